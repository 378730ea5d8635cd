/- Texts put together (a claim holds few files). No claim of its own. -/
import Derived.Test.YtbkaecjkgjkheaaDoorPackH
import Derived.Test.YtbkaecjkgjkheaaDoorPackD
import Derived.Test.YtbkaecjkgjkheaaDoorPackB
import Derived.Laws.AppendOwnNone
/- What twice's List answers. No claim of its own. -/
namespace Go.Proofs.YtbkaecjkgjkheaaDoor.tw
open Go.RowKit
set_option maxRecDepth 20000

theorem info_bytesT : (Tryd.prog.info? 22).map (fun i => (i.zero, i.size, i.bytes)) = some (some (.slice none 0 0), 1, 24) := by kernel_rfl

theorem heap_setCells (b b' : Nat) (hb : b' ≠ b) : ∀ (vs : List Value) (o : Nat) (w : World), (w.setCells b o vs).heap[b']? = w.heap[b']?
  | [], _, _ => rfl
  | v :: r, o, w => (heap_setCells b b' hb r (o + 1) (w.setCell ⟨b, o, none⟩ v)).trans (Below.heap_setCell w ⟨b, o, none⟩ v b' hb)
/-- a whole array is written; other blocks stay -/
theorem store_lawH {ops : Array Oper} {rest : List Oper} {o : Oper} {a : Act} {Q : Exit → Act → World → Prop} (w : World) (hg : o.guard = none) (x y : Operand) (t : TypeId) (hop : o.op = Op.store t x y) (k : IntKind) (xs ys : List Int) (b : Nat) (hx : a.eval x = .pointer (some ⟨b, 0, none⟩)) (hy : a.eval y = .agg (ints k ys))
    (hA : Ar w b 0 k xs) (n : Nat) (hi : (Tryd.prog.info? t).map (·.size) = some n) (hl : xs.length = n) (hn : ys.length = n)
    (hK : ∀ w', Ar w' b 0 k ys → Below b w w' → (∀ b', b' ≠ b → w'.heap[b']? = w.heap[b']?) → wpList Tryd.prog ops Q rest (a.put o.dst undef) w') :
    wpList Tryd.prog ops Q (o :: rest) a w := by
  have ht : w.there b 0 ys.length := by rw [hn, ← hl]; exact hA.2
  exact store_law w hg x y t hop k ys b 0 hx hy ht n hi hn (hK _ (Ar.whole ht) (below_cells _ (Nat.le_refl _) _ _ (Below.refl _ _)) fun b' hb => heap_setCells b b' hb _ _ _)

/-- a row of n slices in block g; the first k of them hold the sixteen bytes that f tells, in later blocks other than p -/
def Rw (w : World) (g p n k : Nat) (f : Nat → List Int) : Prop :=
  (∀ i, i < n → (w.cell? ⟨g, i, none⟩).isSome = true ∧ w.frozen? ⟨g, i, none⟩ = false) ∧ ∀ i, i < k → ∃ gi, (g < gi ∧ gi ≠ p) ∧ w.cell? ⟨g, i, none⟩ = some (.slice (some ⟨gi, 0, none⟩) 16 16) ∧ Ar w gi 0 .u8 (f i)
theorem Rw.same {w w' : World} {g p n k : Nat} {f : Nat → List Int} (h : Rw w g p n k f) (hg : w'.heap[g]? = w.heap[g]?) (hl : ∀ gi xs, g < gi → gi ≠ p → Ar w gi 0 .u8 xs → xs.length = 16 → Ar w' gi 0 .u8 xs) (hf : ∀ i, (f i).length = 16) : Rw w' g p n k f := by
  refine ⟨fun i hi => ?_, fun i hi => ?_⟩
  · rw [World.cell?_of_block (w := w) (w' := w') (a := ⟨g, i, none⟩) hg, World.frozen?_of_block (w := w) (w' := w') (a := ⟨g, i, none⟩) hg]
    exact h.1 i hi
  · obtain ⟨gi, h1, h2, h3⟩ := h.2 i hi
    refine ⟨gi, h1, ?_, hl gi _ h1.1 h1.2 h3 (hf i)⟩
    rw [World.cell?_of_block (w := w) (w' := w') (a := ⟨g, i, none⟩) hg]
    exact h2
theorem Rw.below {w w' : World} {g p n k : Nat} {f : Nat → List Int} (h : Rw w g p n k f) (hb : Below w.heap.size w w') (hg : g < w.heap.size) (hf : ∀ i, (f i).length = 16) : Rw w' g p n k f :=
  h.same (hb.block g hg) (fun _ _ _ _ hA hl => hA.below hb (hA.lt (by omega))) hf
theorem Rw.other {w w' : World} {g p n k : Nat} {f : Nat → List Int} (h : Rw w g p n k f) (ho : ∀ b', b' ≠ p → w'.heap[b']? = w.heap[b']?) (hg : g ≠ p) (hf : ∀ i, (f i).length = 16) : Rw w' g p n k f :=
  h.same (ho g hg) (fun gi _ _ hp hA _ => hA.heap (ho gi hp)) hf
theorem Rw.set {w : World} {g p n k : Nat} {f : Nat → List Int} (h : Rw w g p n k f) (hk : k < n) (g8 : Nat) (h8 : g < g8 ∧ g8 ≠ p) (hA : Ar w g8 0 .u8 (f k)) : Rw (w.setCell ⟨g, k, none⟩ (.slice (some ⟨g8, 0, none⟩) 16 16)) g p n (k + 1) f := by
  obtain ⟨cv, hc⟩ := Option.isSome_iff_exists.1 (h.1 k hk).1
  refine ⟨fun i hi => ?_, fun i hi => ?_⟩
  · refine ⟨?_, by rw [World.frozen?_setCell]; exact (h.1 i hi).2⟩
    by_cases e : k = i
    · subst e; rw [World.cell?_setCell_same _ _ _ hc]; rfl
    · rw [World.cell?_setCell_other _ _ _ _ (by intro hh; injection hh with _ h2; omega)]; exact (h.1 i hi).1
  · by_cases e : k = i
    · subst e
      exact ⟨g8, h8, World.cell?_setCell_same _ _ _ hc, hA.other (by show g8 ≠ g; omega) _⟩
    · obtain ⟨gi, h1, h2, h3⟩ := h.2 i (by omega)
      exact ⟨gi, h1, by rw [World.cell?_setCell_other _ _ _ _ (by intro hh; injection hh with _ h2; omega)]; exact h2, h3.other (by show gi ≠ g; omega) _⟩

/-- 'make([][]byte, n)' -/
theorem make_lawS {ops : Array Oper} {rest : List Oper} {o : Oper} {a : Act} {Q : Exit → Act → World → Prop} (w : World) (hg : o.guard = none) (l c : Operand) (hop : o.op = Op.makeSlice 66 l c)
    (L : Int) (n : Nat) (hl : a.eval l = .int .i64 L) (hc : a.eval c = .int .i64 L) (hL : L = (n : Int)) (hn : n ≤ 1000000) (f : Nat → List Int)
    (hK : ∀ w', (∀ p, Rw w' w.heap.size p n 0 f) → Below w.heap.size w w' → w.heap.size < w'.heap.size → wpList Tryd.prog ops Q rest (a.put o.dst (.slice (some ⟨w.heap.size, 0, none⟩) n n)) w') :
    wpList Tryd.prog ops Q (o :: rest) a w := by
  obtain ⟨i0, hi, hz0, hz1, hz2⟩ := info_parts info_bytesT
  refine wpList_make_full w hg l c 66 hop w.heap.size 22 i0 (.slice none 0 0) 1 Tryd.underlying66 hi hz0 hz1 .i64 .i64 L L n hl hc hL hL (by rw [hz2]; omega) (by simp only [maxLen]; omega) (Nat.le_refl _) fun w' h1 h2 => ?_
  have hlt : w.heap.size < w'.heap.size := (h1.lt w.heap.size rfl).2
  refine hK w' (fun p => ⟨fun i hi => ?_, fun i hi => by omega⟩) ((Below.refl _ w).grown h2 (Nat.le_refl _) (fun k hk => by cases hk)) hlt
  refine ⟨?_, h1.frozenAt i⟩
  rw [h1.cellAt i (by omega)]
  have e : (madeCells (Value.slice none 0 0).cells (n * 1)).toList = List.replicate n (Value.slice none 0 0) := by
    rw [Nat.mul_one]
    show (madeCells #[Value.slice none 0 0] n).toList = _
    rw [toList_madeCells_one]
  rw [e]
  simp [hi]

set_option linter.unusedSimpArgs false in
set_option maxRecDepth 20000 in
set_option maxHeartbeats 4000000 in
theorem list_any (v : Value) (xs : List Int) (n : Nat) (w : World) (hv : Byt w v xs) (hl : xs.length = 16) (hn : n ≤ 256) :
    Calls Tryd.prog 87 #[v, .int .i64 n] w fun e w' => ∃ g, e = .returned (.tuple #[.slice (some ⟨g, 0, none⟩) n n, .int .i64 0]) ∧ (∃ p, Rw w' g p n n (fun k => bt16 (tdn (nm16 xs) k))) ∧ g < w'.heap.size ∧ w.heap.size ≤ g ∧ Below w.heap.size w w' := by
  have HOF : Hid (∀ w', Below w.heap.size w w' → Calls Tryd.prog 101 #[v] w' fun e w'' => e = .returned (.agg (ints .u8 xs)) ∧ Below w'.heap.size w' w'') := fun w' h => tof_any v xs w' (hv.below h) hl
  have HX : Hid (B16 xs) := ⟨hl, hv.all⟩
  have HE : Hid (bt16 (tdn (nm16 xs) 0) = xs) := bt_nm xs ⟨hl, hv.all⟩
  have HD : Hid (∀ k w', Calls Tryd.prog 103 #[.agg (ints .u8 (bt16 (tdn (nm16 xs) k)))] w' fun e w'' => e = .returned (.agg (ints .u8 (bt16 (tdn (nm16 xs) (k + 1))))) ∧ Below w'.heap.size w' w'') := fun k w' => pdbl_any _ w' (tdn_lt _ k (nm16_lt xs hv.all))
  have HLS : Hid (∀ k w', Calls Tryd.prog 102 #[.agg (ints .u8 (bt16 (tdn (nm16 xs) k)))] w' fun e w'' => ∃ g, e = .returned (.slice (some ⟨g, 0, none⟩) 16 16) ∧ Ar w'' g 0 .u8 (bt16 (tdn (nm16 xs) k)) ∧ w'.heap.size ≤ g ∧ Below w'.heap.size w' w'') := fun k w' => tlst_any _ w' (bt16_len _) (bt16_all _)
  have HLN : Hid (∀ k, (bt16 (tdn (nm16 xs) k)).length = 16) := fun k => bt16_len _
  obtain ⟨ao, ca, rfl, ha1, ha2, ha3, ha4, ha5⟩ := hv
  rw [hl] at HOF ha1 ⊢
  clear ha3 ha4 ha5 hl
  obtain ⟨f, hf⟩ : ∃ f : Nat → List Int, f = fun k => bt16 (tdn (nm16 xs) k) := ⟨_, rfl⟩
  have ef : ∀ k, bt16 (tdn (nm16 xs) k) = f k := fun k => by rw [hf]
  rw [← hf]
  rw [ef] at HE
  simp only [ef] at HD HLS HLN
  clear ef hf
  have n0 : (0 : Int) ≤ (n : Int) := by omega
  have n1 : (n : Int) ≤ 256 := by omega
  go_enter Tryd.func87, Tryd.ntmps87
  go_wp2_with (first
    | (have q3 := s3; refine store_lawH _ rfl (.tmp 7) (.tmp 23) 123 rfl .u8 z16 xs w2.heap.size rfl rfl HA3.out 16 i_poly z16_len HX.out.1 ?_; intro w4 A4 B4 O4; have HA4 : Hid (Ar w4 w2.heap.size 0 .u8 (f 0)) := (by show Ar _ _ _ _ _; rw [HE.out]; exact A4); have HR4 : Hid (Rw w4 w.heap.size w2.heap.size n 0 f) := HR3.out.other O4 (by omega) HLN.out; clear A4 O4)
    | (have q2 := s2; refine new_lawF _ rfl 123 rfl .u8 z16 z_poly ?_; intro w3 A3 B3 s3; have HA3 : Hid (Ar w3 w2.heap.size 0 .u8 z16) := A3; have HR3 : Hid (Rw w3 w.heap.size w2.heap.size n 0 f) := ((HR1.out _).below B2 s1 HLN.out).below B3 (by omega) HLN.out; clear A3)
    | (have q1 := s1; go_at_call 101; refine (HOF.out _ B1).mono ?_; rintro e w2 ⟨rfl, B2⟩; have s2 := B2.size)
    | (at_make; refine make_lawS _ rfl _ _ rfl _ n rfl rfl rfl (by omega) f ?_; intro w1 R1 B1 s1; have HR1 : Hid (∀ p, Rw w1 w.heap.size p n 0 f) := R1; clear R1))
  have BW : Below w.heap.size w w4 := ((B1.trans (B2.mono (by omega))).trans (B3.mono (by omega))).trans (B4.mono (by omega))
  have og : w.heap.size < w2.heap.size := by omega
  clear HR1 HR3 HA3
  generalize hg0 : w.heap.size = g0 at *
  generalize w2.heap.size = g1 at *
  go_loopw [26] (fun i wr => ∃ k : Nat, k ≤ n ∧ i = .int .i64 k ∧ Ar wr g1 0 .u8 (f k) ∧ Rw wr g0 g1 n k f ∧ Below g0 w wr) (fun i _ => n - (intOf i).toNat)
  case atStart => exact ⟨0, Nat.zero_le _, rfl, HA4.out, HR4.out, BW⟩
  case round =>
    obtain ⟨k, hk, rfl, hA, hR, hB⟩ := hrel
    obtain ⟨wa, rfl⟩ : ∃ wx, wx = wr := ⟨_, rfl⟩
    have k0 : (0 : Int) ≤ (k : Int) := by omega
    have q1 : IntKind.i64.wrap (k : Int) = k := by rw [IntKind.wrap_i64]; omega
    have HA : Hid (Ar wa g1 0 .u8 (f k)) := hA
    have HR : Hid (Rw wa g0 g1 n k f) := hR
    have HB : Hid (Below g0 w wa) := hB
    have oa : g1 < wa.heap.size := hA.lt (by rw [HLN.out]; omega)
    clear hA hB hR
    by_cases hlt : k < n
    · have k1 : (k : Int) < (n : Int) := by omega
      have HDk : Hid (∀ w', Calls Tryd.prog 103 #[.agg (ints .u8 (f k))] w' fun e w'' => e = .returned (.agg (ints .u8 (f (k + 1)))) ∧ Below w'.heap.size w' w'') := HD.out k
      have HLk : Hid (∀ w', Calls Tryd.prog 102 #[.agg (ints .u8 (f k))] w' fun e w'' => ∃ g, e = .returned (.slice (some ⟨g, 0, none⟩) 16 16) ∧ Ar w'' g 0 .u8 (f k) ∧ w'.heap.size ≤ g ∧ Below w'.heap.size w' w'') := HLS.out k
      have HL2 : Hid ((f k).length = 16 ∧ (f (k + 1)).length = 16) := ⟨HLN.out _, HLN.out _⟩
      obtain ⟨p0, hp0⟩ : ∃ p, p = f k := ⟨_, rfl⟩
      have HP0 : Hid (p0 = f k) := hp0
      rw [← hp0] at HDk HLk HL2 HA
      clear hp0
      go_wp2_with (first
        | (have q8 := s8; refine store_lawH _ rfl (.tmp 7) (.tmp 35) 123 rfl .u8 p0 (f (k + 1)) g1 rfl rfl HA8.out 16 i_poly HL2.out.1 HL2.out.2 ?_; intro w9 A9 B9 O9; have HA9 : Hid (Ar w9 g1 0 .u8 (f (k + 1))) := A9; have HR9 : Hid (Rw w9 g0 g1 n (k + 1) f) := HR8.out.other O9 (by omega) HLN.out; have HB9 : Hid (Below g0 w w9) := HB8.out.trans (B9.mono (by omega)); clear A9 B9 O9)
        | (have q7 := o7; go_at_call 103; refine (HDk.out _).mono ?_; rintro e w8 ⟨rfl, B8⟩; have s8 := B8.size; have HA8 : Hid (Ar w8 g1 0 .u8 p0) := HA7.out.below B8 o7; have HR8 : Hid (Rw w8 g0 g1 n (k + 1) f) := HR7.out.below B8 (by omega) HLN.out; have HB8 : Hid (Below g0 w w8) := HB7.out.trans (B8.mono (by omega)); clear B8)
        | (have q7 := o7; refine load_law _ rfl (.tmp 7) 123 rfl .u8 p0 g1 0 rfl HA7.out 16 5 Tryd.underlying123 i_poly HL2.out.1 ?_)
        | (go_at_call 102; refine (HLk.out _).mono ?_; rintro e w6 ⟨g6, rfl, A6, h6, B6⟩; have s6 := B6.size; have HA6 : Hid (Ar w6 g1 0 .u8 p0) := HA.out.below B6 oa; have HR6 : Hid (Rw w6 g0 g1 n k f) := HR.out.below B6 (by omega) HLN.out; have HB6 : Hid (Below g0 w w6) := HB.out.trans (B6.mono (by omega)); obtain ⟨cv, c6⟩ := Option.isSome_iff_exists.1 (HR6.out.1 k hlt).1; have f6 := (HR6.out.1 k hlt).2; have HA7 : Hid (Ar (w6.setCell ⟨g0, k, none⟩ (.slice (some ⟨g6, 0, none⟩) 16 16)) g1 0 .u8 p0) := HA6.out.other (by show g1 ≠ g0; omega) _; have HR7 : Hid (Rw (w6.setCell ⟨g0, k, none⟩ (.slice (some ⟨g6, 0, none⟩) 16 16)) g0 g1 n (k + 1) f) := HR6.out.set hlt g6 ⟨by omega, by omega⟩ (by rw [← HP0.out]; exact A6); have HB7 : Hid (Below g0 w (w6.setCell ⟨g0, k, none⟩ (.slice (some ⟨g6, 0, none⟩) 16 16))) := HB6.out.setCell (by show g0 ≤ g0; omega) _; have o7 : g1 < (w6.setCell ⟨g0, k, none⟩ (.slice (some ⟨g6, 0, none⟩) 16 16)).heap.size := HA7.out.lt (by rw [HL2.out.1]; omega); clear A6 B6)
        | (refine load_law _ rfl (.tmp 7) 123 rfl .u8 p0 g1 0 rfl HA.out 16 5 Tryd.underlying123 i_poly HL2.out.1 ?_))
      go_roundw
      case rel => exact ⟨k + 1, by omega, by go_num, HA9.out, HR9.out, HB9.out⟩
      case measure => simp [intOf]; omega
    · have hkn : k = n := by omega
      subst hkn
      go_wp2
      go_ret2
      exact ⟨g0, rfl, ⟨g1, HR.out⟩, by omega, by omega, by rw [hg0]; exact HB.out⟩

set_option maxHeartbeats 2000000 in
theorem list_no (v : Value) (xs : List Int) (n : Int) (w : World) (hv : Byt w v xs) (h : xs.length ≠ 16 ∨ n < 0 ∨ 256 < n) :
    Calls Tryd.prog 87 #[v, .int .i64 n] w fun e w' => e = .returned (.tuple #[.slice none 0 0, .int .i64 2]) ∧ w' = w := by
  obtain ⟨ao, ca, rfl, ha1, ha2, -, -, -⟩ := hv
  by_cases hl : xs.length = 16
  · rw [hl] at ha1 ⊢
    by_cases h0 : n < 0
    · have h0' : (n < 0) = True := by simp [h0]
      go_enter Tryd.func87, Tryd.ntmps87
      go_wp2
      go_ret2
      exact ⟨rfl, rfl⟩
    · have h1 : 256 < n := by omega
      have h2 : 0 ≤ n := by omega
      go_enter Tryd.func87, Tryd.ntmps87
      go_wp2
      go_ret2
      exact ⟨rfl, rfl⟩
  · have h2 : ((xs.length : Int) != 16) = true := by simp; omega
    go_enter Tryd.func87, Tryd.ntmps87
    go_wp2
    go_ret2
    exact ⟨rfl, rfl⟩
end Go.Proofs.YtbkaecjkgjkheaaDoor.tw

/- What xts' Masks answers. No claim of its own. -/
namespace Go.Proofs.YtbkaecjkgjkheaaDoor.xt
open Go.RowKit
set_option maxRecDepth 20000

/-- a row of n masks in block g -/
def Msks (w : World) (g n M : Nat) : Prop := (∃ p, tw.Rw w g p n n (fun k => msk M k)) ∧ g < w.heap.size
theorem Msks.below {w w' : World} {g n M : Nat} (h : Msks w g n M) (hb : Below w.heap.size w w') : Msks w' g n M := by
  obtain ⟨⟨p, h1⟩, h2⟩ := h
  exact ⟨⟨p, h1.below hb h2 (fun i => (msk_blk M i).1)⟩, Nat.lt_of_lt_of_le h2 hb.size⟩
theorem Msks.at_ {w : World} {g n M : Nat} (h : Msks w g n M) (k : Nat) (hk : k < n) : ∃ gi, w.cell? ⟨g, k, none⟩ = some (.slice (some ⟨gi, 0, none⟩) 16 16) ∧ Byt w (.slice (some ⟨gi, 0, none⟩) 16 16) (msk M k) := by
  obtain ⟨⟨p, h1⟩, h2⟩ := h
  obtain ⟨gi, -, h3, h4⟩ := h1.2 k hk
  exact ⟨gi, h3, h4.bytG (msk_blk M k).2 16 16 (msk_blk M k).1 (by omega) (by omega)⟩

set_option maxHeartbeats 2000000 in
theorem masks_any (c : Nat) (v : Value) (dk tk ab : List Int) (n : Nat) (w : World) (hc : Cip w c dk tk) (htl : tk.length = 32) (hta : AllB tk) (hv : Byt w v ab) (hal : ab.length = 16) (hn : n ≤ 256) :
    Calls Tryd.prog 61 #[.pointer (some ⟨c, 0, none⟩), v, .int .i64 (n : Int)] w fun e w' => ∃ g, e = .returned (.tuple #[.slice (some ⟨g, 0, none⟩) n n, .int .i64 0]) ∧ Msks w' g n (nm16 (encr tk ab)) ∧ w.heap.size ≤ g ∧ Below w.heap.size w w' := by
  obtain ⟨kd, kt, c0, c1, -, k1⟩ := hc
  have zb := encr_blk tk htl hta ab ⟨hal, hv.all⟩
  have S1 : Hid (Calls Tryd.prog 45 #[.pointer (some ⟨kt, 0, none⟩), v] w fun e w' => ∃ g, e = .returned (.tuple #[.slice (some ⟨g, 0, none⟩) 16 16, .int .i64 0]) ∧ Ar w' g 0 .u8 (encr tk ab) ∧ w.heap.size ≤ g ∧ Below w.heap.size w w') := encrypt_any v ab tk kt w k1 htl hta hv hal
  have S2 : Hid (∀ u w0, Byt w0 u (encr tk ab) → Calls Tryd.prog 87 #[u, .int .i64 (n : Int)] w0 fun e w' => ∃ g, e = .returned (.tuple #[.slice (some ⟨g, 0, none⟩) n n, .int .i64 0]) ∧ Msks w' g n (nm16 (encr tk ab)) ∧ w0.heap.size ≤ g ∧ Below w0.heap.size w0 w') := fun u w0 h =>
    (tw.list_any u (encr tk ab) n w0 h zb.1 hn).mono fun _ _ ⟨g, h1, h2, h3, h4, h5⟩ => ⟨g, h1, ⟨h2, h3⟩, h4, h5⟩
  have ZB : Hid ((encr tk ab).length = 16 ∧ AllB (encr tk ab)) := ⟨zb.1, zb.2⟩
  generalize nm16 (encr tk ab) = M at *
  generalize encr tk ab = zs at *
  clear c0 k1 zb hal htl hta hv
  go_enter Tryd.func61, Tryd.ntmps61
  go_wp2_with (first
    | (have q1 := L1; go_at_call 87; refine (S2.out _ _ Y1.out).mono ?_; rintro e w2 ⟨g2, rfl, m2, L2, B2⟩; have M2 : Hid (Msks w2 g2 n M) := m2; clear m2)
    | (go_at_call 45; refine (S1.out).mono ?_; rintro e w1 ⟨g1, rfl, a1, L1, B1⟩; have Y1 : Hid (Byt w1 (.slice (some ⟨g1, 0, none⟩) 16 16) zs) := a1.bytG ZB.out.2 16 16 ZB.out.1 (by omega) (by omega); clear a1))
  have z1 := B1.size
  go_ret2
  exact ⟨_, rfl, M2.out, by omega, B1.trans (B2.mono z1)⟩

set_option maxHeartbeats 1000000 in
theorem masks_nil (v : Value) (n : Int) (w : World) :
    Calls Tryd.prog 61 #[.pointer none, v, .int .i64 n] w fun e w' => e = .returned (.tuple #[.slice none 0 0, .int .i64 2]) ∧ w' = w := by
  go_enter Tryd.func61, Tryd.ntmps61
  go_wp2
  go_ret2
  exact ⟨rfl, rfl⟩

set_option maxHeartbeats 1000000 in
theorem masks_raw (c : Nat) (p v : Value) (n : Int) (w : World) (c1 : w.cell? ⟨c, 1, none⟩ = some p) (hp : ∃ q, p = .pointer q) (ht : Calls Tryd.prog 63 #[p, v] w fun e w' => e = .returned (.bool false) ∧ w' = w) :
    Calls Tryd.prog 61 #[.pointer (some ⟨c, 0, none⟩), v, .int .i64 n] w fun e w' => e = .returned (.tuple #[.slice none 0 0, .int .i64 2]) ∧ w' = w := by
  have S1 : Hid (Calls Tryd.prog 45 #[p, v] w fun e w' => e = .returned (.tuple #[.slice none 0 0, .int .i64 2]) ∧ w' = w) := encrypt_no p v w ht
  clear ht
  obtain ⟨q, rfl⟩ := hp
  go_enter Tryd.func61, Tryd.ntmps61
  go_wp2_with (go_at_call 45; refine (S1.out).mono ?_; rintro e wx ⟨rfl, hw⟩; obtain rfl := hw.symm)
  go_ret2
  exact ⟨rfl, rfl⟩

theorem masks_len (c : Nat) (v : Value) (dk tk ab : List Int) (n : Int) (w : World) (hc : Cip w c dk tk) (hv : Byt w v ab) (hal : ¬ ab.length = 16) :
    Calls Tryd.prog 61 #[.pointer (some ⟨c, 0, none⟩), v, .int .i64 n] w fun e w' => e = .returned (.tuple #[.slice none 0 0, .int .i64 2]) ∧ w' = w := by
  obtain ⟨kd, kt, c0, c1, -, k1⟩ := hc
  exact masks_raw c _ v n w c1 ⟨_, rfl⟩ (takes_len v ab tk kt w k1 hv hal)

set_option maxHeartbeats 2000000 in
theorem masks_n (c : Nat) (v : Value) (dk tk ab : List Int) (n : Int) (w : World) (hc : Cip w c dk tk) (htl : tk.length = 32) (hta : AllB tk) (hv : Byt w v ab) (hal : ab.length = 16) (hn : n < 0 ∨ 256 < n) :
    Calls Tryd.prog 61 #[.pointer (some ⟨c, 0, none⟩), v, .int .i64 n] w fun e w' => e = .returned (.tuple #[.slice none 0 0, .int .i64 2]) ∧ Below w.heap.size w w' := by
  obtain ⟨kd, kt, c0, c1, -, k1⟩ := hc
  have zb := encr_blk tk htl hta ab ⟨hal, hv.all⟩
  have S1 : Hid (Calls Tryd.prog 45 #[.pointer (some ⟨kt, 0, none⟩), v] w fun e w' => ∃ g, e = .returned (.tuple #[.slice (some ⟨g, 0, none⟩) 16 16, .int .i64 0]) ∧ Ar w' g 0 .u8 (encr tk ab) ∧ w.heap.size ≤ g ∧ Below w.heap.size w w') := encrypt_any v ab tk kt w k1 htl hta hv hal
  have S2 : Hid (∀ u w0, Byt w0 u (encr tk ab) → Calls Tryd.prog 87 #[u, .int .i64 n] w0 fun e w' => e = .returned (.tuple #[.slice none 0 0, .int .i64 2]) ∧ w' = w0) := fun u w0 h => tw.list_no u (encr tk ab) n w0 h (Or.inr hn)
  have ZB : Hid ((encr tk ab).length = 16 ∧ AllB (encr tk ab)) := ⟨zb.1, zb.2⟩
  generalize encr tk ab = zs at *
  clear c0 k1 zb hal htl hta hv hn
  go_enter Tryd.func61, Tryd.ntmps61
  go_wp2_with (first
    | (have q1 := L1; go_at_call 87; refine (S2.out _ _ Y1.out).mono ?_; rintro e wx ⟨rfl, hw⟩; obtain rfl := hw.symm)
    | (go_at_call 45; refine (S1.out).mono ?_; rintro e w1 ⟨g1, rfl, a1, L1, B1⟩; have Y1 : Hid (Byt w1 (.slice (some ⟨g1, 0, none⟩) 16 16) zs) := a1.bytG ZB.out.2 16 16 ZB.out.1 (by omega) (by omega); clear a1))
  go_ret2
  exact ⟨rfl, B1⟩
end Go.Proofs.YtbkaecjkgjkheaaDoor.xt

/- Rows of slices that a call has made, words of four bytes in them; 'append' of bytes and of a slice. No claim of its own. -/
namespace Go.Proofs.YtbkaecjkgjkheaaDoor
open Go.RowKit
set_option maxRecDepth 20000

/-- 'append(out, s...)' of bytes, out of the call's own -/
theorem pushs_lawG {ops : Array Oper} {rest : List Oper} {o : Oper} {a : Act} {Q : Exit → Act → World → Prop} (w : World) (hg : o.guard = none) (s x : Operand) (hop : o.op = .call { callee := .builtin .append, args := #[s, x], argTypes := #[22, 22] })
    (B : Nat) (hB : B ≤ w.heap.size) (v vy : Value) (xs ys : List Int) (hs : a.eval s = v) (hx : a.eval x = vy) (hown : Own B w v xs) (hy : Byt w vy ys) (hn : xs.length ≤ 1099511627776) (hm : ys.length ≤ 1099511627776)
    (hK : ∀ v' w', Own B w' v' (xs ++ ys) → Below B w w' → wpList Tryd.prog ops Q rest (a.put o.dst v') w') :
    wpList Tryd.prog ops Q (o :: rest) a w := by
  obtain ⟨i0, hi, hz0, hz1, hz2⟩ := info_parts info_u8
  obtain ⟨ao, cap, rfl, h1, h2, h3, h4, h5⟩ := hy
  cases ao with
  | none =>
    have hc := h4 rfl
    subst hc
    have : ys = [] := List.eq_nil_of_length_eq_zero (by omega)
    subst this
    refine wpList_append_own_none hg s x 22 hop B 5 i0 1 Tryd.underlying22 hi v xs.length _ hs hown hx (hK v w ?_ (Below.refl _ _))
    rwa [List.append_nil]
  | some ad =>
    refine wpList_append_own _ hg s x 22 hop B 5 i0 (.int .u8 0) 1 1 Tryd.underlying22 hi hz0 hz1 hz2 rfl (by decide) v xs.length _ hs hown ad ys.length cap (ys.map (Value.int .u8)) hx (by simp) ?_ ?_ (by simp only [maxLen]; omega) (by omega) hB fun v' w' h1 h2 _ => ?_
    · intro j u hj
      have hjl : j < ys.length := by have := (List.getElem?_eq_some_iff.1 hj).1; simpa using this
      obtain ⟨b, off, e, hc⟩ := h5 (by omega)
      cases e
      rw [Addr.add_mid, hc j hjl, ← hj]
      simp [gb, List.getD, hjl]
    · intro u hu
      simp only [List.mem_map] at hu
      obtain ⟨y, _, rfl⟩ := hu
      rfl
    · refine hK v' w' ?_ ?_
      · show w'.ownsRow B 5 1 v' (xs ++ ys).length ((xs ++ ys).map (Value.int .u8))
        simpa using h1
      · exact (Below.refl B w).grown h2 hB fun k hk => (World.ownsRow.lt hown k hk).1

theorem info_bytes : (Tryd.prog.info? 22).map (fun i => (i.zero, i.size, i.bytes)) = some (some (.slice none 0 0), 1, 24) := by kernel_rfl
theorem und_bytess : Tryd.prog.underlying 66 = some (.slice (Tryd.prog.elem 66)) := by kernel_rfl
theorem elem_bytess : Tryd.prog.elem 66 = 22 := by kernel_rfl

/-- v owns the slices us, in a block from B on -/
def OwnS (B : Nat) (w : World) (v : Value) (us : List Value) : Prop := w.ownsRow B 22 1 v us.length us
theorem OwnS.empty (w : World) {B : Nat} (hB : B ≤ w.heap.size) : OwnS B (w.alloc (.cells #[] 22)) (.slice (some ⟨w.heap.size, 0, none⟩) 0 0) [] :=
  World.ownsRow_made w #[] 0 hB (by simp [maxLen]) (by simp)
theorem OwnS.at_ {B : Nat} {w : World} {v : Value} {us : List Value} (h : OwnS B w v us) (hp : 0 < us.length) :
    ∃ g cap cur, v = .slice (some ⟨g, 0, none⟩) us.length cap ∧ us.length ≤ cap ∧ cap ≤ 9223372036854775807 ∧ B ≤ g ∧ w.heap[g]? = some (.cells cur 22 (0, 0)) ∧ ∀ t u, us[t]? = some u → w.cell? ⟨g, t, none⟩ = some u := by
  rcases h.2 with ⟨rfl, hn⟩ | ⟨g, cap, cur, rfl, hg, hb, hc, hm, hs, ht⟩
  · omega
  · refine ⟨g, cap, cur, rfl, hc, by simpa [maxLen] using hm, hg, hb, fun t u hu => ?_⟩
    have := World.ownsRow.cells h (g := g) rfl t u hu
    rwa [Addr.add_lit, Nat.zero_add] at this
theorem OwnS.below {B : Nat} {w w' : World} {v : Value} {us : List Value} (h : OwnS B w v us) (hb : Below w.heap.size w w') : OwnS B w' v us :=
  World.ownsRow.kept (row := none) h ⟨hb.os, hb.tape, hb.output, hb.size, fun j hj _ => hb.block j hj⟩ (by cases hv : v.ownBlock <;> simp)

/-- u is a slice of the four bytes x, which lie below B or in a block of bytes -/
def Wrd4 (B : Nat) (w : World) (u : Value) (x : List Int) : Prop :=
  ∃ b off cap, u = .slice (some ⟨b, off, none⟩) 4 cap ∧ 4 ≤ cap ∧ cap ≤ 9223372036854775807 ∧ (b < B ∨ ∃ cur f, w.heap[b]? = some (.cells cur 5 f)) ∧ ∀ j, j < 4 → w.cell? ⟨b, off + j, none⟩ = some (.int .u8 (gb x j))
theorem Wrd4.byt {B : Nat} {w : World} {u : Value} {x : List Int} (h : Wrd4 B w u x) (hx : Wd x) : Byt w u x := by
  obtain ⟨b, off, cap, rfl, h1, h2, _, h4⟩ := h
  exact ⟨some ⟨b, off, none⟩, cap, by rw [hx.1], by rw [hx.1]; exact h1, h2, hx.2, (by intro h; cases h), fun _ => ⟨b, off, rfl, fun t ht => h4 t (by rw [hx.1] at ht; exact ht)⟩⟩
theorem Wrd4.below {B : Nat} {w w' : World} {u : Value} {x : List Int} (h : Wrd4 B w u x) (hb : Below w.heap.size w w') : Wrd4 B w' u x := by
  obtain ⟨b, off, cap, rfl, h1, h2, h3, h4⟩ := h
  have hlt : b < w.heap.size := World.block_lt_of_cell? w _ (h4 0 (by omega))
  refine ⟨b, off, cap, rfl, h1, h2, ?_, fun j hj => by rw [hb.cell hlt]; exact h4 j hj⟩
  rw [hb.block b hlt]; exact h3
/-- it lasts when a row of slices of the call's own grows -/
theorem Wrd4.grown {B : Nat} {w w' : World} {u v : Value} {x : List Int} {us : List Value} (h : Wrd4 B w u x) (ho : OwnS B w v us) (hg : w.grownBy w' v.ownBlock) : Wrd4 B w' u x := by
  obtain ⟨b, off, cap, rfl, h1, h2, h3, h4⟩ := h
  have hlt : b < w.heap.size := World.block_lt_of_cell? w _ (h4 0 (by omega))
  have hne : some b ≠ v.ownBlock := by
    rcases ho.2 with ⟨rfl, _⟩ | ⟨g, cap, cur, rfl, hgB, hb, _⟩
    · simp [Value.ownBlock]
    · intro e
      simp [Value.ownBlock] at e
      subst e
      rcases h3 with h3 | ⟨cur', f, h3⟩
      · omega
      · rw [hb] at h3
        injection h3 with h3
        injection h3 with _ h5
        exact absurd h5 (by decide)
  have e := hg.block b hlt hne
  refine ⟨b, off, cap, rfl, h1, h2, by rw [e]; exact h3, fun j hj => ?_⟩
  rw [World.cell?_of_block (w := w) (w' := w') (a := ⟨b, off + j, none⟩) e]; exact h4 j hj
theorem Own.wrd4 {B B' : Nat} {w : World} {v : Value} {x : List Int} (h : Own B' w v x) (hx : Wd x) : Wrd4 B w v x := by
  have hb := h.byt hx.2
  rcases h.2 with ⟨rfl, hn⟩ | ⟨g, cap, cur, rfl, hg, hbb, hc, hm, hs, ht⟩
  · rw [hx.1] at hn; omega
  · obtain ⟨ao, cap', e, h1, h2, h3, h4, h5⟩ := hb
    obtain ⟨b, off, rfl, hcell⟩ := h5 (by rw [hx.1]; omega)
    injection e with e1 e2 e3
    injection e1 with e1
    injection e1 with e4 e5
    subst e4 e3 e5
    refine ⟨g, 0, cap, by rw [hx.1], by rw [← hx.1]; exact h1, h2, Or.inr ⟨cur, (0, 0), hbb⟩, fun j hj => hcell j (by rw [hx.1]; exact hj)⟩

section
variable {ops : Array Oper} {rest : List Oper} {o : Oper} {a : Act} {Q : Exit → Act → World → Prop}
/-- 'append(w, u)' of a slice, w of the call's own -/
theorem push_lawS (w0 : World) (hg : o.guard = none) (s x : Operand) (hop : o.op = .call { callee := .builtin .append, args := #[s, x], argTypes := #[66, 66] })
    (B : Nat) (hB : B ≤ w0.heap.size) (v : Value) (us : List Value) (u : Value) (hu : u.oneCell' = true) (hs : a.eval s = v) (hx : a.eval x = .slice (some ⟨w0.heap.size, 0, none⟩) 1 1) (hown : OwnS B w0 v us) (hn : us.length ≤ 1000)
    (hK : ∀ v' w', OwnS B w' v' (us ++ [u]) → Below B w0 w' → (∀ u' y, Wrd4 B w0 u' y → Wrd4 B w' u' y) → wpList Tryd.prog ops Q rest (a.put o.dst v') w') :
    wpList Tryd.prog ops Q (o :: rest) a (w0.alloc (.cells #[u] 22)) := by
  obtain ⟨i0, hi, hz0, hz1, hz2⟩ := info_parts info_bytes
  have hown2 : OwnS B (w0.alloc (.cells #[u] 22)) v us := World.ownsRow.alloc hown _
  refine wpList_append_own _ hg s x 66 hop B 22 i0 (.slice none 0 0) 1 24 Tryd.underlying66 hi hz0 hz1 hz2 rfl (by decide) v us.length _ hs hown2 ⟨w0.heap.size, 0, none⟩ 1 1 [u] hx rfl ?_ ?_ (by simp only [maxLen]; omega) (by omega) (by simp; omega) fun v' w' h1 h2 _ => ?_
  · intro j y hj
    match j, hj with
    | 0, hj => simp at hj; subst hj; simp [Addr.add]
  · intro y hy; simp at hy; subst hy; exact hu
  · refine hK v' w' ?_ ?_ fun u' y h => (h.below ((Below.refl _ _).alloc (Nat.le_refl _) _)).grown hown2 h2
    · show w'.ownsRow B 22 1 v' (us ++ [u]).length (us ++ [u])
      simpa using h1
    · refine ((Below.refl B w0).alloc hB _).grown h2 (by simp; omega) fun k hk => ?_
      exact (World.ownsRow.lt hown k hk).1
end

section
variable {ops : Array Oper} {o : Oper} {a : Act} {Q : Exit → Act → World → Prop} {K : Act → World → Prop} {E : Prop}
/-- '[]byte{x0, x1, x2, x3}' in a region that draws its order -/
theorem step_build4 (w : World) (hg : o.guard = none) (d : Option Tmp) (hd : o.dst = d) (x0 x1 x2 x3 : Operand) (hop : o.op = Op.buildSlice 22 4 #[(0, x0), (1, x1), (2, x2), (3, x3)]) (c0 c1 c2 c3 : Int)
    (h0 : a.eval x0 = .int .u8 c0) (h1 : a.eval x1 = .int .u8 c1) (h2 : a.eval x2 = .int .u8 c2) (h3 : a.eval x3 = .int .u8 c3)
    (hK : ∀ w', Ar w' w.heap.size 0 .u8 [c0, c1, c2, c3] → Below w.heap.size w w' → w.heap.size < w'.heap.size → K (a.put d (.slice (some ⟨w.heap.size, 0, none⟩) 4 4)) w') : if Region.wanted o (yielded ops a.tmps) = true then Oper.wp Tryd.prog o a w K Q else E := by
  have hw : Region.wanted o (yielded ops a.tmps) = true := by simp [Region.wanted, hg]
  rw [if_pos hw]
  subst hd
  have hrun : (Instr.buildSlice 22 4 #[(0, .int .u8 c0), (1, .int .u8 c1), (2, .int .u8 c2), (3, .int .u8 c3)]).run Tryd.prog w = .ok (.slice (some ⟨w.heap.size, 0, none⟩) 4 4) (w.alloc (.cells (ints .u8 [c0, c1, c2, c3]) 5)) := by kernel_rfl
  unfold Oper.wp execOp
  simp only [hop, List.map_toArray, List.map_cons, List.map_nil, h0, h1, h2, h3, Sem.run_bind, Sem.run_pure, Result.andThen_ok, hrun]
  exact hK _ (Ar.new w _ _ _) ((Below.refl _ _).alloc (Nat.le_refl _) _) (by simp)
end
end Go.Proofs.YtbkaecjkgjkheaaDoor

/- What xts' turned answers. No claim of its own. -/
namespace Go.Proofs.YtbkaecjkgjkheaaDoor.xt
open Go.RowKit
set_option maxRecDepth 20000

/-- 'make([]byte, 0, n)': room for n bytes -/
theorem make_room {ops : Array Oper} {rest : List Oper} {o : Oper} {a : Act} {Q : Exit → Act → World → Prop} (w : World) (hg : o.guard = none) (l c : Operand) (hop : o.op = Op.makeSlice 22 l c)
    (C : Int) (n : Nat) (hl : a.eval l = .int .i64 0) (hc : a.eval c = .int .i64 C) (hC : C = (n : Int)) (hn : n ≤ 1099511627776)
    (hK : ∀ v w', Own w.heap.size w' v [] → Below w.heap.size w w' → wpList Tryd.prog ops Q rest (a.put o.dst v) w') :
    wpList Tryd.prog ops Q (o :: rest) a w := by
  obtain ⟨i0, hi, hz0, hz1, hz2⟩ := info_parts info_u8
  refine wpList_make_own w hg l c 22 hop w.heap.size 5 i0 (.int .u8 0) 1 Tryd.underlying22 hi hz0 hz1 .i64 .i64 C n hl hc hC (by rw [hz2]; omega) (by simp only [maxLen]; omega) (Nat.le_refl _) fun w' h1 h2 => ?_
  exact hK _ w' h1 ((Below.refl _ w).grown h2 (Nat.le_refl _) (fun k hk => by cases hk))

set_option linter.unusedSimpArgs false in
set_option maxRecDepth 20000 in
set_option maxHeartbeats 4000000 in
theorem turned_enc (c kd : Nat) (av sv : Value) (dk tk ab s : List Int) (N : Nat) (w : World) (hc : Cip w c dk tk) (hkd : KeyA w kd dk) (hdl : dk.length = 32) (hda : AllB dk) (htl : tk.length = 32) (hta : AllB tk) (ha : Byt w av ab) (hal : ab.length = 16) (hs : Byt w sv s) (hsl : s.length = 16 * N) (hN : 1 ≤ N) (hN' : N ≤ 256) :
    Calls Tryd.prog 44 #[.pointer (some ⟨c, 0, none⟩), av, sv, .func (.func 45) #[.pointer (some ⟨kd, 0, none⟩)] #[]] w fun e w' => ∃ v', e = .returned (.tuple #[v', .int .i64 0]) ∧ Byt w' v' (run (xe dk) (nm16 (encr tk ab)) s N) ∧ Below w.heap.size w w' := by
  have hsa := hs.all
  have HM : Hid (Calls Tryd.prog 61 #[.pointer (some ⟨c, 0, none⟩), av, .int .i64 (N : Int)] w fun e w' => ∃ g, e = .returned (.tuple #[.slice (some ⟨g, 0, none⟩) N N, .int .i64 0]) ∧ Msks w' g N (nm16 (encr tk ab)) ∧ w.heap.size ≤ g ∧ Below w.heap.size w w') := masks_any c av dk tk ab N w hc htl hta ha hal hN'
  have HI : Hid (Calls Tryd.prog 60 #[sv] w fun e w' => e = .returned (.bool true) ∧ w' = w) := sector_any w sv s hs true (by simp; omega)
  have kp : Keeps (xe dk) := fun m b hm hb => xe_blk dk hdl hda m b hm hb
  have HU : Hid (∀ k, k < N → ∀ w' bv mv, KeyA w' kd dk → Byt w' bv (cut16 s k) → Byt w' mv (msk (nm16 (encr tk ab)) k) → Calls Tryd.prog 62 #[bv, mv, .func (.func 45) #[.pointer (some ⟨kd, 0, none⟩)] #[]] w' fun e w'' => ∃ v', e = .returned (.tuple #[v', .int .i64 0]) ∧ Byt w'' v' (xe dk (msk (nm16 (encr tk ab)) k) (cut16 s k)) ∧ Below w'.heap.size w' w'') := fun k hk w' bv mv h1 h2 h3 => under_enc kd bv mv dk _ _ w' h1 hdl hda h2 (cut16_len s k (by omega)) h3 (msk_blk _ k).1
  have HR0 : Hid (run (xe dk) (nm16 (encr tk ab)) s 0 = []) := rfl
  have HRS : Hid (∀ k, run (xe dk) (nm16 (encr tk ab)) s (k + 1) = run (xe dk) (nm16 (encr tk ab)) s k ++ xe dk (msk (nm16 (encr tk ab)) k) (cut16 s k)) := fun k => rfl
  have HRL : Hid (∀ k, k ≤ N → (run (xe dk) (nm16 (encr tk ab)) s k).length = 16 * k ∧ AllB (run (xe dk) (nm16 (encr tk ab)) s k)) := fun k hk => ⟨run_len _ kp _ s hsa k (by omega), run_all _ kp _ s hsa k (by omega)⟩
  have HXL : Hid (∀ k, k < N → (xe dk (msk (nm16 (encr tk ab)) k) (cut16 s k)).length = 16) := fun k hk => (kp _ _ (msk_blk _ k) (cut16_blk s k hsa (by omega))).1
  have HS : Hid (Byt w sv s) := hs
  have HK : Hid (KeyA w kd dk) := hkd
  have lk : kd < w.heap.size := hkd.lt
  clear hkd hc ha hal hdl hda htl hta kp hsa
  generalize nm16 (encr tk ab) = M at *
  obtain ⟨R, hR⟩ : ∃ R : Nat → List Int, R = run (xe dk) M s := ⟨_, rfl⟩
  obtain ⟨X, hX⟩ : ∃ X : Nat → List Int, X = fun k => xe dk (msk M k) (cut16 s k) := ⟨_, rfl⟩
  have ex : ∀ k, xe dk (msk M k) (cut16 s k) = X k := fun k => by rw [hX]
  rw [← hR] at HR0 HRS HRL ⊢
  simp only [ex] at HU HRS HXL
  clear hR hX ex
  obtain ⟨ao, ca, rfl, ha1, ha2, -, -, -⟩ := hs
  have HSL : Hid (s.length = 16 * N) := hsl
  have d1 : (s.length : Int).tdiv 16 = (N : Int) := by rw [Int.tdiv_eq_ediv_of_nonneg (by omega)]; omega
  have d2 : IntKind.i64.wrap (N : Int) = N := by rw [IntKind.wrap_i64]; omega
  have HLN : Hid (s.length ≤ 4096) := by show _ ≤ _; omega
  clear hsl
  go_enter Tryd.func44, Tryd.ntmps44
  go_wp2_with (first
    | (at_make; have q1 := L1; refine make_room _ rfl _ _ rfl _ s.length rfl rfl rfl (by have := HLN.out; omega) ?_; intro v2 w2 O2 B2; have HO2 : Hid (Own w1.heap.size w2 v2 []) := O2; clear O2)
    | (go_at_call 61; refine (HM.out).mono ?_; rintro e w1 ⟨g1, rfl, m1, L1, B1⟩; have M1 : Hid (Msks w1 g1 N M) := m1; clear m1)
    | (go_at_call 60; refine (HI.out).mono ?_; rintro e wx ⟨rfl, hw⟩; obtain rfl := hw.symm))
  have K1 : Hid (KeyA w1 kd dk) := HK.out.below B1 lk
  have S1 : Hid (Byt w1 (.slice ao s.length ca) s) := HS.out.below B1
  have z1 := B1.size
  have HB1 : Hid (Below w.heap.size w w1) := B1
  have HB2 : Hid (Below w1.heap.size w1 w2) := B2
  clear B1 B2 HM HI HK HS
  go_loopw [38, 12] (fun i o wr => ∃ k : Nat, k ≤ N ∧ i = .int .i64 k ∧ Own w1.heap.size wr o (R k) ∧ Below w1.heap.size w1 wr) (fun i _ _ => N - (intOf i).toNat)
  case atStart => exact ⟨0, Nat.zero_le _, rfl, by rw [HR0.out]; exact HO2.out, HB2.out⟩
  case round =>
    obtain ⟨k, hk, rfl, hO, hB⟩ := hrel
    obtain ⟨wa, rfl⟩ : ∃ wx, wx = wr := ⟨_, rfl⟩
    have k0 : (0 : Int) ≤ (k : Int) := by omega
    have q1 : IntKind.i64.wrap (k : Int) = k := by rw [IntKind.wrap_i64]; omega
    have HO : Hid (Own w1.heap.size wa u12 (R k)) := hO
    have HB : Hid (Below w1.heap.size w1 wa) := hB
    clear hO hB
    by_cases hlt : k < N
    · have k1 : (k : Int) < (N : Int) := by omega
      obtain ⟨gi, c1, y1⟩ := (M1.out.below HB.out).at_ k hlt
      have YM : Hid (Byt wa (.slice (some ⟨gi, 0, none⟩) 16 16) (msk M k)) := y1
      have YS : Hid (Byt wa (.slice ao s.length ca) s) := S1.out.below HB.out
      have KA : Hid (KeyA wa kd dk) := K1.out.below HB.out (by have := K1.out.lt; omega)
      have q2 : IntKind.i64.wrap (16 * (k : Int)) = 16 * (k : Int) := by rw [IntKind.wrap_i64]; omega
      have q3 : IntKind.i64.wrap (16 * (k : Int) + 16) = 16 * (k : Int) + 16 := by rw [IntKind.wrap_i64]; omega
      have HUk : Hid (∀ w' bv mv, KeyA w' kd dk → Byt w' bv (cut16 s k) → Byt w' mv (msk M k) → Calls Tryd.prog 62 #[bv, mv, .func (.func 45) #[.pointer (some ⟨kd, 0, none⟩)] #[]] w' fun e w'' => ∃ v', e = .returned (.tuple #[v', .int .i64 0]) ∧ Byt w'' v' (X k) ∧ Below w'.heap.size w' w'') := HU.out k hlt
      have XL : Hid ((X k).length = 16) := HXL.out k hlt
      have RL : Hid ((R k).length = 16 * k) := (HRL.out k hk).1
      clear y1
      go_wp2_with (first
        | (at_builtin; have q5 := s5; refine pushs_lawG _ rfl (.tmp 59) (.tmp 60) rfl w1.heap.size (by have := HB5.out.size; omega) _ v5 (R k) (X k) rfl rfl HO5.out Y5.out (by rw [RL.out]; omega) (by rw [XL.out]; omega) ?_; intro v6 w6 O6 B6; have HO6 : Hid (Own w1.heap.size w6 v6 (R (k + 1))) := (by show Own _ _ _ _; rw [HRS.out]; exact O6); have HB6 : Hid (Below w1.heap.size w1 w6) := HB5.out.trans B6; clear O6 B6)
        | (go_at_call 62; refine (HUk.out _ _ _ KA.out YC.out YM.out).mono ?_; rintro e w5 ⟨v5, rfl, y5, B5⟩; have s5 := B5.size; have Y5 : Hid (Byt w5 v5 (X k)) := y5; have HO5 : Hid (Own w1.heap.size w5 u12 (R k)) := Own.below HO.out B5; have HB5 : Hid (Below w1.heap.size w1 w5) := HB.out.trans (B5.mono (HB.out.size)); clear y5 B5)
        | (refine cut_part _ rfl (.tmp 46) (.tmp 47) (.tmp 49) rfl _ s (16 * (k : Int)) (16 * (k : Int) + 16) (16 * k) (16 * k + 16) rfl rfl rfl (by omega) (by omega) (by omega) (by rw [HSL.out]; omega) YS.out ?_; intro vc yc; have YC : Hid (Byt wa vc (cut16 s k)) := yc; clear yc))
      go_roundw
      case rel => exact ⟨k + 1, by omega, by go_num, HO6.out, HB6.out⟩
      case measure => simp [intOf]; omega
    · have hkn : k = N := by omega
      subst hkn
      go_wp2
      go_ret2
      exact ⟨_, rfl, HO.out.byt (HRL.out k (Nat.le_refl _)).2, HB1.out.trans (HB.out.mono z1)⟩

set_option linter.unusedSimpArgs false in
set_option maxRecDepth 20000 in
set_option maxHeartbeats 4000000 in
theorem turned_dec (c kd : Nat) (av sv : Value) (dk tk ab s : List Int) (N : Nat) (w : World) (hc : Cip w c dk tk) (hkd : KeyA w kd dk) (hdl : dk.length = 32) (hda : AllB dk) (htl : tk.length = 32) (hta : AllB tk) (ha : Byt w av ab) (hal : ab.length = 16) (hs : Byt w sv s) (hsl : s.length = 16 * N) (hN : 1 ≤ N) (hN' : N ≤ 256) :
    Calls Tryd.prog 44 #[.pointer (some ⟨c, 0, none⟩), av, sv, .func (.func 46) #[.pointer (some ⟨kd, 0, none⟩)] #[]] w fun e w' => ∃ v', e = .returned (.tuple #[v', .int .i64 0]) ∧ Byt w' v' (run (xd dk) (nm16 (encr tk ab)) s N) ∧ Below w.heap.size w w' := by
  have hsa := hs.all
  have HM : Hid (Calls Tryd.prog 61 #[.pointer (some ⟨c, 0, none⟩), av, .int .i64 (N : Int)] w fun e w' => ∃ g, e = .returned (.tuple #[.slice (some ⟨g, 0, none⟩) N N, .int .i64 0]) ∧ Msks w' g N (nm16 (encr tk ab)) ∧ w.heap.size ≤ g ∧ Below w.heap.size w w') := masks_any c av dk tk ab N w hc htl hta ha hal hN'
  have HI : Hid (Calls Tryd.prog 60 #[sv] w fun e w' => e = .returned (.bool true) ∧ w' = w) := sector_any w sv s hs true (by simp; omega)
  have kp : Keeps (xd dk) := fun m b hm hb => xd_blk dk hdl hda m b hm hb
  have HU : Hid (∀ k, k < N → ∀ w' bv mv, KeyA w' kd dk → Byt w' bv (cut16 s k) → Byt w' mv (msk (nm16 (encr tk ab)) k) → Calls Tryd.prog 62 #[bv, mv, .func (.func 46) #[.pointer (some ⟨kd, 0, none⟩)] #[]] w' fun e w'' => ∃ v', e = .returned (.tuple #[v', .int .i64 0]) ∧ Byt w'' v' (xd dk (msk (nm16 (encr tk ab)) k) (cut16 s k)) ∧ Below w'.heap.size w' w'') := fun k hk w' bv mv h1 h2 h3 => under_dec kd bv mv dk _ _ w' h1 hdl hda h2 (cut16_len s k (by omega)) h3 (msk_blk _ k).1
  have HR0 : Hid (run (xd dk) (nm16 (encr tk ab)) s 0 = []) := rfl
  have HRS : Hid (∀ k, run (xd dk) (nm16 (encr tk ab)) s (k + 1) = run (xd dk) (nm16 (encr tk ab)) s k ++ xd dk (msk (nm16 (encr tk ab)) k) (cut16 s k)) := fun k => rfl
  have HRL : Hid (∀ k, k ≤ N → (run (xd dk) (nm16 (encr tk ab)) s k).length = 16 * k ∧ AllB (run (xd dk) (nm16 (encr tk ab)) s k)) := fun k hk => ⟨run_len _ kp _ s hsa k (by omega), run_all _ kp _ s hsa k (by omega)⟩
  have HXL : Hid (∀ k, k < N → (xd dk (msk (nm16 (encr tk ab)) k) (cut16 s k)).length = 16) := fun k hk => (kp _ _ (msk_blk _ k) (cut16_blk s k hsa (by omega))).1
  have HS : Hid (Byt w sv s) := hs
  have HK : Hid (KeyA w kd dk) := hkd
  have lk : kd < w.heap.size := hkd.lt
  clear hkd hc ha hal hdl hda htl hta kp hsa
  generalize nm16 (encr tk ab) = M at *
  obtain ⟨R, hR⟩ : ∃ R : Nat → List Int, R = run (xd dk) M s := ⟨_, rfl⟩
  obtain ⟨X, hX⟩ : ∃ X : Nat → List Int, X = fun k => xd dk (msk M k) (cut16 s k) := ⟨_, rfl⟩
  have ex : ∀ k, xd dk (msk M k) (cut16 s k) = X k := fun k => by rw [hX]
  rw [← hR] at HR0 HRS HRL ⊢
  simp only [ex] at HU HRS HXL
  clear hR hX ex
  obtain ⟨ao, ca, rfl, ha1, ha2, -, -, -⟩ := hs
  have HSL : Hid (s.length = 16 * N) := hsl
  have d1 : (s.length : Int).tdiv 16 = (N : Int) := by rw [Int.tdiv_eq_ediv_of_nonneg (by omega)]; omega
  have d2 : IntKind.i64.wrap (N : Int) = N := by rw [IntKind.wrap_i64]; omega
  have HLN : Hid (s.length ≤ 4096) := by show _ ≤ _; omega
  clear hsl
  go_enter Tryd.func44, Tryd.ntmps44
  go_wp2_with (first
    | (at_make; have q1 := L1; refine make_room _ rfl _ _ rfl _ s.length rfl rfl rfl (by have := HLN.out; omega) ?_; intro v2 w2 O2 B2; have HO2 : Hid (Own w1.heap.size w2 v2 []) := O2; clear O2)
    | (go_at_call 61; refine (HM.out).mono ?_; rintro e w1 ⟨g1, rfl, m1, L1, B1⟩; have M1 : Hid (Msks w1 g1 N M) := m1; clear m1)
    | (go_at_call 60; refine (HI.out).mono ?_; rintro e wx ⟨rfl, hw⟩; obtain rfl := hw.symm))
  have K1 : Hid (KeyA w1 kd dk) := HK.out.below B1 lk
  have S1 : Hid (Byt w1 (.slice ao s.length ca) s) := HS.out.below B1
  have z1 := B1.size
  have HB1 : Hid (Below w.heap.size w w1) := B1
  have HB2 : Hid (Below w1.heap.size w1 w2) := B2
  clear B1 B2 HM HI HK HS
  go_loopw [38, 12] (fun i o wr => ∃ k : Nat, k ≤ N ∧ i = .int .i64 k ∧ Own w1.heap.size wr o (R k) ∧ Below w1.heap.size w1 wr) (fun i _ _ => N - (intOf i).toNat)
  case atStart => exact ⟨0, Nat.zero_le _, rfl, by rw [HR0.out]; exact HO2.out, HB2.out⟩
  case round =>
    obtain ⟨k, hk, rfl, hO, hB⟩ := hrel
    obtain ⟨wa, rfl⟩ : ∃ wx, wx = wr := ⟨_, rfl⟩
    have k0 : (0 : Int) ≤ (k : Int) := by omega
    have q1 : IntKind.i64.wrap (k : Int) = k := by rw [IntKind.wrap_i64]; omega
    have HO : Hid (Own w1.heap.size wa u12 (R k)) := hO
    have HB : Hid (Below w1.heap.size w1 wa) := hB
    clear hO hB
    by_cases hlt : k < N
    · have k1 : (k : Int) < (N : Int) := by omega
      obtain ⟨gi, c1, y1⟩ := (M1.out.below HB.out).at_ k hlt
      have YM : Hid (Byt wa (.slice (some ⟨gi, 0, none⟩) 16 16) (msk M k)) := y1
      have YS : Hid (Byt wa (.slice ao s.length ca) s) := S1.out.below HB.out
      have KA : Hid (KeyA wa kd dk) := K1.out.below HB.out (by have := K1.out.lt; omega)
      have q2 : IntKind.i64.wrap (16 * (k : Int)) = 16 * (k : Int) := by rw [IntKind.wrap_i64]; omega
      have q3 : IntKind.i64.wrap (16 * (k : Int) + 16) = 16 * (k : Int) + 16 := by rw [IntKind.wrap_i64]; omega
      have HUk : Hid (∀ w' bv mv, KeyA w' kd dk → Byt w' bv (cut16 s k) → Byt w' mv (msk M k) → Calls Tryd.prog 62 #[bv, mv, .func (.func 46) #[.pointer (some ⟨kd, 0, none⟩)] #[]] w' fun e w'' => ∃ v', e = .returned (.tuple #[v', .int .i64 0]) ∧ Byt w'' v' (X k) ∧ Below w'.heap.size w' w'') := HU.out k hlt
      have XL : Hid ((X k).length = 16) := HXL.out k hlt
      have RL : Hid ((R k).length = 16 * k) := (HRL.out k hk).1
      clear y1
      go_wp2_with (first
        | (at_builtin; have q5 := s5; refine pushs_lawG _ rfl (.tmp 59) (.tmp 60) rfl w1.heap.size (by have := HB5.out.size; omega) _ v5 (R k) (X k) rfl rfl HO5.out Y5.out (by rw [RL.out]; omega) (by rw [XL.out]; omega) ?_; intro v6 w6 O6 B6; have HO6 : Hid (Own w1.heap.size w6 v6 (R (k + 1))) := (by show Own _ _ _ _; rw [HRS.out]; exact O6); have HB6 : Hid (Below w1.heap.size w1 w6) := HB5.out.trans B6; clear O6 B6)
        | (go_at_call 62; refine (HUk.out _ _ _ KA.out YC.out YM.out).mono ?_; rintro e w5 ⟨v5, rfl, y5, B5⟩; have s5 := B5.size; have Y5 : Hid (Byt w5 v5 (X k)) := y5; have HO5 : Hid (Own w1.heap.size w5 u12 (R k)) := Own.below HO.out B5; have HB5 : Hid (Below w1.heap.size w1 w5) := HB.out.trans (B5.mono (HB.out.size)); clear y5 B5)
        | (refine cut_part _ rfl (.tmp 46) (.tmp 47) (.tmp 49) rfl _ s (16 * (k : Int)) (16 * (k : Int) + 16) (16 * k) (16 * k + 16) rfl rfl rfl (by omega) (by omega) (by omega) (by rw [HSL.out]; omega) YS.out ?_; intro vc yc; have YC : Hid (Byt wa vc (cut16 s k)) := yc; clear yc))
      go_roundw
      case rel => exact ⟨k + 1, by omega, by go_num, HO6.out, HB6.out⟩
      case measure => simp [intOf]; omega
    · have hkn : k = N := by omega
      subst hkn
      go_wp2
      go_ret2
      exact ⟨_, rfl, HO.out.byt (HRL.out k (Nat.le_refl _)).2, HB1.out.trans (HB.out.mono z1)⟩
end Go.Proofs.YtbkaecjkgjkheaaDoor.xt

/- What xts' Encrypt and Decrypt answer. No claim of its own. -/
namespace Go.Proofs.YtbkaecjkgjkheaaDoor.xt
open Go.RowKit
set_option maxRecDepth 20000

theorem make_fn : ∀ (fn : Fn) (first cap : Array Value) (w : World), (Instr.makeFunc fn first cap).run Tryd.prog w = .ok (.func fn first cap) w := fun _ _ _ _ => rfl

set_option maxHeartbeats 1000000 in
theorem turned_sec (p av sv F : Value) (w : World) (hi : Calls Tryd.prog 60 #[sv] w fun e w' => e = .returned (.bool false) ∧ w' = w) :
    Calls Tryd.prog 44 #[p, av, sv, F] w fun e w' => e = .returned (.tuple #[.slice none 0 0, .int .i64 2]) ∧ w' = w := by
  have HI : Hid (Calls Tryd.prog 60 #[sv] w fun e w' => e = .returned (.bool false) ∧ w' = w) := hi
  clear hi
  go_enter Tryd.func44, Tryd.ntmps44
  go_wp2_with (go_at_call 60; refine (HI.out).mono ?_; rintro e wx ⟨rfl, hw⟩; obtain rfl := hw.symm)
  go_ret2
  exact ⟨rfl, rfl⟩

set_option maxHeartbeats 1000000 in
theorem turned_msk (p av sv F : Value) (s : List Int) (N : Nat) (w : World) (hs : Byt w sv s) (hsl : s.length = 16 * N) (hN : 1 ≤ N) (hN' : N ≤ 256) (hm : Calls Tryd.prog 61 #[p, av, .int .i64 (N : Int)] w fun e w' => e = .returned (.tuple #[.slice none 0 0, .int .i64 2]) ∧ w' = w) :
    Calls Tryd.prog 44 #[p, av, sv, F] w fun e w' => e = .returned (.tuple #[.slice none 0 0, .int .i64 2]) ∧ w' = w := by
  have HM : Hid (Calls Tryd.prog 61 #[p, av, .int .i64 (N : Int)] w fun e w' => e = .returned (.tuple #[.slice none 0 0, .int .i64 2]) ∧ w' = w) := hm
  have HI : Hid (Calls Tryd.prog 60 #[sv] w fun e w' => e = .returned (.bool true) ∧ w' = w) := sector_any w sv s hs true (by simp; omega)
  obtain ⟨ao, ca, rfl, ha1, ha2, -, -, -⟩ := hs
  have d1 : (s.length : Int).tdiv 16 = (N : Int) := by rw [Int.tdiv_eq_ediv_of_nonneg (by omega)]; omega
  have d2 : IntKind.i64.wrap (N : Int) = N := by rw [IntKind.wrap_i64]; omega
  clear hm hsl
  go_enter Tryd.func44, Tryd.ntmps44
  go_wp2_with (first
    | (go_at_call 61; refine (HM.out).mono ?_; rintro e wx ⟨rfl, hw⟩; obtain rfl := hw.symm)
    | (go_at_call 60; refine (HI.out).mono ?_; rintro e wx ⟨rfl, hw⟩; obtain rfl := hw.symm))
  go_ret2
  exact ⟨rfl, rfl⟩

set_option maxHeartbeats 1000000 in
theorem xenc_any (c : Nat) (av sv : Value) (dk tk ab s : List Int) (N : Nat) (w : World) (hc : Cip w c dk tk) (hdl : dk.length = 32) (hda : AllB dk) (htl : tk.length = 32) (hta : AllB tk) (ha : Byt w av ab) (hal : ab.length = 16) (hs : Byt w sv s) (hsl : s.length = 16 * N) (hN : 1 ≤ N) (hN' : N ≤ 256) :
    Calls Tryd.prog 26 #[.pointer (some ⟨c, 0, none⟩), av, sv] w fun e w' => ∃ v', e = .returned (.tuple #[v', .int .i64 0]) ∧ Byt w' v' (run (xe dk) (nm16 (encr tk ab)) s N) ∧ Below w.heap.size w w' := by
  obtain ⟨kd, kt, c0, c1, k0, k1⟩ := hc
  have HT : Hid (Calls Tryd.prog 44 #[.pointer (some ⟨c, 0, none⟩), av, sv, .func (.func 45) #[.pointer (some ⟨kd, 0, none⟩)] #[]] w fun e w' => ∃ v', e = .returned (.tuple #[v', .int .i64 0]) ∧ Byt w' v' (run (xe dk) (nm16 (encr tk ab)) s N) ∧ Below w.heap.size w w') := turned_enc c kd av sv dk tk ab s N w ⟨kd, kt, c0, c1, k0, k1⟩ k0 hdl hda htl hta ha hal hs hsl hN hN'
  generalize run (xe dk) (nm16 (encr tk ab)) s N = zs at *
  clear c1 k0 k1 hdl hda htl hta ha hal hs hsl hN hN'
  have hmf := make_fn
  go_enter Tryd.func26, Tryd.ntmps26
  go_wp2_with (go_at_call 44; refine (HT.out).mono ?_; rintro e w1 ⟨v1, rfl, y1, B1⟩)
  go_ret2
  exact ⟨_, rfl, y1, B1⟩

set_option maxHeartbeats 1000000 in
theorem xenc_nil (av sv : Value) (w : World) :
    Calls Tryd.prog 26 #[.pointer none, av, sv] w fun e w' => e = .returned (.tuple #[.slice none 0 0, .int .i64 2]) ∧ w' = w := by
  go_enter Tryd.func26, Tryd.ntmps26
  go_wp2
  go_ret2
  exact ⟨rfl, rfl⟩

set_option maxHeartbeats 1000000 in
theorem xenc_turned (c : Nat) (q : Option Addr) (av sv : Value) (w : World) (c0 : w.cell? ⟨c, 0, none⟩ = some (.pointer q)) (ht : ∀ F, Calls Tryd.prog 44 #[.pointer (some ⟨c, 0, none⟩), av, sv, F] w fun e w' => e = .returned (.tuple #[.slice none 0 0, .int .i64 2]) ∧ w' = w) :
    Calls Tryd.prog 26 #[.pointer (some ⟨c, 0, none⟩), av, sv] w fun e w' => e = .returned (.tuple #[.slice none 0 0, .int .i64 2]) ∧ w' = w := by
  have HT : Hid (∀ F, Calls Tryd.prog 44 #[.pointer (some ⟨c, 0, none⟩), av, sv, F] w fun e w' => e = .returned (.tuple #[.slice none 0 0, .int .i64 2]) ∧ w' = w) := ht
  clear ht
  have hmf := make_fn
  go_enter Tryd.func26, Tryd.ntmps26
  go_wp2_with (go_at_call 44; refine (HT.out _).mono ?_; rintro e wx ⟨rfl, hw⟩; obtain rfl := hw.symm)
  go_ret2
  exact ⟨rfl, rfl⟩

/-- of a cipher that New made: the tweak is not sixteen bytes, or the bytes are no sector -/
theorem xenc_no (c : Nat) (av sv : Value) (dk tk ab s : List Int) (w : World) (hc : Cip w c dk tk) (ha : Byt w av ab) (hs : Byt w sv s) (hn : ¬ (ab.length = 16 ∧ 16 ≤ s.length ∧ s.length ≤ 4096 ∧ s.length % 16 = 0)) :
    Calls Tryd.prog 26 #[.pointer (some ⟨c, 0, none⟩), av, sv] w fun e w' => e = .returned (.tuple #[.slice none 0 0, .int .i64 2]) ∧ w' = w := by
  obtain ⟨kd, kt, c0, c1, k0, k1⟩ := hc
  refine xenc_turned c _ av sv w c0 fun F => ?_
  by_cases h : 16 ≤ s.length ∧ s.length ≤ 4096 ∧ s.length % 16 = 0
  · have hal : ¬ ab.length = 16 := fun e => hn ⟨e, h⟩
    exact turned_msk _ av sv F s (s.length / 16) w hs (by omega) (by omega) (by omega) (masks_len c av dk tk ab _ w ⟨kd, kt, c0, c1, k0, k1⟩ ha hal)
  · exact turned_sec _ av sv F w (sector_any w sv s hs false (by simp; omega))

/-- of a cipher that New did not make -/
theorem xenc_raw (c : Nat) (av sv : Value) (s : List Int) (w : World) (c0 : w.cell? ⟨c, 0, none⟩ = some (.pointer none)) (c1 : w.cell? ⟨c, 1, none⟩ = some (.pointer none)) (hs : Byt w sv s) :
    Calls Tryd.prog 26 #[.pointer (some ⟨c, 0, none⟩), av, sv] w fun e w' => e = .returned (.tuple #[.slice none 0 0, .int .i64 2]) ∧ w' = w := by
  refine xenc_turned c _ av sv w c0 fun F => ?_
  by_cases h : 16 ≤ s.length ∧ s.length ≤ 4096 ∧ s.length % 16 = 0
  · exact turned_msk _ av sv F s (s.length / 16) w hs (by omega) (by omega) (by omega) (masks_raw c _ av _ w c1 ⟨_, rfl⟩ (takes_nil av w))
  · exact turned_sec _ av sv F w (sector_any w sv s hs false (by simp; omega))

set_option maxHeartbeats 1000000 in
theorem xdec_any (c : Nat) (av sv : Value) (dk tk ab s : List Int) (N : Nat) (w : World) (hc : Cip w c dk tk) (hdl : dk.length = 32) (hda : AllB dk) (htl : tk.length = 32) (hta : AllB tk) (ha : Byt w av ab) (hal : ab.length = 16) (hs : Byt w sv s) (hsl : s.length = 16 * N) (hN : 1 ≤ N) (hN' : N ≤ 256) :
    Calls Tryd.prog 27 #[.pointer (some ⟨c, 0, none⟩), av, sv] w fun e w' => ∃ v', e = .returned (.tuple #[v', .int .i64 0]) ∧ Byt w' v' (run (xd dk) (nm16 (encr tk ab)) s N) ∧ Below w.heap.size w w' := by
  obtain ⟨kd, kt, c0, c1, k0, k1⟩ := hc
  have HT : Hid (Calls Tryd.prog 44 #[.pointer (some ⟨c, 0, none⟩), av, sv, .func (.func 46) #[.pointer (some ⟨kd, 0, none⟩)] #[]] w fun e w' => ∃ v', e = .returned (.tuple #[v', .int .i64 0]) ∧ Byt w' v' (run (xd dk) (nm16 (encr tk ab)) s N) ∧ Below w.heap.size w w') := turned_dec c kd av sv dk tk ab s N w ⟨kd, kt, c0, c1, k0, k1⟩ k0 hdl hda htl hta ha hal hs hsl hN hN'
  generalize run (xd dk) (nm16 (encr tk ab)) s N = zs at *
  clear c1 k0 k1 hdl hda htl hta ha hal hs hsl hN hN'
  have hmf := make_fn
  go_enter Tryd.func27, Tryd.ntmps27
  go_wp2_with (go_at_call 44; refine (HT.out).mono ?_; rintro e w1 ⟨v1, rfl, y1, B1⟩)
  go_ret2
  exact ⟨_, rfl, y1, B1⟩

set_option maxHeartbeats 1000000 in
theorem xdec_nil (av sv : Value) (w : World) :
    Calls Tryd.prog 27 #[.pointer none, av, sv] w fun e w' => e = .returned (.tuple #[.slice none 0 0, .int .i64 2]) ∧ w' = w := by
  go_enter Tryd.func27, Tryd.ntmps27
  go_wp2
  go_ret2
  exact ⟨rfl, rfl⟩

set_option maxHeartbeats 1000000 in
theorem xdec_turned (c : Nat) (q : Option Addr) (av sv : Value) (w : World) (c0 : w.cell? ⟨c, 0, none⟩ = some (.pointer q)) (ht : ∀ F, Calls Tryd.prog 44 #[.pointer (some ⟨c, 0, none⟩), av, sv, F] w fun e w' => e = .returned (.tuple #[.slice none 0 0, .int .i64 2]) ∧ w' = w) :
    Calls Tryd.prog 27 #[.pointer (some ⟨c, 0, none⟩), av, sv] w fun e w' => e = .returned (.tuple #[.slice none 0 0, .int .i64 2]) ∧ w' = w := by
  have HT : Hid (∀ F, Calls Tryd.prog 44 #[.pointer (some ⟨c, 0, none⟩), av, sv, F] w fun e w' => e = .returned (.tuple #[.slice none 0 0, .int .i64 2]) ∧ w' = w) := ht
  clear ht
  have hmf := make_fn
  go_enter Tryd.func27, Tryd.ntmps27
  go_wp2_with (go_at_call 44; refine (HT.out _).mono ?_; rintro e wx ⟨rfl, hw⟩; obtain rfl := hw.symm)
  go_ret2
  exact ⟨rfl, rfl⟩

/-- of a cipher that New made: the tweak is not sixteen bytes, or the bytes are no sector -/
theorem xdec_no (c : Nat) (av sv : Value) (dk tk ab s : List Int) (w : World) (hc : Cip w c dk tk) (ha : Byt w av ab) (hs : Byt w sv s) (hn : ¬ (ab.length = 16 ∧ 16 ≤ s.length ∧ s.length ≤ 4096 ∧ s.length % 16 = 0)) :
    Calls Tryd.prog 27 #[.pointer (some ⟨c, 0, none⟩), av, sv] w fun e w' => e = .returned (.tuple #[.slice none 0 0, .int .i64 2]) ∧ w' = w := by
  obtain ⟨kd, kt, c0, c1, k0, k1⟩ := hc
  refine xdec_turned c _ av sv w c0 fun F => ?_
  by_cases h : 16 ≤ s.length ∧ s.length ≤ 4096 ∧ s.length % 16 = 0
  · have hal : ¬ ab.length = 16 := fun e => hn ⟨e, h⟩
    exact turned_msk _ av sv F s (s.length / 16) w hs (by omega) (by omega) (by omega) (masks_len c av dk tk ab _ w ⟨kd, kt, c0, c1, k0, k1⟩ ha hal)
  · exact turned_sec _ av sv F w (sector_any w sv s hs false (by simp; omega))

/-- of a cipher that New did not make -/
theorem xdec_raw (c : Nat) (av sv : Value) (s : List Int) (w : World) (c0 : w.cell? ⟨c, 0, none⟩ = some (.pointer none)) (c1 : w.cell? ⟨c, 1, none⟩ = some (.pointer none)) (hs : Byt w sv s) :
    Calls Tryd.prog 27 #[.pointer (some ⟨c, 0, none⟩), av, sv] w fun e w' => e = .returned (.tuple #[.slice none 0 0, .int .i64 2]) ∧ w' = w := by
  refine xdec_turned c _ av sv w c0 fun F => ?_
  by_cases h : 16 ≤ s.length ∧ s.length ≤ 4096 ∧ s.length % 16 = 0
  · exact turned_msk _ av sv F s (s.length / 16) w hs (by omega) (by omega) (by omega) (masks_raw c _ av _ w c1 ⟨_, rfl⟩ (takes_nil av w))
  · exact turned_sec _ av sv F w (sector_any w sv s hs false (by simp; omega))
end Go.Proofs.YtbkaecjkgjkheaaDoor.xt

