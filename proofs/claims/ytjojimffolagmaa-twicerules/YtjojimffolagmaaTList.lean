/- What twice's List answers. No claim of its own. -/
import Derived.Test.YtjojimffolagmaaTCalls
namespace Go.Proofs.Ytjojimffolagmaa
open Go.RowKit

theorem info_bytesT : (Try.prog.info? 22).map (fun i => (i.zero, i.size, i.bytes)) = some (some (.slice none 0 0), 1, 24) := by kernel_rfl

theorem heap_setCells (b b' : Nat) (hb : b' ≠ b) : ∀ (vs : List Value) (o : Nat) (w : World), (w.setCells b o vs).heap[b']? = w.heap[b']?
  | [], _, _ => rfl
  | v :: r, o, w => (heap_setCells b b' hb r (o + 1) (w.setCell ⟨b, o, none⟩ v)).trans (Below.heap_setCell w ⟨b, o, none⟩ v b' hb)
/-- a whole array is written; other blocks stay -/
theorem store_lawH {ops : Array Oper} {rest : List Oper} {o : Oper} {a : Act} {Q : Exit → Act → World → Prop} (w : World) (hg : o.guard = none) (x y : Operand) (t : TypeId) (hop : o.op = Op.store t x y) (k : IntKind) (xs ys : List Int) (b : Nat) (hx : a.eval x = .pointer (some ⟨b, 0, none⟩)) (hy : a.eval y = .agg (ints k ys))
    (hA : Ar w b 0 k xs) (n : Nat) (hi : (Try.prog.info? t).map (·.size) = some n) (hl : xs.length = n) (hn : ys.length = n)
    (hK : ∀ w', Ar w' b 0 k ys → Below b w w' → (∀ b', b' ≠ b → w'.heap[b']? = w.heap[b']?) → wpList Try.prog ops Q rest (a.put o.dst undef) w') :
    wpList Try.prog ops Q (o :: rest) a w := by
  have ht : w.there b 0 ys.length := by rw [hn, ← hl]; exact hA.2
  exact store_law w hg x y t hop k ys b 0 hx hy ht n hi hn (hK _ (Ar.whole ht) (below_cells _ (Nat.le_refl _) _ _ (Below.refl _ _)) fun b' hb => heap_setCells b b' hb _ _ _)

/-- a row of n slices in block g; the first k of them hold the sixteen bytes that f tells, in later blocks other than p -/
def Rw (w : World) (g p n k : Nat) (f : Nat → List Int) : Prop :=
  (∀ i, i < n → (w.cell? ⟨g, i, none⟩).isSome = true ∧ w.frozen? ⟨g, i, none⟩ = false) ∧ ∀ i, i < k → ∃ gi, (g < gi ∧ gi ≠ p) ∧ w.cell? ⟨g, i, none⟩ = some (.slice (some ⟨gi, 0, none⟩) 16 16) ∧ Ar w gi 0 .u8 (f i)
theorem Rw.same {w w' : World} {g p n k : Nat} {f : Nat → List Int} (h : Rw w g p n k f) (hg : w'.heap[g]? = w.heap[g]?) (hl : ∀ gi xs, g < gi → gi ≠ p → Ar w gi 0 .u8 xs → xs.length = 16 → Ar w' gi 0 .u8 xs) (hf : ∀ i, (f i).length = 16) : Rw w' g p n k f := by
  refine ⟨fun i hi => ?_, fun i hi => ?_⟩
  · rw [World.cell?_of_block (w := w) (w' := w') (a := ⟨g, i, none⟩) hg, World.frozen?_of_block (w := w) (w' := w') (a := ⟨g, i, none⟩) hg]
    exact h.1 i hi
  · obtain ⟨gi, h1, h2, h3⟩ := h.2 i hi
    refine ⟨gi, h1, ?_, hl gi _ h1.1 h1.2 h3 (hf i)⟩
    rw [World.cell?_of_block (w := w) (w' := w') (a := ⟨g, i, none⟩) hg]
    exact h2
theorem Rw.below {w w' : World} {g p n k : Nat} {f : Nat → List Int} (h : Rw w g p n k f) (hb : Below w.heap.size w w') (hg : g < w.heap.size) (hf : ∀ i, (f i).length = 16) : Rw w' g p n k f :=
  h.same (hb.block g hg) (fun _ _ _ _ hA hl => hA.below hb (hA.lt (by omega))) hf
theorem Rw.other {w w' : World} {g p n k : Nat} {f : Nat → List Int} (h : Rw w g p n k f) (ho : ∀ b', b' ≠ p → w'.heap[b']? = w.heap[b']?) (hg : g ≠ p) (hf : ∀ i, (f i).length = 16) : Rw w' g p n k f :=
  h.same (ho g hg) (fun gi _ _ hp hA _ => hA.heap (ho gi hp)) hf
theorem Rw.set {w : World} {g p n k : Nat} {f : Nat → List Int} (h : Rw w g p n k f) (hk : k < n) (g8 : Nat) (h8 : g < g8 ∧ g8 ≠ p) (hA : Ar w g8 0 .u8 (f k)) : Rw (w.setCell ⟨g, k, none⟩ (.slice (some ⟨g8, 0, none⟩) 16 16)) g p n (k + 1) f := by
  obtain ⟨cv, hc⟩ := Option.isSome_iff_exists.1 (h.1 k hk).1
  refine ⟨fun i hi => ?_, fun i hi => ?_⟩
  · refine ⟨?_, by rw [World.frozen?_setCell]; exact (h.1 i hi).2⟩
    by_cases e : k = i
    · subst e; rw [World.cell?_setCell_same _ _ _ hc]; rfl
    · rw [World.cell?_setCell_other _ _ _ _ (by intro hh; injection hh with _ h2; omega)]; exact (h.1 i hi).1
  · by_cases e : k = i
    · subst e
      exact ⟨g8, h8, World.cell?_setCell_same _ _ _ hc, hA.other (by show g8 ≠ g; omega) _⟩
    · obtain ⟨gi, h1, h2, h3⟩ := h.2 i (by omega)
      exact ⟨gi, h1, by rw [World.cell?_setCell_other _ _ _ _ (by intro hh; injection hh with _ h2; omega)]; exact h2, h3.other (by show gi ≠ g; omega) _⟩

/-- 'make([][]byte, n)' -/
theorem make_lawS {ops : Array Oper} {rest : List Oper} {o : Oper} {a : Act} {Q : Exit → Act → World → Prop} (w : World) (hg : o.guard = none) (l c : Operand) (hop : o.op = Op.makeSlice 32 l c)
    (L : Int) (n : Nat) (hl : a.eval l = .int .i64 L) (hc : a.eval c = .int .i64 L) (hL : L = (n : Int)) (hn : n ≤ 1000000) (f : Nat → List Int)
    (hK : ∀ w', (∀ p, Rw w' w.heap.size p n 0 f) → Below w.heap.size w w' → w.heap.size < w'.heap.size → wpList Try.prog ops Q rest (a.put o.dst (.slice (some ⟨w.heap.size, 0, none⟩) n n)) w') :
    wpList Try.prog ops Q (o :: rest) a w := by
  obtain ⟨i0, hi, hz0, hz1, hz2⟩ := info_parts info_bytesT
  refine wpList_make_full w hg l c 32 hop w.heap.size 22 i0 (.slice none 0 0) 1 Try.underlying32 hi hz0 hz1 .i64 .i64 L L n hl hc hL hL (by rw [hz2]; omega) (by simp only [maxLen]; omega) (Nat.le_refl _) fun w' h1 h2 => ?_
  have hlt : w.heap.size < w'.heap.size := (h1.lt w.heap.size rfl).2
  refine hK w' (fun p => ⟨fun i hi => ?_, fun i hi => by omega⟩) ((Below.refl _ w).grown h2 (Nat.le_refl _) (fun k hk => by cases hk)) hlt
  refine ⟨?_, h1.frozenAt i⟩
  rw [h1.cellAt i (by omega)]
  have e : (madeCells (Value.slice none 0 0).cells (n * 1)).toList = List.replicate n (Value.slice none 0 0) := by
    rw [Nat.mul_one]
    show (madeCells #[Value.slice none 0 0] n).toList = _
    rw [toList_madeCells_one]
  rw [e]
  simp [hi]

set_option linter.unusedSimpArgs false in
set_option maxRecDepth 20000 in
set_option maxHeartbeats 4000000 in
theorem list_any (v : Value) (xs : List Int) (n : Nat) (w : World) (hv : Byt w v xs) (hl : xs.length = 16) (hn : n ≤ 256) :
    Calls Try.prog 14 #[v, .int .i64 n] w fun e w' => ∃ g, e = .returned (.tuple #[.slice (some ⟨g, 0, none⟩) n n, .int .i64 0]) ∧ (∃ p, Rw w' g p n n (fun k => bt16 (tdn (nm16 xs) k))) ∧ g < w'.heap.size ∧ w.heap.size ≤ g ∧ Below w.heap.size w w' := by
  have HOF : Hid (∀ w', Below w.heap.size w w' → Calls Try.prog 19 #[v] w' fun e w'' => e = .returned (.agg (ints .u8 xs)) ∧ Below w'.heap.size w' w'') := fun w' h => tof_any v xs w' (hv.below h) hl
  have HX : Hid (B16 xs) := ⟨hl, hv.all⟩
  have HE : Hid (bt16 (tdn (nm16 xs) 0) = xs) := bt_nm xs ⟨hl, hv.all⟩
  have HD : Hid (∀ k w', Calls Try.prog 20 #[.agg (ints .u8 (bt16 (tdn (nm16 xs) k)))] w' fun e w'' => e = .returned (.agg (ints .u8 (bt16 (tdn (nm16 xs) (k + 1))))) ∧ Below w'.heap.size w' w'') := fun k w' => pdbl_any _ w' (tdn_lt _ k (nm16_lt xs hv.all))
  have HLS : Hid (∀ k w', Calls Try.prog 21 #[.agg (ints .u8 (bt16 (tdn (nm16 xs) k)))] w' fun e w'' => ∃ g, e = .returned (.slice (some ⟨g, 0, none⟩) 16 16) ∧ Ar w'' g 0 .u8 (bt16 (tdn (nm16 xs) k)) ∧ w'.heap.size ≤ g ∧ Below w'.heap.size w' w'') := fun k w' => tlst_any _ w' (bt16_len _) (bt16_all _)
  have HLN : Hid (∀ k, (bt16 (tdn (nm16 xs) k)).length = 16) := fun k => bt16_len _
  obtain ⟨ao, ca, rfl, ha1, ha2, ha3, ha4, ha5⟩ := hv
  rw [hl] at HOF ha1 ⊢
  clear ha3 ha4 ha5 hl
  obtain ⟨f, hf⟩ : ∃ f : Nat → List Int, f = fun k => bt16 (tdn (nm16 xs) k) := ⟨_, rfl⟩
  have ef : ∀ k, bt16 (tdn (nm16 xs) k) = f k := fun k => by rw [hf]
  rw [← hf]
  rw [ef] at HE
  simp only [ef] at HD HLS HLN
  clear ef hf
  have n0 : (0 : Int) ≤ (n : Int) := by omega
  have n1 : (n : Int) ≤ 256 := by omega
  go_enter Try.func14, Try.ntmps14
  go_wp2_with (first
    | (have q3 := s3; refine store_lawH _ rfl (.tmp 7) (.tmp 23) 40 rfl .u8 z16 xs w2.heap.size rfl rfl HA3.out 16 i_poly z16_len HX.out.1 ?_; intro w4 A4 B4 O4; have HA4 : Hid (Ar w4 w2.heap.size 0 .u8 (f 0)) := (by show Ar _ _ _ _ _; rw [HE.out]; exact A4); have HR4 : Hid (Rw w4 w.heap.size w2.heap.size n 0 f) := HR3.out.other O4 (by omega) HLN.out; clear A4 O4)
    | (have q2 := s2; refine new_lawF _ rfl 40 rfl .u8 z16 z_poly ?_; intro w3 A3 B3 s3; have HA3 : Hid (Ar w3 w2.heap.size 0 .u8 z16) := A3; have HR3 : Hid (Rw w3 w.heap.size w2.heap.size n 0 f) := ((HR1.out _).below B2 s1 HLN.out).below B3 (by omega) HLN.out; clear A3)
    | (have q1 := s1; go_at_call 19; refine (HOF.out _ B1).mono ?_; rintro e w2 ⟨rfl, B2⟩; have s2 := B2.size)
    | (at_make; refine make_lawS _ rfl _ _ rfl _ n rfl rfl rfl (by omega) f ?_; intro w1 R1 B1 s1; have HR1 : Hid (∀ p, Rw w1 w.heap.size p n 0 f) := R1; clear R1))
  have BW : Below w.heap.size w w4 := ((B1.trans (B2.mono (by omega))).trans (B3.mono (by omega))).trans (B4.mono (by omega))
  have og : w.heap.size < w2.heap.size := by omega
  clear HR1 HR3 HA3
  generalize hg0 : w.heap.size = g0 at *
  generalize w2.heap.size = g1 at *
  go_loopw [26] (fun i wr => ∃ k : Nat, k ≤ n ∧ i = .int .i64 k ∧ Ar wr g1 0 .u8 (f k) ∧ Rw wr g0 g1 n k f ∧ Below g0 w wr) (fun i _ => n - (intOf i).toNat)
  case atStart => exact ⟨0, Nat.zero_le _, rfl, HA4.out, HR4.out, BW⟩
  case round =>
    obtain ⟨k, hk, rfl, hA, hR, hB⟩ := hrel
    obtain ⟨wa, rfl⟩ : ∃ wx, wx = wr := ⟨_, rfl⟩
    have k0 : (0 : Int) ≤ (k : Int) := by omega
    have q1 : IntKind.i64.wrap (k : Int) = k := by rw [IntKind.wrap_i64]; omega
    have HA : Hid (Ar wa g1 0 .u8 (f k)) := hA
    have HR : Hid (Rw wa g0 g1 n k f) := hR
    have HB : Hid (Below g0 w wa) := hB
    have oa : g1 < wa.heap.size := hA.lt (by rw [HLN.out]; omega)
    clear hA hB hR
    by_cases hlt : k < n
    · have k1 : (k : Int) < (n : Int) := by omega
      have HDk : Hid (∀ w', Calls Try.prog 20 #[.agg (ints .u8 (f k))] w' fun e w'' => e = .returned (.agg (ints .u8 (f (k + 1)))) ∧ Below w'.heap.size w' w'') := HD.out k
      have HLk : Hid (∀ w', Calls Try.prog 21 #[.agg (ints .u8 (f k))] w' fun e w'' => ∃ g, e = .returned (.slice (some ⟨g, 0, none⟩) 16 16) ∧ Ar w'' g 0 .u8 (f k) ∧ w'.heap.size ≤ g ∧ Below w'.heap.size w' w'') := HLS.out k
      have HL2 : Hid ((f k).length = 16 ∧ (f (k + 1)).length = 16) := ⟨HLN.out _, HLN.out _⟩
      obtain ⟨p0, hp0⟩ : ∃ p, p = f k := ⟨_, rfl⟩
      have HP0 : Hid (p0 = f k) := hp0
      rw [← hp0] at HDk HLk HL2 HA
      clear hp0
      go_wp2_with (first
        | (have q8 := s8; refine store_lawH _ rfl (.tmp 7) (.tmp 35) 40 rfl .u8 p0 (f (k + 1)) g1 rfl rfl HA8.out 16 i_poly HL2.out.1 HL2.out.2 ?_; intro w9 A9 B9 O9; have HA9 : Hid (Ar w9 g1 0 .u8 (f (k + 1))) := A9; have HR9 : Hid (Rw w9 g0 g1 n (k + 1) f) := HR8.out.other O9 (by omega) HLN.out; have HB9 : Hid (Below g0 w w9) := HB8.out.trans (B9.mono (by omega)); clear A9 B9 O9)
        | (have q7 := o7; go_at_call 20; refine (HDk.out _).mono ?_; rintro e w8 ⟨rfl, B8⟩; have s8 := B8.size; have HA8 : Hid (Ar w8 g1 0 .u8 p0) := HA7.out.below B8 o7; have HR8 : Hid (Rw w8 g0 g1 n (k + 1) f) := HR7.out.below B8 (by omega) HLN.out; have HB8 : Hid (Below g0 w w8) := HB7.out.trans (B8.mono (by omega)); clear B8)
        | (have q7 := o7; refine load_law _ rfl (.tmp 7) 40 rfl .u8 p0 g1 0 rfl HA7.out 16 5 Try.underlying40 i_poly HL2.out.1 ?_)
        | (go_at_call 21; refine (HLk.out _).mono ?_; rintro e w6 ⟨g6, rfl, A6, h6, B6⟩; have s6 := B6.size; have HA6 : Hid (Ar w6 g1 0 .u8 p0) := HA.out.below B6 oa; have HR6 : Hid (Rw w6 g0 g1 n k f) := HR.out.below B6 (by omega) HLN.out; have HB6 : Hid (Below g0 w w6) := HB.out.trans (B6.mono (by omega)); obtain ⟨cv, c6⟩ := Option.isSome_iff_exists.1 (HR6.out.1 k hlt).1; have f6 := (HR6.out.1 k hlt).2; have HA7 : Hid (Ar (w6.setCell ⟨g0, k, none⟩ (.slice (some ⟨g6, 0, none⟩) 16 16)) g1 0 .u8 p0) := HA6.out.other (by show g1 ≠ g0; omega) _; have HR7 : Hid (Rw (w6.setCell ⟨g0, k, none⟩ (.slice (some ⟨g6, 0, none⟩) 16 16)) g0 g1 n (k + 1) f) := HR6.out.set hlt g6 ⟨by omega, by omega⟩ (by rw [← HP0.out]; exact A6); have HB7 : Hid (Below g0 w (w6.setCell ⟨g0, k, none⟩ (.slice (some ⟨g6, 0, none⟩) 16 16))) := HB6.out.setCell (by show g0 ≤ g0; omega) _; have o7 : g1 < (w6.setCell ⟨g0, k, none⟩ (.slice (some ⟨g6, 0, none⟩) 16 16)).heap.size := HA7.out.lt (by rw [HL2.out.1]; omega); clear A6 B6)
        | (refine load_law _ rfl (.tmp 7) 40 rfl .u8 p0 g1 0 rfl HA.out 16 5 Try.underlying40 i_poly HL2.out.1 ?_))
      go_roundw
      case rel => exact ⟨k + 1, by omega, by go_num, HA9.out, HR9.out, HB9.out⟩
      case measure => simp [intOf]; omega
    · have hkn : k = n := by omega
      subst hkn
      go_wp2
      go_ret2
      exact ⟨g0, rfl, ⟨g1, HR.out⟩, by omega, by omega, by rw [hg0]; exact HB.out⟩

set_option maxHeartbeats 2000000 in
theorem list_no (v : Value) (xs : List Int) (n : Int) (w : World) (hv : Byt w v xs) (h : xs.length ≠ 16 ∨ n < 0 ∨ 256 < n) :
    Calls Try.prog 14 #[v, .int .i64 n] w fun e w' => e = .returned (.tuple #[.slice none 0 0, .int .i64 2]) ∧ w' = w := by
  obtain ⟨ao, ca, rfl, ha1, ha2, -, -, -⟩ := hv
  by_cases hl : xs.length = 16
  · rw [hl] at ha1 ⊢
    by_cases h0 : n < 0
    · have h0' : (n < 0) = True := by simp [h0]
      go_enter Try.func14, Try.ntmps14
      go_wp2
      go_ret2
      exact ⟨rfl, rfl⟩
    · have h1 : 256 < n := by omega
      have h2 : 0 ≤ n := by omega
      go_enter Try.func14, Try.ntmps14
      go_wp2
      go_ret2
      exact ⟨rfl, rfl⟩
  · have h2 : ((xs.length : Int) != 16) = true := by simp; omega
    go_enter Try.func14, Try.ntmps14
    go_wp2
    go_ret2
    exact ⟨rfl, rfl⟩
end Go.Proofs.Ytjojimffolagmaa
