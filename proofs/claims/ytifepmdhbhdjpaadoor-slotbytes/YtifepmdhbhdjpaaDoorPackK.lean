/- Texts put together (a claim holds few files). No claim of its own. -/
import Derived.Test.YtifepmdhbhdjpaaDoorPackI
import Derived.Test.YtifepmdhbhdjpaaDoorPackA
import Derived.Test.YtifepmdhbhdjpaaDoorPackJ
/- What aes' cut, stateOf and list answer: a state is a row of sixteen bytes. No claim of its own. -/
namespace Go.Proofs.YtifepmdhbhdjpaaDoor
open Go.RowKit
set_option maxRecDepth 20000

def z16 : List Int := List.replicate 16 0
theorem z16_len : z16.length = 16 := List.length_replicate
theorem z_st : (Tryd.prog.info? 71).map (fun i => (i.zero, i.size)) = some (some (.agg (ints .u8 z16)), z16.length) := by kernel_rfl
theorem i_st : (Tryd.prog.info? 71).map (·.size) = some 16 := by kernel_rfl
theorem ua_st : Tryd.prog.underlying 71 = some (.array (Tryd.prog.arrayLen 71) (Tryd.prog.elem 71)) := by kernel_rfl
theorem la_st : Tryd.prog.arrayLen 71 = 4 := by kernel_rfl
theorem ia_st : (Tryd.prog.info? (Tryd.prog.elem 71)).map (·.size) = some 4 := by kernel_rfl
theorem ua_arr4 : Tryd.prog.underlying 69 = some (.array (Tryd.prog.arrayLen 69) (Tryd.prog.elem 69)) := by kernel_rfl
theorem la_arr4 : Tryd.prog.arrayLen 69 = 4 := by kernel_rfl
theorem ia_arr4 : (Tryd.prog.info? (Tryd.prog.elem 69)).map (·.size) = some 1 := by kernel_rfl

theorem cut4_len (xs : List Int) (i : Nat) (h : 4 * i + 4 ≤ xs.length) : (cut4 xs i).length = 4 := by simp [cut4]; omega
theorem cut4_all (xs : List Int) (i : Nat) (ha : AllB xs) : AllB (cut4 xs i) := allB_mem fun x hx => by
  obtain ⟨j, hj, rfl⟩ := mem_gb (List.mem_of_mem_take (List.mem_of_mem_drop hx))
  exact ha j
/-- an element of a state: a column -/
theorem idx_st {ops : Array Oper} {rest : List Oper} {o : Oper} {a : Act} {Q : Exit → Act → World → Prop} (w : World) (hg : o.guard = none) (x y : Operand) (hop : o.op = Op.index 71 x y) (xs : List Int) (I : Int) (i : Nat) (hx : a.eval x = .agg (ints .u8 xs)) (hy : a.eval y = .int .i64 I) (hI : I = (i : Int)) (hi : i < 4)
    (ys : List Int) (hq : ys = cut4 xs i) (hK : wpList Tryd.prog ops Q rest (a.put o.dst (.agg (ints .u8 ys))) w) : wpList Tryd.prog ops Q (o :: rest) a w := by
  subst hq
  subst hI
  refine wpList_plain hg fun K hK' => ?_
  have hu := Tryd.underlying71
  have hu2 := Tryd.underlying69
  have e : (ints .u8 xs).extract (i * 4) (i * 4 + 4) = ints .u8 (cut4 xs i) := by
    apply Array.ext'
    simp [ints, cut4, Nat.mul_comm 4 i, List.drop_take, List.map_take, List.map_drop]
  have hsz : (sizeOf 69).run Tryd.prog w = .ok 4 w := by
    cases hqq : Tryd.prog.info? 69 with
    | none => have := i_arr4; simp [hqq] at this
    | some i0 =>
      have : i0.size = 4 := by have := i_arr4; simpa [hqq] using this
      simp [sizeOf, typeInfo, hqq, this]
  have hr : (Instr.index 71 (.agg (ints .u8 xs)) (.int .i64 i)).run Tryd.prog w = .ok (.agg (ints .u8 (cut4 xs i))) w := by
    simp [Instr.index, asIntOf, run_underlying hu, run_underlying hu2, Go.part, isAgg, hsz, e]
    intro h; omega
  unfold Oper.wp execOp
  simp only [hop, hx, hy, Sem.run_bind, Sem.run_pure, Result.andThen_ok, hr]
  exact hK' _ _ hK

set_option maxHeartbeats 1000000 in
theorem cut_any (b off n cap i : Nat) (w : World) (hi : 4 * i + 4 ≤ n) (hn : n ≤ cap) (hs : i ≤ 1000) :
    Calls Tryd.prog 46 #[.slice (some ⟨b, off, none⟩) n cap, .int .i64 i] w fun e w' => e = .returned (.slice (some ⟨b, off + 4 * i, none⟩) 4 4) ∧ w' = w := by
  have k1 : IntKind.i64.wrap (4 * (i : Int)) = 4 * (i : Int) := by rw [IntKind.wrap_i64]; omega
  have k2 : IntKind.i64.wrap (4 * (i : Int) + 4) = 4 * (i : Int) + 4 := by rw [IntKind.wrap_i64]; omega
  have k3 : (0 : Int) ≤ 4 * (i : Int) := by omega
  have k4 : 4 * (i : Int) + 4 ≤ (cap : Int) := by omega
  have k5 : 4 * (i : Int) ≤ 4 * (i : Int) + 4 := by omega
  go_enter Tryd.func46, Tryd.ntmps46
  go_wp2
  go_ret
  refine ⟨?_, rfl⟩
  show Ending.returned (Value.slice (some ⟨b, off + 4 * i, none⟩) (4 * i + 4 - 4 * i) (4 * i + 4 - 4 * i)) = _
  rw [show 4 * i + 4 - 4 * i = 4 by omega]

theorem gb_filled (zs : List Int) (k t : Nat) (h : t < zs.length) : gb (filled zs k) t = if t < k then gb zs t else 0 := by
  unfold filled
  by_cases hk : t < k
  · rw [if_pos hk]
    simp only [gb, List.getD, List.getElem?_append, List.length_take, show t < min k zs.length by omega, if_true, List.getElem?_take, hk]
  · rw [if_neg hk]
    simp only [gb, List.getD, List.getElem?_append, List.length_take, show ¬ t < min k zs.length by omega, if_false, List.getElem?_replicate]
    split <;> rfl
theorem filled_len (zs : List Int) (k : Nat) : (filled zs k).length = zs.length := by simp [filled]; omega
/-- four more bytes -/
theorem filled_cut (xs : List Int) (k : Nat) (h : 4 * k + 4 ≤ xs.length) : laid (filled xs (4 * k)) (4 * k) (cut4 xs k) = filled xs (4 * (k + 1)) := by
  have hc := cut4_len xs k h
  refine ext_gb (by rw [laid_len _ _ _ (by rw [filled_len, hc]; exact h), filled_len, filled_len]) fun t ht => ?_
  rw [laid_len _ _ _ (by rw [filled_len, hc]; exact h), filled_len] at ht
  rw [gb_laid _ _ _ (by rw [filled_len, hc]; exact h), gb_filled _ _ _ ht, gb_filled _ _ _ ht, hc]
  by_cases h1 : t < 4 * k
  · rw [if_pos h1, if_pos h1, if_pos (by omega)]
  · rw [if_neg h1, if_neg h1]
    by_cases h2 : t < 4 * k + 4
    · rw [if_pos h2, if_pos (by omega), cut4_gb _ _ _ (by omega), show 4 * k + (t - 4 * k) = t by omega]
    · rw [if_neg h2, if_neg (by omega)]
theorem filled16 (xs : List Int) (h : xs.length = 16) : filled xs 0 = z16 ∧ filled xs 16 = xs := by
  refine ⟨by rw [filled_zero, h]; rfl, ?_⟩
  have := filled_end xs
  rwa [h] at this

set_option linter.unusedSimpArgs false in
set_option maxRecDepth 20000 in
set_option maxHeartbeats 2000000 in
theorem of_any (v : Value) (xs : List Int) (w : World) (hv : Byt w v xs) (hl : xs.length = 16) :
    Calls Tryd.prog 49 #[v] w fun e w' => e = .returned (.agg (ints .u8 xs)) ∧ Below w.heap.size w w' := by
  have HX : Hid (AllB xs) := hv.all
  obtain ⟨ao, ca, rfl, ha1, ha2, ha3, -, ha5⟩ := hv
  obtain ⟨bb, bo, rfl, hcell⟩ := ha5 (by omega)
  have HC : Hid (∀ t, t < xs.length → w.cell? ⟨bb, bo + t, none⟩ = some (.int .u8 (gb xs t))) := hcell
  have HL : Hid (xs.length = 16) := hl
  have HF : Hid (filled xs 0 = z16 ∧ filled xs 16 = xs) := filled16 xs hl
  have hbw : bb < w.heap.size := World.block_lt_of_cell? w _ (hcell 0 (by omega))
  rw [hl] at ha1 ⊢
  clear hcell ha5 hl ha3
  go_enter Tryd.func49, Tryd.ntmps49
  go_wp2_with (first
    | (have q1 := s1; refine new_lawF _ rfl 71 rfl .u8 z16 z_st ?_; intro w2 A2 B2 s2; have HA2 : Hid (Ar w2 w1.heap.size 0 .u8 z16) := A2; clear A2)
    | (refine new_lawF _ rfl 71 rfl .u8 z16 z_st ?_; intro w1 A1 B1 s1; have HA1 : Hid (Ar w1 w.heap.size 0 .u8 z16) := A1; clear A1))
  have o1 : w.heap.size < w1.heap.size := s1
  have BW : Below w.heap.size w w1 := B1
  generalize w1.heap.size = g3 at *
  go_loopw [5] (fun i wr => ∃ k : Nat, k ≤ 4 ∧ i = .int .i64 k ∧ Ar wr g3 0 .u8 (filled xs (4 * k)) ∧ Below g3 w1 wr) (fun i _ => 4 - (intOf i).toNat)
  case atStart => exact ⟨0, Nat.zero_le _, rfl, by rw [Nat.mul_zero, HF.out.1]; exact HA2.out, B2⟩
  case round =>
    obtain ⟨k, hk, rfl, hA, hB⟩ := hrel
    have k0 : (0 : Int) ≤ (k : Int) := by omega
    have q1 : IntKind.i64.wrap (k : Int) = k := by rw [IntKind.wrap_i64]; omega
    by_cases hlt : k < 4
    · have k1 : (k : Int) < 4 := by omega
      have HCut : Hid (∀ w0, Calls Tryd.prog 46 #[.slice (some ⟨bb, bo, none⟩) 16 ca, .int .i64 k] w0 fun e w' => e = .returned (.slice (some ⟨bb, bo + 4 * k, none⟩) 4 4) ∧ w' = w0) := fun w0 => cut_any bb bo 16 ca k w0 (by omega) ha1 (by omega)
      have HA : Hid (Ar wr g3 0 .u8 (filled xs (4 * k))) := hA
      have HB : Hid (Below g3 w1 wr) := hB
      have HY : Hid (∀ nq, Byt (wr.drewN nq) (.slice (some ⟨bb, bo + 4 * k, none⟩) 4 4) (cut4 xs k)) := fun nq => by
        have hln := cut4_len xs k (by rw [HL.out]; omega)
        refine ⟨some ⟨bb, bo + 4 * k, none⟩, 4, by rw [hln], by omega, by omega, cut4_all xs k HX.out, (by intro h; cases h), fun _ => ⟨bb, bo + 4 * k, rfl, fun t ht => ?_⟩⟩
        have c := HC.out (4 * k + t) (by rw [HL.out]; omega)
        rw [cut4_gb _ _ _ (by omega), Nat.add_assoc]
        show wr.cell? _ = _
        rw [((BW.trans (HB.out.mono (by omega))).cell hbw)]
        exact c
      clear hA hB
      go_wp2
      refine wp_region_any (by kernel_rfl) ?_
      change wpAny _ _ _ _ _ _ _ (World.drew _)
      refine wpAny_quiet_then (C := fun w' => ∃ n, w' = wr.drewN n) 0 6 1 _ (by kernel_rfl) rfl (by kernel_rfl) (by kernel_rfl) ⟨1, rfl⟩ ?_
      simp only [List.take_succ_cons, List.take_zero, List.drop_zero]
      repeat (quiet_step (with_reducible exact Calls.quiet_of_same (HCut.out _)))
      refine wpQuiet_nil ?_
      rintro f _ ⟨nq, rfl⟩
      refine wpAny_ready (rs := [6]) (by kernel_rfl) (by simp) ?_
      refine AllReady.cons rfl (fun K hK => ?_) AllReady.nil
      refine step_copyG _ rfl (some 14) rfl (.tmp 10) (.tmp 13) rfl g3 (4 * k) 4 4 _ _ _ (by rw [Nat.mul_comm]; rfl) rfl (HY.out nq) (HA.out.drewN nq) (cut4_len xs k (by rw [HL.out]; omega)) (by rw [filled_len, HL.out]; omega) fun w3 A3 B3 => hK _ _ ?_
      rw [filled_cut xs k (by rw [HL.out]; omega)] at A3
      have HA3 : Hid (Ar w3 g3 0 .u8 (filled xs (4 * (k + 1)))) := A3
      have HB3 : Hid (Below g3 w1 w3) := (below_drewN HB.out nq).trans B3
      clear A3 B3
      simp only [Act.put, List.setIfInBounds_toArray, List.set_cons_zero, List.set_cons_succ]
      refine wpAny_done (by kernel_rfl) ?_ _
      go_wp2
      go_roundw
      case rel => exact ⟨k + 1, by omega, by go_num, HA3.out, HB3.out⟩
      case measure => simp [intOf]; omega
    · have hk4 : k = 4 := by omega
      subst hk4
      rw [show 4 * 4 = 16 from rfl, HF.out.2] at hA
      have HA : Hid (Ar wr g3 0 .u8 xs) := hA
      have D1 : Hid (Ar wr w.heap.size 0 .u8 z16) := HA1.out.below hB o1
      clear hA
      go_wp2_with (first
        | (refine load_lawN _ rfl (.tmp 3) 71 rfl .u8 xs g3 0 rfl HA.out 4 16 69 Tryd.underlying71 i_st HL.out ?_)
        | (refine store_lawF _ rfl (.tmp 2) (.tmp 16) 71 rfl .u8 z16 xs w.heap.size rfl rfl D1.out 16 i_st z16_len HL.out ?_; intro w7 A7 B7))
      refine bodyPost_ret (v := .agg (ints .u8 xs)) (results_arN rfl _ _ w.heap.size 0 .u8 xs rfl A7 4 16 69 Tryd.underlying71 i_st HL.out) rfl ⟨rfl, ?_⟩
      exact (BW.trans (hB.mono (by omega))).trans B7
end Go.Proofs.YtifepmdhbhdjpaaDoor

/- What aes' Expand answers. No claim of its own. -/
namespace Go.Proofs.YtifepmdhbhdjpaaDoor
open Go.RowKit
set_option maxRecDepth 20000

theorem info_u32G : (Tryd.prog.info? 44).map (fun i => (i.zero, i.size, i.bytes)) = some (some (.int .u32 0), 1, 4) := by kernel_rfl
theorem i_u32 : (Tryd.prog.info? 44).map (·.size) = some 1 := by kernel_rfl
theorem und_words : Tryd.prog.underlying 66 = some (.slice (Tryd.prog.elem 66)) := by kernel_rfl
theorem elem_words : Tryd.prog.elem 66 = 44 := by kernel_rfl
theorem run_size_u32G (w : World) : (sizeOf 44).run Tryd.prog w = .ok 1 w := by
  obtain ⟨i0, hi, hz0, hz1, hz2⟩ := info_parts info_u32G
  simp [sizeOf, typeInfo, hi, hz1]

/-- 'make([]uint32, n)': n noughts in a block of their own -/
theorem make_lawW {ops : Array Oper} {rest : List Oper} {o : Oper} {a : Act} {Q : Exit → Act → World → Prop} (w : World) (hg : o.guard = none) (l c : Operand) (hop : o.op = Op.makeSlice 66 l c)
    (L : Int) (n : Nat) (hl : a.eval l = .int .i64 L) (hc : a.eval c = .int .i64 L) (hL : L = (n : Int)) (hn : n ≤ 1099511627776)
    (hK : ∀ w', Ar w' w.heap.size 0 .u32 (List.replicate n 0) → Below w.heap.size w w' → w.heap.size < w'.heap.size → wpList Tryd.prog ops Q rest (a.put o.dst (.slice (some ⟨w.heap.size, 0, none⟩) n n)) w') :
    wpList Tryd.prog ops Q (o :: rest) a w := by
  obtain ⟨i0, hi, hz0, hz1, hz2⟩ := info_parts info_u32G
  refine wpList_make_full w hg l c 66 hop w.heap.size 44 i0 (.int .u32 0) 1 Tryd.underlying66 hi hz0 hz1 .i64 .i64 L L n hl hc hL hL (by rw [hz2]; omega) (by simp only [maxLen]; omega) (Nat.le_refl _) fun w' h1 h2 => ?_
  have hlt : w.heap.size < w'.heap.size := (h1.lt w.heap.size rfl).2
  refine hK w' ?_ ((Below.refl _ w).grown h2 (Nat.le_refl _) (fun k hk => by cases hk)) hlt
  have e : (madeCells (Value.int .u32 0).cells (n * 1)).toList = (List.replicate n (0 : Int)).map (Value.int .u32) := by
    rw [Nat.mul_one]
    show (madeCells #[Value.int .u32 0] n).toList = _
    rw [toList_madeCells_one]; simp
  rw [e] at h1
  refine Ar.mk fun i hi => ?_
  rw [Nat.zero_add]
  have hi' : i < n := by simpa using hi
  refine ⟨?_, h1.frozenAt i⟩
  rw [h1.cellAt i (by omega)]
  simp [gb, List.getD, hi']

section
variable {ops : Array Oper} {C : World → Prop} {K : Act → Prop} {o : Oper} {a : Act}
/-- the address of a word of a slice -/
theorem q_idxW (hw : Region.wanted o (yielded ops a.tmps) = true) (d : Option Tmp) (hd : o.dst = d) (x y : Operand) (hop : o.op = Op.indexAddr 66 x y) (b off n cap i : Nat) (hx : a.eval x = .slice (some ⟨b, off, none⟩) n cap) (hy : a.eval y = .int .i64 i) (hi : i < n)
    (q : Nat) (hq : q = off + i) (hK : K (a.put d (.pointer (some ⟨b, q, none⟩)))) :
    if Region.wanted o (yielded ops a.tmps) = true then o.quiet Tryd.prog a C K else K (a.put o.dst undef) := by
  refine q_val hw d hd _ (fun w _ => ?_) hK
  subst hq
  have hr : (Instr.indexAt 66 (.slice (some ⟨b, off, none⟩) n cap) (.int .i64 (i : Int))).run Tryd.prog w = .ok (.pointer (some ⟨b, off + i, none⟩)) w := by
    rw [run_indexAt_slice _ _ _ _ _ _ _ und_words, if_pos (by omega), elem_words, run_size_u32G]
    simp [Result.andThen, Addr.add]
  unfold execOp
  simp only [hop, hx, hy, Sem.run_bind, Sem.run_pure, Result.andThen_ok, hr]
end

/-- the first k words -/
def prw (key : List Int) (k : Nat) : List Int := (List.range 60).map fun t => if t < k then (wn key t : Int) else 0
theorem prw_len (key : List Int) (k : Nat) : (prw key k).length = 60 := by simp [prw]
theorem gb_prw (key : List Int) (k t : Nat) (h : t < 60) : gb (prw key k) t = if t < k then (wn key t : Int) else 0 := range_gb _ _ _ h
theorem prw_zero (key : List Int) : prw key 0 = List.replicate 60 0 := rfl
theorem prw_set (key : List Int) (k : Nat) : (prw key k).set k (wn key k : Int) = prw key (k + 1) := ext_gb (by simp [prw]) fun t ht => by
  rw [List.length_set, prw_len] at ht
  rw [gb_set _ _ _ _ (by rw [prw_len]; exact ht), gb_prw _ _ _ ht, gb_prw _ _ _ ht]
  by_cases e : k = t
  · subst e; simp
  · rw [if_neg e]
    by_cases h : t < k
    · rw [if_pos h, if_pos (by omega)]
    · rw [if_neg h, if_neg (by omega)]

set_option linter.unusedSimpArgs false in
set_option maxRecDepth 20000 in
set_option maxHeartbeats 4000000 in
theorem exp_any (v : Value) (key : List Int) (w : World) (hv : Byt w v key) (hl : key.length = 32) :
    Calls Tryd.prog 38 #[v] w fun e w' => ∃ g, e = .returned (.tuple #[.slice (some ⟨g, 0, none⟩) 60 60, .int .i64 0]) ∧ Ar w' g 0 .u32 (prw key 60) ∧ w.heap.size ≤ g ∧ Below w.heap.size w w' := by
  have HX : Hid (AllB key) := hv.all
  obtain ⟨ao, ca, rfl, ha1, ha2, ha3, -, ha5⟩ := hv
  obtain ⟨bb, bo, rfl, hcell⟩ := ha5 (by omega)
  have HC : Hid (∀ t, t < key.length → w.cell? ⟨bb, bo + t, none⟩ = some (.int .u8 (gb key t))) := hcell
  have HL : Hid (key.length = 32) := hl
  have hbw : bb < w.heap.size := World.block_lt_of_cell? w _ (hcell 0 (by omega))
  have HWL : Hid (∀ i, wn key i < 4294967296) := wn_lt key hl ha3
  have HWE : Hid (∀ i, 8 ≤ i → wn key i = wn key (i - 8) ^^^ stn i (wn key (i - 1))) := fun i hi => wn_eq key hl ha3 i hi
  have HWF : Hid (∀ i, i < 8 → num (last8 (cut4 key i)) = (wn key i : Int)) := fun i hi => by
    rw [num4 _ (cut4_wd key i ha3 (by omega)), wn_first key i hi]
  rw [hl] at ha1 ⊢
  clear hcell ha5 hl ha3
  go_enter Tryd.func38, Tryd.ntmps38
  go_wp2_with (at_make; refine make_lawW _ rfl _ _ rfl 60 60 rfl rfl rfl (by omega) ?_; intro w1 A1 B1 s1; have HA1 : Hid (Ar w1 w.heap.size 0 .u32 (List.replicate 60 0)) := A1; clear A1)
  generalize hg0 : w.heap.size = g0 at *
  go_loopw [11] (fun i wr => ∃ k : Nat, k ≤ 8 ∧ i = .int .i64 k ∧ Ar wr g0 0 .u32 (prw key k) ∧ Below g0 w wr) (fun i _ => 8 - (intOf i).toNat)
  case atStart => exact ⟨0, Nat.zero_le _, rfl, by rw [prw_zero]; exact HA1.out, B1⟩
  case round =>
    obtain ⟨k, hk, rfl, hA, hB⟩ := hrel
    have k0 : (0 : Int) ≤ (k : Int) := by omega
    have q1 : IntKind.i64.wrap (k : Int) = k := by rw [IntKind.wrap_i64]; omega
    by_cases hlt : k < 8
    · have k1 : (k : Int) < 8 := by omega
      have k60 : (k : Int) < 60 := by omega
      have HCut : Hid (∀ w0, Calls Tryd.prog 46 #[.slice (some ⟨bb, bo, none⟩) 32 ca, .int .i64 k] w0 fun e w' => e = .returned (.slice (some ⟨bb, bo + 4 * k, none⟩) 4 4) ∧ w' = w0) := fun w0 => cut_any bb bo 32 ca k w0 (by omega) ha1 (by omega)
      have HY : Byt wr (.slice (some ⟨bb, bo + 4 * k, none⟩) 4 4) (cut4 key k) := by
        have hln := cut4_len key k (by rw [HL.out]; omega)
        refine ⟨some ⟨bb, bo + 4 * k, none⟩, 4, by rw [hln], by omega, by omega, cut4_all key k HX.out, (by intro h; cases h), fun _ => ⟨bb, bo + 4 * k, rfl, fun t ht => ?_⟩⟩
        have c := HC.out (4 * k + t) (by rw [HL.out]; omega)
        rw [cut4_gb _ _ _ (by omega), Nat.add_assoc, hB.cell hbw]
        exact c
      have HN : Hid (Calls Tryd.prog 28 #[.slice (some ⟨bb, bo + 4 * k, none⟩) 4 4] wr fun e w' => e = .returned (.int .u64 (wn key k)) ∧ w' = wr) := by
        have := num_any _ _ wr HY
        rw [HWF.out k hlt] at this
        exact this
      have u1 : IntKind.u32.wrap (wn key k : Int) = (wn key k : Int) := by have := HWL.out k; rw [IntKind.wrap_u32]; omega
      have c3 := hA.cell0 k (by rw [prw_len]; omega)
      have c4 := hA.free0 k (by rw [prw_len]; omega)
      have hA2 : Hid (Ar (wr.setCell ⟨g0, k, none⟩ (.int .u32 (wn key k : Int))) g0 0 .u32 (prw key (k + 1))) := by
        have h := hA.set0 k (by rw [prw_len]; omega) (wn key k : Int)
        rw [prw_set] at h
        exact h
      have hB2 : Hid (Below g0 w (wr.setCell ⟨g0, k, none⟩ (.int .u32 (wn key k : Int)))) := hB.setCell (Nat.le_refl _) _
      clear HY hA
      generalize wn key k = x at *
      go_wp2_with (first
        | (go_at_call 28; refine (HN.out).mono ?_; rintro e w2 ⟨rfl, hw⟩; obtain rfl := hw.symm)
        | (go_at_call 46; refine (HCut.out _).mono ?_; rintro e w2 ⟨rfl, hw⟩; obtain rfl := hw.symm))
      go_roundw
      case rel => exact ⟨k + 1, by omega, by go_num, hA2.out, hB2.out⟩
      case measure => simp [intOf]; omega
    · have hk8 : k = 8 := by omega
      subst hk8
      have HA8 : Hid (Ar wr g0 0 .u32 (prw key 8)) := hA
      clear hA
      go_wp2
      go_loopw [6] (fun i wr => ∃ k : Nat, 8 ≤ k ∧ k ≤ 60 ∧ i = .int .i64 k ∧ Ar wr g0 0 .u32 (prw key k) ∧ Below g0 w wr) (fun i _ => 60 - (intOf i).toNat)
      case atStart => exact ⟨8, Nat.le_refl _, by omega, rfl, HA8.out, hB⟩
      case round =>
        obtain ⟨k, hk8, hk, rfl, hA, hB⟩ := hrel
        have k0 : (0 : Int) ≤ (k : Int) := by omega
        have q1 : IntKind.i64.wrap (k : Int) = k := by rw [IntKind.wrap_i64]; omega
        by_cases hlt : k < 60
        · have hgw : g0 < wr.heap.size := hA.lt (by rw [prw_len]; omega)
          obtain ⟨j8, hj8⟩ : ∃ j, j = k - 8 := ⟨_, rfl⟩
          obtain ⟨j1, hj1⟩ : ∃ j, j = k - 1 := ⟨_, rfl⟩
          have l8 : j8 < 60 := by omega
          have l1 : j1 < 60 := by omega
          have t8 : (k : Int) - 8 = (j8 : Int) := by omega
          have t1 : (k : Int) - 1 = (j1 : Int) := by omega
          have w8 : IntKind.i64.wrap (j8 : Int) = j8 := by rw [IntKind.wrap_i64]; omega
          have w1' : IntKind.i64.wrap (j1 : Int) = j1 := by rw [IntKind.wrap_i64]; omega
          have C8 : Hid (∀ w', Below wr.heap.size wr w' → w'.cell? ⟨g0, j8, none⟩ = some (.int .u32 (wn key j8 : Int))) := fun w' h => by
            have c := (hA.below h hgw).cell0 j8 (by rw [prw_len]; omega)
            rw [gb_prw _ _ _ l8, if_pos (by omega)] at c
            exact c
          have C1 : Hid (∀ w', Below wr.heap.size wr w' → w'.cell? ⟨g0, j1, none⟩ = some (.int .u32 (wn key j1 : Int))) := fun w' h => by
            have c := (hA.below h hgw).cell0 j1 (by rw [prw_len]; omega)
            rw [gb_prw _ _ _ l1, if_pos (by omega)] at c
            exact c
          have HST : Hid (∀ w', Below wr.heap.size wr w' → Calls Tryd.prog 47 #[.int .u32 (wn key j1 : Int), .int .i64 (k : Int)] w' fun e w'' => e = .returned (.int .u32 (stn k (wn key j1) : Int)) ∧ Below wr.heap.size wr w'') := fun w' h =>
            (stir_any _ k w' (HWL.out j1) hk8 hlt).mono fun e w'' h' => ⟨h'.1, h.trans (h'.2.mono h.size)⟩
          have hz0 : wn key k = wn key j8 ^^^ stn k (wn key j1) := by have := HWE.out k hk8; rw [← hj8, ← hj1] at this; exact this
          have st32 : stn k (wn key j1) < 4294967296 := by
            have h1 := HWL.out j1
            have h2 := wsum_lt (rl8 (wn key j1)) 4
            have h3 := wsum_lt (wn key j1) 4
            have h4 := pw_lt 2 (k / 8 - 1)
            unfold stn
            split
            · exact Nat.xor_lt_two_pow (n := 32) (by omega) (by omega)
            · split <;> omega
          have HZ : Hid (bits .xor .u32 (wn key j8 : Int) (stn k (wn key j1) : Int) = (wn key k : Int)) := by
            show _ = _
            rw [u32_xor_nat _ _ (HWL.out j8) st32, hz0]
          have HA : Hid (Ar wr g0 0 .u32 (prw key k)) := hA
          have HSet : Hid ((prw key k).set k (wn key k : Int) = prw key (k + 1)) := prw_set key k
          have HB : Hid (Below g0 w wr) := hB
          clear hA hB hz0 st32 hj8 hj1
          generalize wn key k = z at *
          generalize stn k (wn key j1) = s1 at *
          generalize wn key j1 = x1 at *
          generalize wn key j8 = x8 at *
          have k60 : (k : Int) < 60 := by omega
          go_wp2
          refine wp_region_any (by kernel_rfl) ?_
          refine wpAny_quiet_then (C := fun w' => Below wr.heap.size wr w') 0 16 1 _ (by kernel_rfl) rfl (by kernel_rfl) (by kernel_rfl) (Below.refl _ _).drew ?_
          simp only [List.take_succ_cons, List.take_zero, List.drop_zero]
          refine wpQuiet_step (fun K hK => ?_)
          refine q_val (by rfl) (some 27) rfl (.slice (some ⟨g0, 0, none⟩) 60 60) (fun w' _ => by rfl) (hK _ ?_)
          simp only [Act.put, List.setIfInBounds_toArray, List.set_cons_zero, List.set_cons_succ]
          clear hK K
          refine wpQuiet_step (fun K hK => ?_)
          refine q_val (by rfl) (some 28) rfl (.int .i64 (k : Int)) (fun w' _ => by rfl) (hK _ ?_)
          simp only [Act.put, List.setIfInBounds_toArray, List.set_cons_zero, List.set_cons_succ]
          clear hK K
          refine wpQuiet_step (fun K hK => ?_)
          refine q_val (by rfl) (some 29) rfl (.slice (some ⟨g0, 0, none⟩) 60 60) (fun w' _ => by rfl) (hK _ ?_)
          simp only [Act.put, List.setIfInBounds_toArray, List.set_cons_zero, List.set_cons_succ]
          clear hK K
          refine wpQuiet_step (fun K hK => ?_)
          refine q_val (by rfl) (some 30) rfl (.int .i64 (k : Int)) (fun w' _ => by rfl) (hK _ ?_)
          simp only [Act.put, List.setIfInBounds_toArray, List.set_cons_zero, List.set_cons_succ]
          clear hK K
          refine wpQuiet_step (fun K hK => ?_)
          refine q_val (by rfl) (some 31) rfl (.int .i64 (j8 : Int)) (fun w' _ => by go_simp) (hK _ ?_)
          simp only [Act.put, List.setIfInBounds_toArray, List.set_cons_zero, List.set_cons_succ]
          clear hK K
          refine wpQuiet_step (fun K hK => ?_)
          refine q_idxW (by rfl) (some 32) rfl (.tmp 29) (.tmp 31) rfl g0 0 60 60 j8 rfl rfl l8 j8 (by omega) (hK _ ?_)
          simp only [Act.put, List.setIfInBounds_toArray, List.set_cons_zero, List.set_cons_succ]
          clear hK K
          refine wpQuiet_step (fun K hK => ?_)
          refine q_get (by rfl) (some 33) rfl (.tmp 32) 44 rfl .u32 (x8 : Int) g0 j8 rfl Tryd.underlying44 C8.out (hK _ ?_)
          simp only [Act.put, List.setIfInBounds_toArray, List.set_cons_zero, List.set_cons_succ]
          clear hK K
          refine wpQuiet_step (fun K hK => ?_)
          refine q_val (by rfl) (some 34) rfl (.slice (some ⟨g0, 0, none⟩) 60 60) (fun w' _ => by rfl) (hK _ ?_)
          simp only [Act.put, List.setIfInBounds_toArray, List.set_cons_zero, List.set_cons_succ]
          clear hK K
          refine wpQuiet_step (fun K hK => ?_)
          refine q_val (by rfl) (some 35) rfl (.int .i64 (k : Int)) (fun w' _ => by rfl) (hK _ ?_)
          simp only [Act.put, List.setIfInBounds_toArray, List.set_cons_zero, List.set_cons_succ]
          clear hK K
          refine wpQuiet_step (fun K hK => ?_)
          refine q_val (by rfl) (some 36) rfl (.int .i64 (j1 : Int)) (fun w' _ => by go_simp) (hK _ ?_)
          simp only [Act.put, List.setIfInBounds_toArray, List.set_cons_zero, List.set_cons_succ]
          clear hK K
          refine wpQuiet_step (fun K hK => ?_)
          refine q_idxW (by rfl) (some 37) rfl (.tmp 34) (.tmp 36) rfl g0 0 60 60 j1 rfl rfl l1 j1 (by omega) (hK _ ?_)
          simp only [Act.put, List.setIfInBounds_toArray, List.set_cons_zero, List.set_cons_succ]
          clear hK K
          refine wpQuiet_step (fun K hK => ?_)
          refine q_get (by rfl) (some 38) rfl (.tmp 37) 44 rfl .u32 (x1 : Int) g0 j1 rfl Tryd.underlying44 C1.out (hK _ ?_)
          simp only [Act.put, List.setIfInBounds_toArray, List.set_cons_zero, List.set_cons_succ]
          clear hK K
          refine wpQuiet_step (fun K hK => ?_)
          refine q_val (by rfl) (some 39) rfl (.int .i64 (k : Int)) (fun w' _ => by rfl) (hK _ ?_)
          simp only [Act.put, List.setIfInBounds_toArray, List.set_cons_zero, List.set_cons_succ]
          clear hK K
          refine wpQuiet_step (fun K hK => ?_)
          refine q_call (by rfl) (some 40) rfl 47 #[.tmp 38, .tmp 39] #[44, 3] rfl (fun q w' => by rfl) #[.int .u32 (x1 : Int), .int .i64 (k : Int)] (by simp only [List.map_toArray, List.map_cons, List.map_nil]; rfl) (.int .u32 (s1 : Int)) HST.out (hK _ ?_)
          simp only [Act.put, List.setIfInBounds_toArray, List.set_cons_zero, List.set_cons_succ]
          clear hK K
          refine wpQuiet_step (fun K hK => ?_)
          refine q_val (by rfl) (some 41) rfl (.int .u32 (z : Int)) (fun w' _ => by (have hz := HZ.out; go_simp)) (hK _ ?_)
          simp only [Act.put, List.setIfInBounds_toArray, List.set_cons_zero, List.set_cons_succ]
          clear hK K
          refine wpQuiet_step (fun K hK => ?_)
          refine q_idxW (by rfl) (some 42) rfl (.tmp 27) (.tmp 28) rfl g0 0 60 60 k rfl rfl hlt k (by omega) (hK _ ?_)
          simp only [Act.put, List.setIfInBounds_toArray, List.set_cons_zero, List.set_cons_succ]
          clear hK K
          refine wpQuiet_nil ?_
          intro f w3 B3
          have A1 := HA.out.below B3 hgw
          have A2 := A1.set0 k (by rw [prw_len]; omega) (z : Int)
          rw [HSet.out] at A2
          have B2' : Below g0 w (w3.setCell ⟨g0, k, none⟩ (.int .u32 (z : Int))) := (HB.out.trans (B3.mono (by omega))).setCell (Nat.le_refl _) _
          refine wpAny_ready (rs := [16]) (by kernel_rfl) (by simp) ?_
          refine AllReady.cons rfl (fun K hK => ?_) AllReady.nil
          refine step_set _ rfl none rfl (.tmp 42) (.tmp 41) 44 rfl .u32 (z : Int) g0 k rfl rfl (by rw [A1.cell0 _ (by rw [prw_len]; omega)]; rfl) (A1.free0 _ (by rw [prw_len]; omega)) i_u32 (hK _ _ ?_)
          simp only [Act.put, List.setIfInBounds_toArray, List.set_cons_zero, List.set_cons_succ]
          have HA6 : Hid (Ar (w3.setCell ⟨g0, k, none⟩ (.int .u32 (z : Int))) g0 0 .u32 (prw key (k + 1))) := A2
          have HB6 : Hid (Below g0 w (w3.setCell ⟨g0, k, none⟩ (.int .u32 (z : Int)))) := B2'
          clear A1 A2 B2' B3
          generalize w3.setCell ⟨g0, k, none⟩ (.int .u32 (z : Int)) = w6 at *
          refine wpAny_done (by kernel_rfl) ?_ _
          go_wp2
          go_roundw
          case rel => exact ⟨k + 1, by omega, by omega, by go_num, HA6.out, HB6.out⟩
          case measure => simp [intOf]; omega
        · have hk60 : k = 60 := by omega
          subst hk60
          go_wp2
          go_ret2
          exact ⟨g0, rfl, hA, by omega, by rw [hg0]; exact hB⟩
end Go.Proofs.YtifepmdhbhdjpaaDoor

/- What aes' New answers: a key's bytes as its rounds' keys. No claim of its own. -/
namespace Go.Proofs.YtifepmdhbhdjpaaDoor
open Go.RowKit
set_option maxRecDepth 20000

theorem ua_sts : Tryd.prog.underlying 72 = some (.array (Tryd.prog.arrayLen 72) (Tryd.prog.elem 72)) := by kernel_rfl
theorem la_sts : Tryd.prog.arrayLen 72 = 15 := by kernel_rfl
theorem ia_sts : (Tryd.prog.info? (Tryd.prog.elem 72)).map (·.size) = some 16 := by kernel_rfl

/-- all rounds' keys -/
def rks (key : List Int) : List Int := (List.range 240).map fun i => gb (wd key (i / 4)) (i % 4)
theorem rks_len (key : List Int) : (rks key).length = 240 := by simp [rks]
theorem rks_gb (key : List Int) (t : Nat) (h : t < 240) : gb (rks key) t = gb (wd key (t / 4)) (t % 4) := range_gb _ _ _ h
theorem rks_cut (key : List Int) (hk : key.length = 32) (ha : AllB key) (k : Nat) (h : k < 60) : cut4 (rks key) k = wd key k := by
  have hc := cut4_len (rks key) k (by rw [rks_len]; omega)
  refine ext_gb (by rw [hc, (wd_wd key hk ha k).1]) fun t ht => ?_
  rw [hc] at ht
  rw [cut4_gb _ _ _ ht, rks_gb _ _ (by omega), show (4 * k + t) / 4 = k by omega, show (4 * k + t) % 4 = t by omega]
theorem gb_app4 (a b : List Int) (n t : Nat) (ha : a.length = n) : gb (a ++ b) t = if t < n then gb a t else gb b (t - n) := by
  subst ha
  unfold gb
  by_cases h : t < a.length
  · rw [if_pos h, List.getD_eq_getElem?_getD, List.getElem?_append_left h]; rfl
  · rw [if_neg h, List.getD_eq_getElem?_getD, List.getElem?_append_right (by omega)]; rfl
theorem rk_gb (key : List Int) (hk : key.length = 32) (ha : AllB key) (r t : Nat) (h : t < 16) : gb (rk key r) t = gb (wd key (4 * r + t / 4)) (t % 4) := by
  have h0 := (wd_wd key hk ha (4 * r)).1
  have h1 := (wd_wd key hk ha (4 * r + 1)).1
  have h2 := (wd_wd key hk ha (4 * r + 2)).1
  unfold rk
  rw [gb_app4 _ _ 12 _ (by simp [h0, h1, h2]), gb_app4 _ _ 8 _ (by simp [h0, h1]), gb_app4 _ _ 4 _ h0]
  by_cases c3 : t < 12
  · rw [if_pos c3]
    by_cases c2 : t < 8
    · rw [if_pos c2]
      by_cases c1 : t < 4
      · rw [if_pos c1, show t / 4 = 0 by omega, show t % 4 = t by omega]; rfl
      · rw [if_neg c1, show t / 4 = 1 by omega, show t % 4 = t - 4 by omega]
    · rw [if_neg c2, show t / 4 = 2 by omega, show t % 4 = t - 8 by omega]
  · rw [if_neg c3, show t / 4 = 3 by omega, show t % 4 = t - 12 by omega]

/-- the key that lies in block kb -/
def KeyA (w : World) (kb : Nat) (key : List Int) : Prop := w.cell? ⟨kb, 0, none⟩ = some (.bool true) ∧ Ar w kb 1 .u8 (rks key)
theorem KeyA.lt {w : World} {kb : Nat} {key : List Int} (h : KeyA w kb key) : kb < w.heap.size := World.block_lt_of_cell? w _ h.1
theorem KeyA.below {w w' : World} {kb B : Nat} {key : List Int} (h : KeyA w kb key) (hb : Below B w w') (hB : kb < B) : KeyA w' kb key :=
  ⟨by rw [World.cell?_of_block (w := w) (w' := w') (a := ⟨kb, 0, none⟩) (hb.block kb hB)]; exact h.1, h.2.below hb hB⟩
theorem KeyA.round {w : World} {kb : Nat} {key : List Int} (h : KeyA w kb key) (hk : key.length = 32) (ha : AllB key) (r : Nat) (hr : r < 15) : Ar w kb (1 + 16 * r) .u8 (rk key r) := by
  have hl := (rk_blk key hk ha r).1
  refine h.2.subG (16 * r) (rk key r) (by rw [hl, rks_len]; omega) fun t ht => ?_
  rw [hl] at ht
  rw [rk_gb key hk ha r t ht, rks_gb _ _ (by omega), show (16 * r + t) / 4 = 4 * r + t / 4 by omega, show (16 * r + t) % 4 = t % 4 by omega]

/-- what a new key's cells are -/
def kz : List Value := .bool true :: (List.replicate 240 (0 : Int)).map (Value.int .u8)
theorem kz_at (w : World) (t : TypeId) : (w.alloc (.cells kz.toArray t)).cell? ⟨w.heap.size, 0, none⟩ = some (.bool true) ∧ Ar (w.alloc (.cells kz.toArray t)) w.heap.size 1 .u8 (List.replicate 240 0) := by
  have e : ∀ i, (w.alloc (.cells kz.toArray t)).cell? ⟨w.heap.size, i, none⟩ = kz.toArray[i]? := fun i => cell_of_row (w.alloc (.cells kz.toArray t)) w.heap.size i _ t (0, 0) (heap_alloc_last w _)
  refine ⟨by rw [e, List.getElem?_toArray, kz, List.getElem?_cons_zero], Ar.mk fun i hi => ⟨?_, World.frozen?_alloc_at _ _ _ _ rfl⟩⟩
  rw [List.length_replicate] at hi
  have hg : gb (List.replicate 240 (0 : Int)) i = 0 := by
    unfold gb
    rw [List.getD_eq_getElem?_getD, List.getElem?_replicate, if_pos hi]; rfl
  rw [e, List.getElem?_toArray, kz, Nat.add_comm 1 i, List.getElem?_cons_succ, List.getElem?_map, List.getElem?_replicate, if_pos hi, hg]
  rfl

section
variable {ops : Array Oper} {rest : List Oper} {o : Oper} {a : Act} {Q : Exit → Act → World → Prop}
/-- a new key gets a place -/
theorem box_lawK (w : World) (hg : o.guard = none) (x : Operand) (t : TypeId) (hop : o.op = Op.box t x) (hx : a.eval x = .agg kz.toArray)
    (hK : ∀ w', w'.cell? ⟨w.heap.size, 0, none⟩ = some (.bool true) → Ar w' w.heap.size 1 .u8 (List.replicate 240 0) → Below w.heap.size w w' → w.heap.size < w'.heap.size → wpList Tryd.prog ops Q rest (a.put o.dst (.pointer (some ⟨w.heap.size, 0, none⟩))) w') :
    wpList Tryd.prog ops Q (o :: rest) a w := by
  refine wpList_plain hg fun K hK' => ?_
  have := hK _ (kz_at w t).1 (kz_at w t).2 ((Below.refl _ _).alloc (Nat.le_refl _) _) (by simp)
  unfold Oper.wp
  simp [execOp, hop, hx, Instr.box, newVar, newRow, Value.cells, Result.andThen]
  exact hK' _ _ this
end

/-- 'copy(d, s)' of as many bytes as d has room for, into the middle of a row that begins at o0; what lies ahead stays -/
theorem step_copyO {ops : Array Oper} {o : Oper} {a : Act} {Q : Exit → Act → World → Prop} {K : Act → World → Prop} {E : Prop} (w : World) (hg : o.guard = none) (d : Option Tmp) (hd : o.dst = d) (x y : Operand) (hop : o.op = .call { callee := .builtin .copy, args := #[x, y], argTypes := #[23, 23] })
    (b o0 s n dc : Nat) (v : Value) (xs ys : List Int) (q : Nat) (hq : q = o0 + s) (hx : a.eval x = .slice (some ⟨b, q, none⟩) n dc) (hy : a.eval y = v) (hb : Byt w v ys) (hA : Ar w b o0 .u8 xs) (hn : ys.length = n) (hl : s + n ≤ xs.length)
    (hK : ∀ w', Ar w' b o0 .u8 (laid xs s ys) → Below b w w' → (∀ p, p < o0 → w'.cell? ⟨b, p, none⟩ = w.cell? ⟨b, p, none⟩) → K (a.put d (.int .i64 (n : Int))) w') :
    if Region.wanted o (yielded ops a.tmps) = true then Oper.wp Tryd.prog o a w K Q else E := by
  have hw : Region.wanted o (yielded ops a.tmps) = true := by simp [Region.wanted, hg]
  rw [if_pos hw]
  subst hd
  subst hq
  obtain ⟨ao, cap, rfl, h1, h2, h3, h4, h5⟩ := hb
  have e : min ys.length n = n := by omega
  have hrun := run_copyG w b (o0 + s) n dc ao ys cap o.type h5 (by
    rw [e]
    intro j hj
    have := hA.2 (s + j) (by omega)
    rwa [← Nat.add_assoc] at this)
  rw [e, List.take_of_length_le (by omega)] at hrun
  unfold Oper.wp execOp
  simp only [hop, resolve, invoke, builtin, Sem.run_bind, Sem.run_pure, Result.andThen_ok, List.map_toArray, List.map_cons, List.map_nil, hx, hy, hrun]
  refine hK _ (hA.lay s ys (by omega)) (below_cells _ (Nat.le_refl _) _ _ (Below.refl _ _)) fun p hp => ?_
  exact World.cell?_setCells_out _ _ _ _ _ (fun _ _ => by left; show p < o0 + s; omega)

set_option linter.unusedSimpArgs false in
set_option maxRecDepth 20000 in
set_option maxHeartbeats 4000000 in
theorem new_any (v : Value) (key : List Int) (w : World) (hv : Byt w v key) (hl : key.length = 32) :
    Calls Tryd.prog 32 #[v] w fun e w' => ∃ kb, e = .returned (.tuple #[.pointer (some ⟨kb, 0, none⟩), .int .i64 0]) ∧ KeyA w' kb key ∧ w.heap.size ≤ kb ∧ Below w.heap.size w w' := by
  have ha := hv.all
  have HE : Hid (Calls Tryd.prog 38 #[v] w fun e w' => ∃ g, e = .returned (.tuple #[.slice (some ⟨g, 0, none⟩) 60 60, .int .i64 0]) ∧ Ar w' g 0 .u32 (prw key 60) ∧ w.heap.size ≤ g ∧ Below w.heap.size w w') := exp_any v key w hv hl
  have HG : Hid (∀ k, k < 60 → ∀ w0, Calls Tryd.prog 18 #[.int .u64 (wn key k : Int), .int .i64 4] w0 fun e w' => ∃ v, e = .returned v ∧ Byt w' v (wd key k) ∧ Below w0.heap.size w0 w') := fun k hk w0 => by
    have h1 := wn_lt key hl ha k
    have := big_any (wn key k : Int) 4 w0 (by omega)
    rw [show clamp 4 8 = 4 by decide, wn, be4n _ (wd_wd key hl ha k)] at this
    exact this
  have HW4 : Hid (∀ k, (wd key k).length = 4) := fun k => (wd_wd key hl ha k).1
  have HWL : Hid (∀ k, wn key k < 4294967296) := wn_lt key hl ha
  have HF : Hid (∀ k, k < 60 → laid (filled (rks key) (4 * k)) (4 * k) (wd key k) = filled (rks key) (4 * (k + 1))) := fun k hk => by
    rw [← rks_cut key hl ha k hk]; exact filled_cut _ _ (by rw [rks_len]; omega)
  have HF0 : Hid (filled (rks key) 0 = List.replicate 240 0 ∧ filled (rks key) 240 = rks key) := ⟨by rw [filled_zero, rks_len], by have := filled_end (rks key); rwa [rks_len] at this⟩
  obtain ⟨ao, ca, rfl, -, -, -, -, -⟩ := hv
  clear hl ha
  go_enter Tryd.func32, Tryd.ntmps32
  go_wp2_with (first
    | (go_at_call 38; refine (HE.out).mono ?_; rintro e w1 ⟨g, rfl, A1, L1, B1⟩; have HA1 : Hid (Ar w1 g 0 .u32 (prw key 60)) := A1; have lg : g < w1.heap.size := A1.lt (by rw [prw_len]; omega); clear A1)
    | (have q1 := lg; refine build_law _ rfl 74 _ rfl (.agg kz.toArray) (by kernel_rfl) ?_)
    | (have q1 := lg; refine box_lawK _ rfl (.tmp 17) 74 rfl rfl ?_; intro w2 C2 A2 B2 s2; have HC2 : Hid (w2.cell? ⟨w1.heap.size, 0, none⟩ = some (.bool true)) := C2; have HA2 : Hid (Ar w2 w1.heap.size 1 .u8 (List.replicate 240 0)) := A2; clear C2 A2))
  have D1 : Hid (Ar w2 g 0 .u32 (prw key 60)) := HA1.out.below B2 lg
  have z1 := B1.size
  generalize hkb : w1.heap.size = kb at *
  go_loopw [21] (fun i wr => ∃ k : Nat, k ≤ 60 ∧ i = .int .i64 k ∧ wr.cell? ⟨kb, 0, none⟩ = some (.bool true) ∧ Ar wr kb 1 .u8 (filled (rks key) (4 * k)) ∧ Below kb w1 wr ∧ kb < wr.heap.size) (fun i _ => 60 - (intOf i).toNat)
  case atStart => exact ⟨0, Nat.zero_le _, rfl, HC2.out, by rw [Nat.mul_zero, HF0.out.1]; exact HA2.out, B2, s2⟩
  case round =>
    obtain ⟨k, hk, rfl, hC, hA, hB, hS⟩ := hrel
    have k0 : (0 : Int) ≤ (k : Int) := by omega
    have q1 : IntKind.i64.wrap (k : Int) = k := by rw [IntKind.wrap_i64]; omega
    by_cases hlt : k < 60
    · have k1 : (k : Int) < 60 := by omega
      have c1 := (HA1.out.below hB lg).cell0 k (by rw [prw_len]; omega)
      rw [gb_prw _ _ _ hlt, if_pos hlt] at c1
      have HGk := HG.out k hlt
      have W4 : Hid ((wd key k).length = 4) := HW4.out k
      have u1 : IntKind.u64.wrap (wn key k : Int) = (wn key k : Int) := by have := HWL.out k; rw [IntKind.wrap_u64]; omega
      have FC : Hid (laid (filled (rks key) (4 * k)) (4 * k) (wd key k) = filled (rks key) (4 * (k + 1))) := HF.out k hlt
      have HGK : Hid (∀ w0, Calls Tryd.prog 18 #[.int .u64 (wn key k : Int), .int .i64 4] w0 fun e w' => ∃ v, e = .returned v ∧ Byt w' v (wd key k) ∧ Below w0.heap.size w0 w') := HGk
      obtain ⟨kq, hkq⟩ : ∃ q, q = k / 4 := ⟨_, rfl⟩
      obtain ⟨kr, hkr⟩ : ∃ r, r = k % 4 := ⟨_, rfl⟩
      have d1 : (k : Int).tdiv 4 = (kq : Int) := by rw [Int.tdiv_eq_ediv_of_nonneg (by omega)]; omega
      have d2 : (k : Int).tmod 4 = (kr : Int) := by rw [Int.tmod_eq_emod_of_nonneg (by omega)]; omega
      have d3 : IntKind.i64.wrap (kq : Int) = kq := by rw [IntKind.wrap_i64]; omega
      have d4 : IntKind.i64.wrap (kr : Int) = kr := by rw [IntKind.wrap_i64]; omega
      have d5 : (0 : Int) ≤ (kq : Int) := by omega
      have d6 : (kq : Int) < 15 := by omega
      have d7 : (0 : Int) ≤ (kr : Int) := by omega
      have d8 : (kr : Int) < 4 := by omega
      have HQ : Hid (1 + kq * 16 + kr * 4 = 1 + 4 * k) := by show _ = _; omega
      have HC : Hid (wr.cell? ⟨kb, 0, none⟩ = some (.bool true)) := hC
      have HA : Hid (Ar wr kb 1 .u8 (filled (rks key) (4 * k))) := hA
      have HB : Hid (Below kb w1 wr) := hB
      clear hC hA hB HGk hkq hkr
      generalize wd key k = xs at *
      generalize wn key k = x at *
      go_wp2
      refine wp_region_any (by kernel_rfl) ?_
      change wpAny _ _ _ _ _ _ _ (World.drew _)
      refine take_lawG 0 (some 26) (.pointer (some ⟨kb, 0, none⟩)) rfl rfl (by kernel_rfl) (by kernel_rfl) (by kernel_rfl) (fun _ _ _ h => h) (Or.inl ⟨by rfl, fun w' => by rfl⟩) ?_
      simp only [Act.put, List.setIfInBounds_toArray, List.set_cons_zero, List.set_cons_succ]
      refine take_lawG 1 (some 27) (.int .i64 (k : Int)) rfl rfl (by kernel_rfl) (by kernel_rfl) (by kernel_rfl) (fun _ _ _ h => h) (Or.inl ⟨by rfl, fun w' => by rfl⟩) ?_
      simp only [Act.put, List.setIfInBounds_toArray, List.set_cons_zero, List.set_cons_succ]
      refine take_lawG 2 (some 28) (.int .i64 (kq : Int)) rfl rfl (by kernel_rfl) (by kernel_rfl) (by kernel_rfl) (fun _ _ _ h => h) (Or.inl ⟨by rfl, fun w' => by go_simp⟩) ?_
      simp only [Act.put, List.setIfInBounds_toArray, List.set_cons_zero, List.set_cons_succ]
      refine take_lawG 3 (some 29) (.int .i64 (k : Int)) rfl rfl (by kernel_rfl) (by kernel_rfl) (by kernel_rfl) (fun _ _ _ h => h) (Or.inl ⟨by rfl, fun w' => by rfl⟩) ?_
      simp only [Act.put, List.setIfInBounds_toArray, List.set_cons_zero, List.set_cons_succ]
      refine take_lawG 4 (some 30) (.int .i64 (kr : Int)) rfl rfl (by kernel_rfl) (by kernel_rfl) (by kernel_rfl) (fun _ _ _ h => h) (Or.inl ⟨by rfl, fun w' => by go_simp⟩) ?_
      simp only [Act.put, List.setIfInBounds_toArray, List.set_cons_zero, List.set_cons_succ]
      refine take_lawG 5 (some 31) (.pointer (some ⟨kb, 0, none⟩)) rfl rfl (by kernel_rfl) (by kernel_rfl) (by kernel_rfl) (fun _ _ _ h => h) (Or.inl ⟨by rfl, fun w' => by rfl⟩) ?_
      simp only [Act.put, List.setIfInBounds_toArray, List.set_cons_zero, List.set_cons_succ]
      refine take_lawG 6 (some 32) (.pointer (some ⟨kb, 1, none⟩)) rfl rfl (by kernel_rfl) (by kernel_rfl) (by kernel_rfl) (fun _ _ _ h => h) (Or.inl ⟨by rfl, fun w' => by rfl⟩) ?_
      simp only [Act.put, List.setIfInBounds_toArray, List.set_cons_zero, List.set_cons_succ]
      refine take_lawG 7 (some 33) (.pointer (some ⟨kb, 1 + kq * 16, none⟩)) rfl rfl (by kernel_rfl) (by kernel_rfl) (by kernel_rfl) (fun _ _ _ h => h) (Or.inl ⟨by rfl, fun w' => by go_simp⟩) ?_
      simp only [Act.put, List.setIfInBounds_toArray, List.set_cons_zero, List.set_cons_succ]
      refine take_lawG 8 (some 34) (.pointer (some ⟨kb, 1 + kq * 16 + kr * 4, none⟩)) rfl rfl (by kernel_rfl) (by kernel_rfl) (by kernel_rfl) (fun _ _ _ h => h) (Or.inl ⟨by rfl, fun w' => by go_simp⟩) ?_
      simp only [Act.put, List.setIfInBounds_toArray, List.set_cons_zero, List.set_cons_succ]
      refine take_lawG 9 (some 35) (.slice (some ⟨kb, 1 + kq * 16 + kr * 4, none⟩) 4 4) rfl rfl (by kernel_rfl) (by kernel_rfl) (by kernel_rfl) (fun _ _ _ h => h) (Or.inl ⟨by rfl, fun w' => by go_simp⟩) ?_
      simp only [Act.put, List.setIfInBounds_toArray, List.set_cons_zero, List.set_cons_succ]
      refine take_lawG 10 (some 36) (.int .u32 (x : Int)) rfl rfl (by kernel_rfl) (by kernel_rfl) (by kernel_rfl) (fun _ _ _ h => h) (Or.inl ⟨by rfl, fun w' => by rfl⟩) ?_
      simp only [Act.put, List.setIfInBounds_toArray, List.set_cons_zero, List.set_cons_succ]
      refine take_lawG 11 (some 37) (.int .u64 (x : Int)) rfl rfl (by kernel_rfl) (by kernel_rfl) (by kernel_rfl) (fun _ _ _ h => h) (Or.inl ⟨by rfl, fun w' => by go_simp⟩) ?_
      simp only [Act.put, List.setIfInBounds_toArray, List.set_cons_zero, List.set_cons_succ]
      refine wpAny_ready (rs := [12]) (by kernel_rfl) (by simp) ?_
      refine AllReady.cons rfl (fun K hK => ?_) AllReady.nil
      refine step_callG _ rfl (some 38) rfl 18 #[.tmp 37, .const (.int .i64 4)] #[22, 3] rfl (fun q w' => by rfl) #[.int .u64 (x : Int), .int .i64 4] (by simp only [List.map_toArray, List.map_cons, List.map_nil]; rfl) _ (HGK.out _) fun v3 w3 h3 => hK _ _ ?_
      obtain ⟨Y3, B3⟩ := h3
      have hS' : kb < wr.drew.heap.size := hS
      have HC3 : w3.cell? ⟨kb, 0, none⟩ = some (.bool true) := by
        rw [World.cell?_of_block (w := wr.drew) (w' := w3) (a := ⟨kb, 0, none⟩) (B3.block kb hS')]; exact HC.out
      have HA3 : Ar w3 kb 1 .u8 (filled (rks key) (4 * k)) := (HA.out.drewN 1).below B3 hS'
      have HB3 : Below kb w1 w3 := (below_drewN HB.out 1).trans (B3.mono (by have : kb < wr.heap.size := hS; show kb ≤ wr.heap.size; omega))
      simp only [Act.put, List.setIfInBounds_toArray, List.set_cons_zero, List.set_cons_succ]
      refine wpAny_ready (rs := [13]) (by kernel_rfl) (by simp) ?_
      refine AllReady.cons rfl (fun K hK => ?_) AllReady.nil
      refine step_copyO _ rfl (some 39) rfl (.tmp 35) (.tmp 38) rfl kb 1 (4 * k) 4 4 _ _ xs _ HQ.out rfl rfl Y3 HA3 W4.out (by rw [filled_len, rks_len]; omega) fun w4 A4 B4 C4 => hK _ _ ?_
      rw [FC.out] at A4
      have HA4 : Hid (Ar w4 kb 1 .u8 (filled (rks key) (4 * (k + 1)))) := A4
      have HC4 : Hid (w4.cell? ⟨kb, 0, none⟩ = some (.bool true)) := by show _ = _; rw [C4 0 (by omega)]; exact HC3
      have HB4 : Hid (Below kb w1 w4) := HB3.trans B4
      have hS4 : kb < w4.heap.size := A4.lt (by rw [filled_len, rks_len]; omega)
      clear A4 B4 C4 HC3 HA3 HB3 Y3 B3
      simp only [Act.put, List.setIfInBounds_toArray, List.set_cons_zero, List.set_cons_succ]
      refine wpAny_done (by kernel_rfl) ?_ _
      go_wp2
      go_roundw
      case rel => exact ⟨k + 1, by omega, by go_num, HC4.out, HA4.out, HB4.out, hS4⟩
      case measure => simp [intOf]; omega
    · have hk60 : k = 60 := by omega
      subst hk60
      rw [show 4 * 60 = 240 from rfl, HF0.out.2] at hA
      go_wp2
      go_ret2
      exact ⟨kb, rfl, ⟨hC, hA⟩, by omega, B1.trans (hB.mono (by omega))⟩

set_option maxHeartbeats 1000000 in
theorem exp_no (v : Value) (xs : List Int) (w : World) (hv : Byt w v xs) (hl : ¬ xs.length = 32) :
    Calls Tryd.prog 38 #[v] w fun e w' => e = .returned (.tuple #[.slice none 0 0, .int .i64 2]) ∧ w' = w := by
  obtain ⟨ao, ca, rfl, ha1, ha2, -, -, -⟩ := hv
  have h1 : ¬ ((xs.length : Int) = 32) := by omega
  clear hl
  generalize xs.length = n at *
  go_enter Tryd.func38, Tryd.ntmps38
  go_wp2
  go_ret2
  exact ⟨rfl, rfl⟩
set_option maxHeartbeats 1000000 in
theorem new_no (v : Value) (xs : List Int) (w : World) (hv : Byt w v xs) (hl : ¬ xs.length = 32) :
    Calls Tryd.prog 32 #[v] w fun e w' => e = .returned (.tuple #[.pointer none, .int .i64 2]) ∧ w' = w := by
  have H : Hid (Calls Tryd.prog 38 #[v] w fun e w' => e = .returned (.tuple #[.slice none 0 0, .int .i64 2]) ∧ w' = w) := exp_no v xs w hv hl
  go_enter Tryd.func32, Tryd.ntmps32
  go_wp2_with (go_at_call 38; refine H.out.mono ?_; rintro e w1 ⟨rfl, hw⟩; obtain rfl := hw.symm)
  go_ret2
  exact ⟨rfl, rfl⟩
end Go.Proofs.YtifepmdhbhdjpaaDoor

/- What aes' list answers. No claim of its own. -/
namespace Go.Proofs.YtifepmdhbhdjpaaDoor
open Go.RowKit
set_option maxRecDepth 20000

set_option linter.unusedSimpArgs false in
set_option maxRecDepth 20000 in
set_option maxHeartbeats 2000000 in
theorem list_any (xs : List Int) (w : World) (hl : xs.length = 16) (hx : AllB xs) :
    Calls Tryd.prog 56 #[.agg (ints .u8 xs)] w fun e w' => ∃ g, e = .returned (.slice (some ⟨g, 0, none⟩) 16 16) ∧ Ar w' g 0 .u8 xs ∧ w.heap.size ≤ g ∧ Below w.heap.size w w' := by
  have HX : Hid (AllB xs) := hx
  have HL : Hid (xs.length = 16) := hl
  have HF : Hid (filled xs 0 = z16 ∧ filled xs 16 = xs) := filled16 xs hl
  clear hl hx
  go_enter Tryd.func56, Tryd.ntmps56
  go_wp2_with (first
    | (refine box_lawF _ rfl (.tmp 0) 71 rfl .u8 xs rfl ?_; intro w1 A1 B1 s1; have HA1 : Hid (Ar w1 w.heap.size 0 .u8 xs) := A1; clear A1)
    | (at_make; refine make_law _ rfl _ _ rfl w1.heap.size (Nat.le_refl _) 16 16 rfl rfl rfl (by omega) ?_; intro w2 hown B2 s2; have HO2 : Hid (Ar w2 w1.heap.size 0 .u8 z16) := hown.arG; clear hown)
    | (have q2 := s2; refine load_lawN _ rfl (.tmp 1) 71 rfl .u8 xs w.heap.size 0 rfl (HA1.out.below B2 s1) 4 16 69 Tryd.underlying71 i_st HL.out ?_))
  have o1 : w.heap.size < w1.heap.size := s1
  have o2 : w1.heap.size < w2.heap.size := s2
  have BW : Below w.heap.size w w1 := B1
  generalize w1.heap.size = g3 at *
  go_loopw [8] (fun i wr => ∃ k : Nat, k ≤ 4 ∧ i = .int .i64 k ∧ Ar wr g3 0 .u8 (filled xs (4 * k)) ∧ Below g3 w1 wr ∧ g3 < wr.heap.size) (fun i _ => 4 - (intOf i).toNat)
  case atStart => exact ⟨0, Nat.zero_le _, rfl, by rw [Nat.mul_zero, HF.out.1]; exact HO2.out, B2, o2⟩
  case round =>
    obtain ⟨k, hk, rfl, hA, hB, hS⟩ := hrel
    have k0 : (0 : Int) ≤ (k : Int) := by omega
    have q1 : IntKind.i64.wrap (k : Int) = k := by rw [IntKind.wrap_i64]; omega
    by_cases hlt : k < 4
    · have k1 : (k : Int) < 4 := by omega
      have HCut : Hid (∀ w0, Calls Tryd.prog 46 #[.slice (some ⟨g3, 0, none⟩) 16 16, .int .i64 k] w0 fun e w' => e = .returned (.slice (some ⟨g3, 0 + 4 * k, none⟩) 4 4) ∧ w' = w0) := fun w0 => cut_any g3 0 16 16 k w0 (by omega) (by omega) (by omega)
      rw [Nat.zero_add] at HCut
      have HA : Hid (Ar wr g3 0 .u8 (filled xs (4 * k))) := hA
      have HB : Hid (Below g3 w1 wr) := hB
      have CL : Hid ((cut4 xs k).length = 4) := cut4_len xs k (by rw [HL.out]; omega)
      have CA : Hid (AllB (cut4 xs k)) := cut4_all xs k HX.out
      have FC : Hid (laid (filled xs (4 * k)) (4 * k) (cut4 xs k) = filled xs (4 * (k + 1))) := filled_cut xs k (by rw [HL.out]; omega)
      have HQ : Hid (cut4 xs k = cut4 xs k) := rfl
      obtain ⟨cs, hcs⟩ : ∃ cs, cs = cut4 xs k := ⟨_, rfl⟩
      have HCS : Hid (cs = cut4 xs k) := hcs
      rw [← hcs] at CL CA FC
      clear hA hB hcs HQ
      go_wp2_with (first
        | (refine idx_st _ rfl (.tmp 7) (.tmp 8) rfl xs _ k rfl rfl rfl hlt cs HCS.out ?_)
        | (refine new_lawF _ rfl 69 rfl .u8 z4 z_arr4 ?_; intro w3 A3 B3 s3; have HA3 : Hid (Ar w3 wr.heap.size 0 .u8 z4) := A3; clear A3)
        | (have q3 := s3; refine store_lawF _ rfl (.tmp 5) (.tmp 11) 69 rfl .u8 z4 cs wr.heap.size rfl rfl HA3.out 4 i_arr4 rfl CL.out ?_; intro w4 A4 B4; have HA4 : Hid (Ar w4 wr.heap.size 0 .u8 cs) := A4; clear A4))
      refine wp_region_any (by kernel_rfl) ?_
      change wpAny _ _ _ _ _ _ _ (World.drew _)
      refine wpAny_quiet_then (C := fun w' => ∃ n, w' = w4.drewN n) 0 4 1 _ (by kernel_rfl) rfl (by kernel_rfl) (by kernel_rfl) ⟨1, rfl⟩ ?_
      simp only [List.take_succ_cons, List.take_zero, List.drop_zero]
      repeat (quiet_step (with_reducible exact Calls.quiet_of_same (HCut.out _)))
      refine wpQuiet_nil ?_
      rintro f _ ⟨nq, rfl⟩
      have B34 : Below wr.heap.size wr w4 := B3.trans (B4.mono (by omega))
      refine wpAny_ready (rs := [4]) (by kernel_rfl) (by simp) ?_
      refine AllReady.cons rfl (fun K hK => ?_) AllReady.nil
      refine step_copyG _ rfl (some 16) rfl (.tmp 14) (.tmp 15) rfl g3 (4 * k) 4 4 _ _ _ rfl rfl ((HA4.out.drewN nq).bytG CA.out 4 4 CL.out (by omega) (by omega)) ((HA.out.below B34 hS).drewN nq) CL.out (by rw [filled_len, HL.out]; omega) fun w5 A5 B5 => hK _ _ ?_
      rw [FC.out] at A5
      have HA5 : Hid (Ar w5 g3 0 .u8 (filled xs (4 * (k + 1)))) := A5
      have HB5 : Hid (Below g3 w1 w5) := (below_drewN (HB.out.trans (B34.mono (by omega))) nq).trans B5
      have hS5 : g3 < w5.heap.size := by have h1 := B34.size; have h2 : w4.heap.size ≤ w5.heap.size := B5.size; omega
      clear A5 B5
      simp only [Act.put, List.setIfInBounds_toArray, List.set_cons_zero, List.set_cons_succ]
      refine wpAny_done (by kernel_rfl) ?_ _
      go_wp2
      go_roundw
      case rel => exact ⟨k + 1, by omega, by go_num, HA5.out, HB5.out, hS5⟩
      case measure => simp [intOf]; omega
    · have hk4 : k = 4 := by omega
      subst hk4
      rw [show 4 * 4 = 16 from rfl, HF.out.2] at hA
      go_wp2
      go_ret
      exact ⟨g3, rfl, hA, by omega, BW.trans (hB.mono (by omega))⟩
end Go.Proofs.YtifepmdhbhdjpaaDoor

/- What aes' xored answers. No claim of its own. -/
namespace Go.Proofs.YtifepmdhbhdjpaaDoor
open Go.RowKit
set_option maxRecDepth 20000

/-- the first n bytes are xored -/
def prx (xs ys : List Int) (n : Nat) : List Int := (List.range 16).map fun t => if t < n then xr (gb xs t) (gb ys t) else gb xs t
theorem prx_len (xs ys : List Int) (n : Nat) : (prx xs ys n).length = 16 := by simp [prx]
theorem gb_prx (xs ys : List Int) (n t : Nat) (h : t < 16) : gb (prx xs ys n) t = if t < n then xr (gb xs t) (gb ys t) else gb xs t := range_gb _ _ _ h
theorem prx_zero (xs ys : List Int) (h : xs.length = 16) : prx xs ys 0 = xs := ext_gb (by rw [prx_len, h]) fun t ht => by
  rw [prx_len] at ht
  rw [gb_prx _ _ _ _ ht, if_neg (by omega)]
theorem prx_end (xs ys : List Int) (h : xs.length = 16) (h' : ys.length = 16) : prx xs ys 16 = xorl xs ys := ext_gb (by rw [prx_len, xorl_len _ _ (by omega), h]) fun t ht => by
  rw [prx_len] at ht
  rw [gb_prx _ _ _ _ ht, if_pos ht, xorl_gb _ _ (by omega) _ (by omega)]
theorem prx_set (xs ys : List Int) (n : Nat) : (prx xs ys n).set n (xr (gb xs n) (gb ys n)) = prx xs ys (n + 1) := ext_gb (by simp [prx]) fun t ht => by
  rw [List.length_set, prx_len] at ht
  rw [gb_set _ _ _ _ (by rw [prx_len]; exact ht), gb_prx _ _ _ _ ht, gb_prx _ _ _ _ ht]
  by_cases e : n = t
  · subst e; simp
  · rw [if_neg e]
    by_cases h : t < n
    · rw [if_pos h, if_pos (by omega)]
    · rw [if_neg h, if_neg (by omega)]

set_option linter.unusedSimpArgs false in
set_option maxRecDepth 20000 in
set_option maxHeartbeats 4000000 in
theorem xored_any (xs ys : List Int) (w : World) (hx : Blk xs) (hy : Blk ys) :
    Calls Tryd.prog 50 #[.agg (ints .u8 xs), .agg (ints .u8 ys)] w fun e w' => e = .returned (.agg (ints .u8 (xorl xs ys))) ∧ Below w.heap.size w w' := by
  have HX : Hid (Blk xs) := hx
  have HY : Hid (Blk ys) := hy
  have HZ : Hid (prx xs ys 0 = xs ∧ prx xs ys 16 = xorl xs ys ∧ (xorl xs ys).length = 16) := ⟨prx_zero xs ys hx.1, prx_end xs ys hx.1 hy.1, (xorl_blk xs ys hx hy).1⟩
  generalize xorl xs ys = zs at *
  clear hx hy
  go_enter Tryd.func50, Tryd.ntmps50
  go_wp2_with (first
    | (refine box_lawF _ rfl (.tmp 0) 71 rfl .u8 xs rfl ?_; intro w1 A1 B1 s1; have HA1 : Hid (Ar w1 w.heap.size 0 .u8 xs) := A1; clear A1)
    | (refine box_lawF _ rfl (.tmp 1) 71 rfl .u8 ys rfl ?_; intro w2 A2 B2 s2; have HA2 : Hid (Ar w2 w1.heap.size 0 .u8 ys) := A2; clear A2)
    | (have q2 := s2; refine new_lawF _ rfl 71 rfl .u8 z16 z_st ?_; intro w3 A3 B3 s3; have HA3 : Hid (Ar w3 w2.heap.size 0 .u8 z16) := A3; clear A3)
    | (have q3 := s3; refine load_lawN _ rfl (.tmp 3) 71 rfl .u8 ys w1.heap.size 0 rfl (HA2.out.below B3 s2) 4 16 69 Tryd.underlying71 i_st HY.out.1 ?_))
  have D1 : Hid (Ar w3 w.heap.size 0 .u8 xs) := (HA1.out.below B2 s1).below B3 (by omega)
  have BW : Below w.heap.size w w3 := (B1.trans (B2.mono (by omega))).trans (B3.mono (by omega))
  have o2 : w2.heap.size < w3.heap.size := s3
  have o1 : w.heap.size < w2.heap.size := by omega
  generalize hg0 : w.heap.size = g0 at *
  generalize w2.heap.size = g2 at *
  generalize w1.heap.size = g1 at *
  go_loopw [10] (fun i wr => ∃ k : Nat, k ≤ 4 ∧ i = .int .i64 k ∧ Ar wr g0 0 .u8 (prx xs ys (4 * k)) ∧ Ar wr g2 0 .u8 z16 ∧ Below g0 w wr ∧ g2 < wr.heap.size) (fun i _ => 4 - (intOf i).toNat)
  case atStart => exact ⟨0, Nat.zero_le _, rfl, by rw [Nat.mul_zero, HZ.out.1]; exact D1.out, HA3.out, BW, o2⟩
  case round =>
    obtain ⟨k, hk, rfl, hA, hR, hB, hS⟩ := hrel
    obtain ⟨wa, rfl⟩ : ∃ wx, wx = wr := ⟨_, rfl⟩
    have k0 : (0 : Int) ≤ (k : Int) := by omega
    have q1 : IntKind.i64.wrap (k : Int) = k := by rw [IntKind.wrap_i64]; omega
    have HA : Hid (Ar wa g0 0 .u8 (prx xs ys (4 * k))) := hA
    have HR : Hid (Ar wa g2 0 .u8 z16) := hR
    have HB : Hid (Below g0 w wa) := hB
    clear hA hR hB
    by_cases hlt : k < 4
    · have k1 : (k : Int) < 4 := by omega
      have CL : Hid ((cut4 ys k).length = 4) := cut4_len ys k (by rw [HY.out.1]; omega)
      have CG : Hid (∀ i, i < 4 → gb (cut4 ys k) i = gb ys (4 * k + i)) := fun i hi => cut4_gb ys k i hi
      obtain ⟨cs, hcs⟩ : ∃ cs, cs = cut4 ys k := ⟨_, rfl⟩
      have HCS : Hid (cs = cut4 ys k) := hcs
      rw [← hcs] at CL CG
      clear hcs
      go_wp2_with (first
        | (refine idx_st _ rfl (.tmp 9) (.tmp 10) rfl ys _ k rfl rfl rfl hlt cs HCS.out ?_)
        | (refine new_lawF _ rfl 69 rfl .u8 z4 z_arr4 ?_; intro w4 A4 B4 s4; have HA4 : Hid (Ar w4 wa.heap.size 0 .u8 z4) := A4; clear A4)
        | (have q4 := s4; refine store_lawF _ rfl (.tmp 6) (.tmp 13) 69 rfl .u8 z4 cs wa.heap.size rfl rfl HA4.out 4 i_arr4 rfl CL.out ?_; intro w5 A5 B5; have HA5 : Hid (Ar w5 wa.heap.size 0 .u8 cs) := A5; clear A5)
        | (refine load_law _ rfl (.tmp 6) 69 rfl .u8 cs wa.heap.size 0 rfl HA5.out 4 5 Tryd.underlying69 i_arr4 CL.out ?_))
      have B45 : Below wa.heap.size wa w5 := B4.trans (B5.mono (by omega))
      have s5 : wa.heap.size ≤ w5.heap.size := B45.size
      have E1 : Hid (Ar w5 g0 0 .u8 (prx xs ys (4 * k + 0))) := HA.out.below B45 (by omega)
      have E2 : Hid (Ar w5 g2 0 .u8 z16) := HR.out.below B45 hS
      have E3 : Hid (Below g0 w w5) := HB.out.trans (B45.mono (by omega))
      have o5 : g2 < w5.heap.size := by omega
      go_loopw [15] (fun j wr => ∃ m : Nat, m ≤ 4 ∧ j = .int .i64 m ∧ Ar wr g0 0 .u8 (prx xs ys (4 * k + m)) ∧ Ar wr g2 0 .u8 z16 ∧ Below g0 w wr ∧ g2 < wr.heap.size) (fun j _ => 4 - (intOf j).toNat)
      case atStart => exact ⟨0, Nat.zero_le _, rfl, E1.out, E2.out, E3.out, o5⟩
      case round =>
        obtain ⟨m, hm, rfl, hA', hR', hB', hS'⟩ := hrel
        obtain ⟨wb, rfl⟩ : ∃ wx, wx = wr := ⟨_, rfl⟩
        have m0 : (0 : Int) ≤ (m : Int) := by omega
        have q2 : IntKind.i64.wrap (m : Int) = m := by rw [IntKind.wrap_i64]; omega
        clear HA HR HB E1 E2 E3
        by_cases hmt : m < 4
        · have m1 : (m : Int) < 4 := by omega
          have c0 := hA'.cell0 (4 * k + m) (by rw [prx_len]; omega)
          rw [gb_prx _ _ _ _ (by omega), if_neg (by omega), Nat.mul_comm 4 k] at c0
          have bx := HX.out.2 (k * 4 + m)
          have by_ := HY.out.2 (k * 4 + m)
          have hxr := xr_of _ _ bx by_
          have HS2 : Hid ((prx xs ys (4 * k + m)).set (4 * k + m) (xr (gb xs (k * 4 + m)) (gb ys (k * 4 + m))) = prx xs ys (4 * k + (m + 1))) := by
            show _ = _
            rw [Nat.mul_comm k 4]; exact prx_set xs ys (4 * k + m)
          have HG : Hid (gb ys (k * 4 + m) = gb cs m) := by show _ = _; rw [CG.out m hmt, Nat.mul_comm]
          have HA' : Hid (Ar wb g0 0 .u8 (prx xs ys (4 * k + m))) := hA'
          have HR' : Hid (Ar wb g2 0 .u8 z16) := hR'
          have HB' : Hid (Below g0 w wb) := hB'
          clear hA' hR' hB' bx by_
          generalize xr (gb xs (k * 4 + m)) (gb ys (k * 4 + m)) = z at *
          generalize gb xs (k * 4 + m) = x at *
          generalize gb ys (k * 4 + m) = y at *
          go_wp2_with (refine idx4 _ rfl (.tmp 14) (.tmp 15) rfl cs _ m rfl rfl rfl CL.out (by omega) y HG.out ?_)
          refine wp_region_any (by kernel_rfl) ?_
          change wpAny _ _ _ _ _ _ _ (World.drew _)
          refine wpAny_quiet_then (C := fun w' => ∃ n, w' = wb.drewN n) 0 9 1 _ (by kernel_rfl) rfl (by kernel_rfl) (by kernel_rfl) ⟨1, rfl⟩ ?_
          simp only [List.take_succ_cons, List.take_zero, List.drop_zero]
          repeat (quiet_step (fail))
          refine wpQuiet_nil ?_
          rintro f _ ⟨nq, rfl⟩
          have A1 := HA'.out.drewN nq
          have A2 := A1.set0 (4 * k + m) (by rw [prx_len]; omega) z
          rw [HS2.out] at A2
          have B2' : Below g0 w ((wb.drewN nq).setCell ⟨g0, 4 * k + m, none⟩ (.int .u8 z)) := (below_drewN HB'.out nq).setCell (Nat.le_refl _) _
          have R2' : Ar ((wb.drewN nq).setCell ⟨g0, 4 * k + m, none⟩ (.int .u8 z)) g2 0 .u8 z16 := (HR'.out.drewN nq).other (by show g2 ≠ g0; omega) _
          refine wpAny_ready (rs := [9]) (by kernel_rfl) (by simp) ?_
          refine AllReady.cons rfl (fun K hK => ?_) AllReady.nil
          refine step_set _ rfl none rfl (.tmp 27) (.tmp 25) 5 rfl .u8 z g0 (4 * k + m) (by rw [Nat.mul_comm 4 k]; rfl) (by first | rfl | (rw [← hxr]; rfl)) (by rw [A1.cell0 _ (by rw [prx_len]; omega)]; rfl) (A1.free0 _ (by rw [prx_len]; omega)) i_u8 (hK _ _ ?_)
          simp only [Act.put, List.setIfInBounds_toArray, List.set_cons_zero, List.set_cons_succ]
          have HA6 : Hid (Ar ((wb.drewN nq).setCell ⟨g0, 4 * k + m, none⟩ (.int .u8 z)) g0 0 .u8 (prx xs ys (4 * k + (m + 1)))) := A2
          have HB6 : Hid (Below g0 w ((wb.drewN nq).setCell ⟨g0, 4 * k + m, none⟩ (.int .u8 z))) := B2'
          have HR6 : Hid (Ar ((wb.drewN nq).setCell ⟨g0, 4 * k + m, none⟩ (.int .u8 z)) g2 0 .u8 z16) := R2'
          have hS6 : g2 < ((wb.drewN nq).setCell ⟨g0, 4 * k + m, none⟩ (.int .u8 z)).heap.size := R2'.lt (by rw [z16_len]; omega)
          clear A1 A2 B2' R2' c0
          generalize (wb.drewN nq).setCell ⟨g0, 4 * k + m, none⟩ (.int .u8 z) = w6 at *
          refine wpAny_done (by kernel_rfl) ?_ _
          go_wp2
          go_roundw
          case rel => exact ⟨m + 1, by omega, by go_num, HA6.out, HR6.out, HB6.out, hS6⟩
          case measure => simp [intOf]; omega
        · have hm4 : m = 4 := by omega
          subst hm4
          have HA6 : Hid (Ar wb g0 0 .u8 (prx xs ys (4 * (k + 1)))) := by show Ar _ _ _ _ _; rw [show 4 * (k + 1) = 4 * k + 4 by omega]; exact hA'
          have HR6 : Hid (Ar wb g2 0 .u8 z16) := hR'
          have HB6 : Hid (Below g0 w wb) := hB'
          clear hA' hR' hB'
          go_wp2
          go_roundw
          case rel => exact ⟨k + 1, by omega, by go_num, HA6.out, HR6.out, HB6.out, hS'⟩
          case measure => simp [intOf]; omega
    · have hk4 : k = 4 := by omega
      subst hk4
      have HA2 : Hid (Ar wa g0 0 .u8 zs) := by have := HA.out; rw [show 4 * 4 = 16 from rfl, HZ.out.2.1] at this; exact this
      clear HA
      go_wp2_with (first
        | (refine load_lawN _ rfl (.tmp 2) 71 rfl .u8 zs g0 0 rfl HA2.out 4 16 69 Tryd.underlying71 i_st HZ.out.2.2 ?_)
        | (refine store_lawF _ rfl (.tmp 4) (.tmp 30) 71 rfl .u8 z16 zs g2 rfl rfl HR.out 16 i_st z16_len HZ.out.2.2 ?_; intro w7 A7 B7))
      refine bodyPost_ret (v := .agg (ints .u8 zs)) (results_arN rfl _ _ g2 0 .u8 zs rfl A7 4 16 69 Tryd.underlying71 i_st HZ.out.2.2) rfl ⟨rfl, ?_⟩
      rw [hg0]
      exact HB.out.trans (B7.mono (by omega))
end Go.Proofs.YtifepmdhbhdjpaaDoor

