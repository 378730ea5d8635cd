/- P5.2, P5.5: any column, mixed and unmixed, is as by definition; each undoes the other; the program answers at all. -/
import Derived.Test.YtimkfljikpfpiaaFCol
namespace Go.Proofs.Ytimkfljikpfpiaa.fieldMixes
open Go.ChangeShapes Go.WideShapes Go.ChangeAt Go.RowKit

theorem run_size_u8 (w : World) : (sizeOf 5).run Try.prog w = .ok 1 w := by
  obtain ⟨i0, hi, hz0, hz1, hz2⟩ := info_parts info_u8
  simp [sizeOf, typeInfo, hi, hz1]

set_option maxRecDepth 20000 in
set_option maxHeartbeats 4000000 in
theorem walk (l : List Nat) (w : World) (hl : l.length = 4) (hb : ∀ x ∈ l, x < 256) :
    Calls Try.prog 3 #[.agg (l.map fun x : Nat => Value.int .u8 (x : Int)).toArray] w fun e w' => e = .returned (.bool true) ∧ Below w.heap.size w w' := by
  have hc : Col l := ⟨hl, fun i => by
    unfold gn
    by_cases h : i < l.length
    · rw [List.getD_eq_getElem?_getD, List.getElem?_eq_getElem h]; exact hb _ (List.getElem_mem h)
    · rw [List.getD_eq_getElem?_getD, List.getElem?_eq_none (by omega)]; exact (by omega : 0 < 256)⟩
  have e0 : (l.map fun x : Nat => Value.int .u8 (x : Int)).toArray = ints .u8 (cI l) := by simp [ints, cI]
  rw [e0]
  have H1 : Hid (∀ w0, Calls Try.prog 4 #[.agg (ints .u8 (cI l))] w0 fun e w' => e = .returned (.agg (ints .u8 (cI (trn l mixW)))) ∧ Below w0.heap.size w0 w') := fun w0 => mix_any l w0 hc
  have H2 : Hid (∀ w0, Calls Try.prog 5 #[.agg (ints .u8 (cI l))] w0 fun e w' => e = .returned (.agg (ints .u8 (cI (trn l unmW)))) ∧ Below w0.heap.size w0 w') := fun w0 => unmix_any l w0 hc
  have HT1 : Hid (∀ w0, Calls Try.prog 6 #[.agg (ints .u8 (cI l)), .agg (ints .u8 (cI mixW))] w0 fun e w' => e = .returned (.agg (ints .u8 (cI (trn l mixW)))) ∧ Below w0.heap.size w0 w') := fun w0 => turned_any l mixW w0 hc mixW_col
  have HT2 : Hid (∀ w0, Calls Try.prog 6 #[.agg (ints .u8 (cI l)), .agg (ints .u8 (cI unmW))] w0 fun e w' => e = .returned (.agg (ints .u8 (cI (trn l unmW)))) ∧ Below w0.heap.size w0 w') := fun w0 => turned_any l unmW w0 hc unmW_col
  have HU2 : Hid (∀ w0, Calls Try.prog 5 #[.agg (ints .u8 (cI (trn l mixW)))] w0 fun e w' => e = .returned (.agg (ints .u8 (cI l))) ∧ Below w0.heap.size w0 w') := fun w0 => by
    have := unmix_any (trn l mixW) w0 (trn_col l mixW mixW_col)
    rwa [unmix_mix l hc] at this
  have HM2 : Hid (∀ w0, Calls Try.prog 4 #[.agg (ints .u8 (cI (trn l unmW)))] w0 fun e w' => e = .returned (.agg (ints .u8 (cI l))) ∧ Below w0.heap.size w0 w') := fun w0 => by
    have := mix_any (trn l unmW) w0 (trn_col l unmW unmW_col)
    rwa [mix_unmix l hc] at this
  have LX : Hid ((cI l).length = 4) := by show _ = _; rw [cI_len]; exact hl
  have LM : Hid ((cI (trn l mixW)).length = 4) := rfl
  have LU : Hid ((cI (trn l unmW)).length = 4) := rfl
  clear hb hc e0
  generalize cI (trn l mixW) = ms at *
  generalize cI (trn l unmW) = us at *
  generalize cI l = xs at *
  obtain ⟨vm, hvm⟩ : ∃ v, v = cI mixW := ⟨_, rfl⟩
  obtain ⟨vu, hvu⟩ : ∃ v, v = cI unmW := ⟨_, rfl⟩
  have HVM : Hid (vm = cI mixW) := hvm
  have HVU : Hid (vu = cI unmW) := hvu
  rw [← hvm] at HT1
  rw [← hvu] at HT2
  clear hvm hvu hl
  go_enter Try.func3, Try.ntmps3
  go_wp2_with (first
    | (refine box_lawF _ rfl (.tmp 0) 22 rfl .u8 xs rfl ?_; intro w1 A1 B1 s1; have HA1 : Hid (Ar w1 w.heap.size 0 .u8 xs) := A1; clear A1)
    | (have q := s1; refine load_law _ rfl (.tmp 1) 22 rfl .u8 xs w.heap.size 0 rfl HA1.out 4 5 Try.underlying22 i_arr4 LX.out ?_)
    | (go_at_call 4; refine (H1.out _).mono ?_; rintro e w2 ⟨rfl, B2⟩; have z2 := B2.size)
    | (have q := z5; refine new_lawF _ rfl 22 rfl .u8 z4 z_arr4 ?_; intro w6 A6 B6 s6; have HA6 : Hid (Ar w6 w5.heap.size 0 .u8 z4) := A6; clear A6)
    | (have q := z2; refine new_lawF _ rfl 22 rfl .u8 z4 z_arr4 ?_; intro w3 A3 B3 s3; have HA3 : Hid (Ar w3 w2.heap.size 0 .u8 z4) := A3; clear A3)
    | (refine store_lawF _ rfl (.tmp 3) (.tmp 6) 22 rfl .u8 z4 ms w2.heap.size rfl rfl HA3.out 4 i_arr4 rfl LM.out ?_; intro w4 A4 B4; have HA4 : Hid (Ar w4 w2.heap.size 0 .u8 ms) := A4; clear A4; have z4' := B4.size; have DX4 : Hid (Ar w4 w.heap.size 0 .u8 xs) := ((HA1.out.below B2 s1).below B3 (by omega)).below B4 (by omega))
    | (have q := z4'; refine load_law _ rfl (.tmp 1) 22 rfl .u8 xs w.heap.size 0 rfl DX4.out 4 5 Try.underlying22 i_arr4 LX.out ?_)
    | (go_at_call 5; refine (H2.out _).mono ?_; rintro e w5 ⟨rfl, B5⟩; have z5 := B5.size)
    | (refine store_lawF _ rfl (.tmp 4) (.tmp 8) 22 rfl .u8 z4 us w5.heap.size rfl rfl HA6.out 4 i_arr4 rfl LU.out ?_; intro w7 A7 B7; have HA7 : Hid (Ar w7 w5.heap.size 0 .u8 us) := A7; clear A7; have z7 := B7.size))
  have DX : Hid (Ar w7 w.heap.size 0 .u8 xs) := ((DX4.out.below B5 (by omega)).below B6 (by omega)).below B7 (by omega)
  have DM : Hid (Ar w7 w2.heap.size 0 .u8 ms) := ((HA4.out.below B5 (by omega)).below B6 (by omega)).below B7 (by omega)
  have DU : Hid (Ar w7 w5.heap.size 0 .u8 us) := HA7.out
  have oX : w.heap.size < w7.heap.size := by omega
  have oM : w2.heap.size < w7.heap.size := by omega
  have oU : w5.heap.size < w7.heap.size := by omega
  have BW : Below w.heap.size w w7 := (((((B1.trans (B2.mono (by omega))).trans (B3.mono (by omega))).trans (B4.mono (by omega))).trans (B5.mono (by omega))).trans (B6.mono (by omega))).trans (B7.mono (by omega))
  have HBW : Hid (Below w.heap.size w w7 ∧ w.heap.size ≤ w7.heap.size) := ⟨BW, by omega⟩
  generalize w2.heap.size = g2 at *
  generalize w5.heap.size = g3 at *
  clear HA1 HA3 HA4 HA6 HA7 DX4 BW B1 B2 B3 B4 B5 B6 B7 H1 H2
  refine region_quiet (C := fun w' => Below w7.heap.size w7 w') (by kernel_rfl) (by kernel_rfl) (Below.refl _ _).drew ?_
  refine wpQuiet_step (fun K hK => ?_)
  refine q_load (by rfl) (some 9) rfl (.tmp 3) 22 rfl .u8 ms g2 rfl (fun w' h' => DM.out.below h' oM) 4 5 Try.underlying22 i_arr4 LM.out (hK _ ?_)
  simp only [Act.put, List.setIfInBounds_toArray, List.set_cons_zero, List.set_cons_succ]
  clear hK K
  refine wpQuiet_step (fun K hK => ?_)
  refine q_load (by rfl) (some 10) rfl (.tmp 1) 22 rfl .u8 xs w.heap.size rfl (fun w' h' => DX.out.below h' oX) 4 5 Try.underlying22 i_arr4 LX.out (hK _ ?_)
  simp only [Act.put, List.setIfInBounds_toArray, List.set_cons_zero, List.set_cons_succ]
  clear hK K
  refine wpQuiet_step (fun K hK => ?_)
  refine q_val (by rfl) (some 11) rfl (.agg (ints .u8 vm)) (fun w' _ => by rw [HVM.out]; kernel_rfl) (hK _ ?_)
  simp only [Act.put, List.setIfInBounds_toArray, List.set_cons_zero, List.set_cons_succ]
  clear hK K
  refine wpQuiet_step (fun K hK => ?_)
  refine q_call (by rfl) (some 12) rfl 6 #[.tmp 10, .tmp 11] #[22, 22] rfl (fun q w' => by rfl) #[.agg (ints .u8 xs), .agg (ints .u8 vm)] (by simp only [List.map_toArray, List.map_cons, List.map_nil]; rfl) (.agg (ints .u8 ms)) (fun w' h' => (HT1.out w').mono fun e w'' h => ⟨h.1, (h'.trans (h.2.mono h'.size))⟩) (hK _ ?_)
  simp only [Act.put, List.setIfInBounds_toArray, List.set_cons_zero, List.set_cons_succ]
  clear hK K
  refine wpQuiet_step (fun K hK => ?_)
  refine q_eql (by rfl) (some 13) rfl (.tmp 9) (.tmp 12) 22 5 _ 4 rfl .u8 ms rfl rfl LM.out Try.underlying22 Try.underlying5 (fun w' => run_size_u8 w') Try.eqGuardType22 (hK _ ?_)
  simp only [Act.put, List.setIfInBounds_toArray, List.set_cons_zero, List.set_cons_succ]
  clear hK K
  refine wpQuiet_step (fun K hK => ?_)
  refine q_val (by rfl) (some 14) rfl (.bool true) (fun w' _ => by rfl) (hK _ ?_)
  simp only [Act.put, List.setIfInBounds_toArray, List.set_cons_zero, List.set_cons_succ]
  clear hK K
  refine wpQuiet_step (fun K hK => ?_)
  refine q_load (by rfl) (some 15) rfl (.tmp 4) 22 rfl .u8 us g3 rfl (fun w' h' => DU.out.below h' oU) 4 5 Try.underlying22 i_arr4 LU.out (hK _ ?_)
  simp only [Act.put, List.setIfInBounds_toArray, List.set_cons_zero, List.set_cons_succ]
  clear hK K
  refine wpQuiet_step (fun K hK => ?_)
  refine q_load (by rfl) (some 16) rfl (.tmp 1) 22 rfl .u8 xs w.heap.size rfl (fun w' h' => DX.out.below h' oX) 4 5 Try.underlying22 i_arr4 LX.out (hK _ ?_)
  simp only [Act.put, List.setIfInBounds_toArray, List.set_cons_zero, List.set_cons_succ]
  clear hK K
  refine wpQuiet_step (fun K hK => ?_)
  refine q_val (by rfl) (some 17) rfl (.agg (ints .u8 vu)) (fun w' _ => by rw [HVU.out]; kernel_rfl) (hK _ ?_)
  simp only [Act.put, List.setIfInBounds_toArray, List.set_cons_zero, List.set_cons_succ]
  clear hK K
  refine wpQuiet_step (fun K hK => ?_)
  refine q_call (by rfl) (some 18) rfl 6 #[.tmp 16, .tmp 17] #[22, 22] rfl (fun q w' => by rfl) #[.agg (ints .u8 xs), .agg (ints .u8 vu)] (by simp only [List.map_toArray, List.map_cons, List.map_nil]; rfl) (.agg (ints .u8 us)) (fun w' h' => (HT2.out w').mono fun e w'' h => ⟨h.1, (h'.trans (h.2.mono h'.size))⟩) (hK _ ?_)
  simp only [Act.put, List.setIfInBounds_toArray, List.set_cons_zero, List.set_cons_succ]
  clear hK K
  refine wpQuiet_step (fun K hK => ?_)
  refine q_eql (by rfl) (some 19) rfl (.tmp 15) (.tmp 18) 22 5 _ 4 rfl .u8 us rfl rfl LU.out Try.underlying22 Try.underlying5 (fun w' => run_size_u8 w') Try.eqGuardType22 (hK _ ?_)
  simp only [Act.put, List.setIfInBounds_toArray, List.set_cons_zero, List.set_cons_succ]
  clear hK K
  refine wpQuiet_step (fun K hK => ?_)
  refine q_val (by rfl) (some 20) rfl (.bool true) (fun w' _ => by rfl) (hK _ ?_)
  simp only [Act.put, List.setIfInBounds_toArray, List.set_cons_zero, List.set_cons_succ]
  clear hK K
  refine wpQuiet_step (fun K hK => ?_)
  refine q_val (by rfl) (some 21) rfl (.bool true) (fun w' _ => by rfl) (hK _ ?_)
  simp only [Act.put, List.setIfInBounds_toArray, List.set_cons_zero, List.set_cons_succ]
  clear hK K
  refine wpQuiet_step (fun K hK => ?_)
  refine q_load (by rfl) (some 22) rfl (.tmp 3) 22 rfl .u8 ms g2 rfl (fun w' h' => DM.out.below h' oM) 4 5 Try.underlying22 i_arr4 LM.out (hK _ ?_)
  simp only [Act.put, List.setIfInBounds_toArray, List.set_cons_zero, List.set_cons_succ]
  clear hK K
  refine wpQuiet_step (fun K hK => ?_)
  refine q_call (by rfl) (some 23) rfl 5 #[.tmp 22] #[22] rfl (fun q w' => by rfl) #[.agg (ints .u8 ms)] (by simp only [List.map_toArray, List.map_cons, List.map_nil]; rfl) (.agg (ints .u8 xs)) (fun w' h' => (HU2.out w').mono fun e w'' h => ⟨h.1, (h'.trans (h.2.mono h'.size))⟩) (hK _ ?_)
  simp only [Act.put, List.setIfInBounds_toArray, List.set_cons_zero, List.set_cons_succ]
  clear hK K
  refine wpQuiet_step (fun K hK => ?_)
  refine q_load (by rfl) (some 24) rfl (.tmp 1) 22 rfl .u8 xs w.heap.size rfl (fun w' h' => DX.out.below h' oX) 4 5 Try.underlying22 i_arr4 LX.out (hK _ ?_)
  simp only [Act.put, List.setIfInBounds_toArray, List.set_cons_zero, List.set_cons_succ]
  clear hK K
  refine wpQuiet_step (fun K hK => ?_)
  refine q_eql (by rfl) (some 25) rfl (.tmp 23) (.tmp 24) 22 5 _ 4 rfl .u8 xs rfl rfl LX.out Try.underlying22 Try.underlying5 (fun w' => run_size_u8 w') Try.eqGuardType22 (hK _ ?_)
  simp only [Act.put, List.setIfInBounds_toArray, List.set_cons_zero, List.set_cons_succ]
  clear hK K
  refine wpQuiet_step (fun K hK => ?_)
  refine q_val (by rfl) (some 26) rfl (.bool true) (fun w' _ => by rfl) (hK _ ?_)
  simp only [Act.put, List.setIfInBounds_toArray, List.set_cons_zero, List.set_cons_succ]
  clear hK K
  refine wpQuiet_step (fun K hK => ?_)
  refine q_val (by rfl) (some 27) rfl (.bool true) (fun w' _ => by rfl) (hK _ ?_)
  simp only [Act.put, List.setIfInBounds_toArray, List.set_cons_zero, List.set_cons_succ]
  clear hK K
  refine wpQuiet_step (fun K hK => ?_)
  refine q_load (by rfl) (some 28) rfl (.tmp 4) 22 rfl .u8 us g3 rfl (fun w' h' => DU.out.below h' oU) 4 5 Try.underlying22 i_arr4 LU.out (hK _ ?_)
  simp only [Act.put, List.setIfInBounds_toArray, List.set_cons_zero, List.set_cons_succ]
  clear hK K
  refine wpQuiet_step (fun K hK => ?_)
  refine q_call (by rfl) (some 29) rfl 4 #[.tmp 28] #[22] rfl (fun q w' => by rfl) #[.agg (ints .u8 us)] (by simp only [List.map_toArray, List.map_cons, List.map_nil]; rfl) (.agg (ints .u8 xs)) (fun w' h' => (HM2.out w').mono fun e w'' h => ⟨h.1, (h'.trans (h.2.mono h'.size))⟩) (hK _ ?_)
  simp only [Act.put, List.setIfInBounds_toArray, List.set_cons_zero, List.set_cons_succ]
  clear hK K
  refine wpQuiet_step (fun K hK => ?_)
  refine q_load (by rfl) (some 30) rfl (.tmp 1) 22 rfl .u8 xs w.heap.size rfl (fun w' h' => DX.out.below h' oX) 4 5 Try.underlying22 i_arr4 LX.out (hK _ ?_)
  simp only [Act.put, List.setIfInBounds_toArray, List.set_cons_zero, List.set_cons_succ]
  clear hK K
  refine wpQuiet_step (fun K hK => ?_)
  refine q_eql (by rfl) (some 31) rfl (.tmp 29) (.tmp 30) 22 5 _ 4 rfl .u8 xs rfl rfl LX.out Try.underlying22 Try.underlying5 (fun w' => run_size_u8 w') Try.eqGuardType22 (hK _ ?_)
  simp only [Act.put, List.setIfInBounds_toArray, List.set_cons_zero, List.set_cons_succ]
  clear hK K
  refine wpQuiet_step (fun K hK => ?_)
  refine q_val (by rfl) (some 32) rfl (.bool true) (fun w' _ => by rfl) (hK _ ?_)
  simp only [Act.put, List.setIfInBounds_toArray, List.set_cons_zero, List.set_cons_succ]
  clear hK K
  refine wpQuiet_step (fun K hK => ?_)
  refine q_val (by rfl) (some 33) rfl (.bool true) (fun w' _ => by rfl) (hK _ ?_)
  simp only [Act.put, List.setIfInBounds_toArray, List.set_cons_zero, List.set_cons_succ]
  clear hK K
  refine wpQuiet_step (fun K hK => ?_)
  refine q_call (by rfl) (some 34) rfl 7 #[] #[] rfl (fun q w' => by rfl) #[] (by simp) (.bool true) (fun w' h' => (awake_any w').mono fun e w'' h => ⟨h.1, (by rw [h.2]; exact h')⟩) (hK _ ?_)
  simp only [Act.put, List.setIfInBounds_toArray, List.set_cons_zero, List.set_cons_succ]
  clear hK K
  refine wpQuiet_step (fun K hK => ?_)
  refine q_val (by rfl) (some 35) rfl (.bool true) (fun w' _ => by rfl) (hK _ ?_)
  simp only [Act.put, List.setIfInBounds_toArray, List.set_cons_zero, List.set_cons_succ]
  clear hK K
  refine wpQuiet_step (fun K hK => ?_)
  refine q_val (by rfl) (some 2) rfl (.bool true) (fun w' _ => by rfl) (hK _ ?_)
  simp only [Act.put, List.setIfInBounds_toArray, List.set_cons_zero, List.set_cons_succ]
  clear hK K
  refine wpQuiet_nil ?_
  intro w8 B8
  go_wp2
  go_ret
  exact ⟨rfl, HBW.out.1.trans (B8.mono HBW.out.2)⟩

theorem params : ∀ t ∈ Try.f3.params.toList, Try.prog.readableRec t = true ∧ t < Try.prog.types.size := by
  rw [Try.params3]
  intro t ht
  simp at ht
  subst ht
  exact ⟨by kernel_rfl, of_decide_eq_true (by kernel_rfl)⟩

theorem contract (H : Type) (enc : TypeId × Value → H) (W : World) (base : Nat) (args : Array Value) (ds gs : List (DataW H)) (before : List MemPlace)
    (hval : ∀ (j : Nat) t v, Try.f3.params[j]? = some t → args[j]? = some v → Value.okWide Try.prog W .any base t v)
    (hW : DataW.Whole enc Try.prog Try.f3.params.toList Rows.fieldMixesSpec.vars false W args.toList ds gs before) :
    Calls Try.prog 3 args W fun e W' => ∃ v, e = .returned v ∧ Rows.fieldMixesSpec.post enc Try.prog Try.f3 false true false false W args v W' := by
  have hW' := hW
  obtain ⟨p, q, hA0, hV, rfl, hfz, hnd⟩ := hW
  have hA : DataW.TrodAll enc Try.prog W 0 (fun _ => true) true Try.f3.params.toList args.toList ds p := hA0
  rw [Try.params3] at hA hval
  obtain ⟨v0, d0, rfl, rfl, h0⟩ := trodAll_one hA
  obtain ⟨rfl, rfl⟩ := trodVars_none hV
  obtain ⟨l0, rfl, n0, b0⟩ := arr_open Try.underlying22 cells_arr4 (hval 0 22 v0 rfl rfl) h0
  clear hA0
  refine (walk l0 W n0 b0).mono fun e W' ⟨he, hg⟩ => ?_
  subst he
  exact ⟨_, rfl, post_law rfl (by kernel_rfl) params rfl rfl rfl hW' hg⟩

theorem laid_met (os : Os) : laidMet Try.prog Rows.fieldMixesRow.laid ((World.holding Try.prog os ⟨#[], #[], []⟩).forCall (fun _ _ => 0) ⟨#[], #[.agg #[.int .u8 0, .int .u8 0, .int .u8 0, .int .u8 0]], []⟩).memory :=
  laidMet_of_run' 8 (by kernel_rfl) (by kernel_rfl)
theorem reads (os : Os) {H : Type} (enc : TypeId × Value → H) : ∃ places, DataW.whole enc Try.prog ((World.holding Try.prog os ⟨#[], #[], []⟩).forCall (fun _ _ => 0) ⟨#[], #[.agg #[.int .u8 0, .int .u8 0, .int .u8 0, .int .u8 0]], []⟩).memory Try.f3.params.toList Rows.fieldMixesSpec.vars false #[Value.agg #[.int .u8 0, .int .u8 0, .int .u8 0, .int .u8 0]].toList 8 = some ([.agg [.lit (.int .u8 0), .lit (.int .u8 0), .lit (.int .u8 0), .lit (.int .u8 0)]], [], places) :=
  ⟨[], by kernel_rfl⟩

set_option maxRecDepth 100000 in
theorem lifted (os : Os) (started : os.Started) (H : Type) (enc : TypeId × Value → H) (F : Stop.Interp) :
    ReturnsInHanded {} Try.checked os 3 .any ((OpenSpec.ofChange Rows.fieldMixesSpec).preRow enc Try.prog Try.f3 Rows.fieldMixesRow.domain false Rows.fieldMixesRow.laid) (((OpenSpec.ofChange Rows.fieldMixesSpec).at F).post enc Try.prog Try.f3 false true false false) := by
  obtain ⟨places, hx⟩ := reads os enc
  refine returnsInHanded_of_row (C := Try.checked) (s := OpenSpec.ofChange Rows.fieldMixesSpec) own started (by kernel_rfl) Try.func3
    (witness_row_at (enc := enc) (C := Try.checked) false (World.holding Try.prog os ⟨#[], #[], []⟩) #[.agg #[.int .u8 0, .int .u8 0, .int .u8 0, .int .u8 0]] rfl (by kernel_rfl) (by kernel_rfl) (by kernel_rfl)
      (OpenSpec.preRow_of_cond 8 hx (by kernel_rfl) (fun k hk => by cases hk) (by kernel_rfl) (laid_met os))) ?_
  intro W base args ds gs before hval hW _ _ _ _ _ _
  exact contract H enc W base args ds gs before hval hW

theorem said : Rows.FieldMixesSaid :=
  OpenClaim.holds_of_cond 3 Try.f3 rfl rfl rfl rfl rfl rfl rfl ⟨rfl, rfl, rfl, rfl, rfl⟩ rfl rfl rfl rfl rfl (by kernel_rfl) Try.func3 (by kernel_rfl)
    (of_decide_eq_true (by kernel_rfl)) (by unfold Func.isWrapper; first | (rw [if_pos (by decide +kernel)]; kernel_rfl) | (rw [if_neg (by decide +kernel)]; exact ⟨rfl, rfl⟩))
    (fun os started H enc _ F => by rw [OpenClaim.pre_eq_preRow]; exact lifted os started H enc F)
end Go.Proofs.Ytimkfljikpfpiaa.fieldMixes

namespace Go.Proofs.Ytimkfljikpfpiaa
theorem fieldMixes_said : Rows.FieldMixesSaid := fieldMixes.said
#print axioms fieldMixes_said
end Go.Proofs.Ytimkfljikpfpiaa
