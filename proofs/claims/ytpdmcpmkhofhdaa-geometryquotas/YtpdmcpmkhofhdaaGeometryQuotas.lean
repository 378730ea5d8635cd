/- P11.2: the quota of any size, or why there is none; the program answers at all. -/
import Derived.Test.YtpdmcpmkhofhdaaGRight
import Derived.Test.YtpdmcpmkhofhdaaGAwk
import Derived.Test.YtpdmcpmkhofhdaaGOpen
import Derived.Test.YtpdmcpmkhofhdaaGIdx
namespace Go.Proofs.Ytpdmcpmkhofhdaa.geometryQuotas
open Go.ChangeShapes Go.WideShapes Go.ChangeAt Go.RowKit

open Go.Proofs.Ytpdmcpmkhofhdaa.ge

set_option maxHeartbeats 4000000 in
theorem walk_wrong (g : List Int) (s : Int) (w : World) (hl : g.length = 6) (h : ¬ Rt g) :
    Calls Try.prog 5 #[.agg (ints .i64 g), .int .i64 s] w fun e w' => e = .returned (.bool true) ∧ Below w.heap.size w w' := by
  have SR : Hid (∀ w, Calls Try.prog 8 #[.agg (ints .i64 g)] w fun x w' => x = .returned (.bool false) ∧ Below w.heap.size w w') := right_no g hl h
  have SA : Hid (∀ w, Calls Try.prog 15 #[] w fun x w' => x = .returned (.bool true) ∧ Below w.heap.size w w') := awake_any
  have SQ : Hid (∀ w, Calls Try.prog 18 #[.agg (ints .i64 g), .int .i64 s] w fun x w' => x = .returned (.tuple #[.int .i64 0, .int .i64 2]) ∧ Below w.heap.size w w') := quota_wrong g s hl h
  have t0 : (0 : Nat) = 0 := rfl
  clear h
  go_enter Try.func5, Try.ntmps5
  go_wp2_with (first
    | (have q3 := t3; go_at_call 15; refine (SA.out _).mono ?_; rintro e w5 ⟨rfl, B5⟩; have HX : Hid (Ar w5 w.heap.size 0 .i64 g) := HX.out.below B5 (HX.out.lt (by omega)); have BB : Hid (Below w.heap.size w w5) := BB.out.trans (B5.mono BB.out.size); have t4 : (0 : Nat) = 0 := rfl; clear B5 t3)
    | (have q2 := t2; go_at_call 8; refine (SR.out _).mono ?_; rintro e w4 ⟨rfl, B4⟩; have HX : Hid (Ar w4 w.heap.size 0 .i64 g) := HX.out.below B4 (HX.out.lt (by omega)); have BB : Hid (Below w.heap.size w w4) := BB.out.trans (B4.mono BB.out.size); have t3 : (0 : Nat) = 0 := rfl; clear B4 t2)
    | (have q1 := t1; go_at_call 18; refine (SQ.out _).mono ?_; rintro e w3 ⟨rfl, B3⟩; have HX : Hid (Ar w3 w.heap.size 0 .i64 g) := HX.out.below B3 (HX.out.lt (by omega)); have BB : Hid (Below w.heap.size w w3) := BB.out.trans (B3.mono BB.out.size); have t2 : (0 : Nat) = 0 := rfl; clear B3 t1)
    | (have q9 := HX; refine load_lawS _ (by rfl) _ _ rfl (load_geo HX.out hl) ?_)
    | (have q0 := t0; refine box_lawF _ rfl (.tmp 0) 23 rfl .i64 g rfl ?_; intro w1 X1 B1 L1; have HX : Hid (Ar w1 w.heap.size 0 .i64 g) := X1; have BB : Hid (Below w.heap.size w w1) := B1; have t1 : (0 : Nat) = 0 := rfl; clear X1 t0 B1))
  go_ret
  exact ⟨rfl, BB.out⟩

set_option maxHeartbeats 4000000 in
theorem walk_low (g : List Int) (s : Int) (w : World) (hl : g.length = 6) (h : Rt g) (h0 : s < 1) :
    Calls Try.prog 5 #[.agg (ints .i64 g), .int .i64 s] w fun e w' => e = .returned (.bool true) ∧ Below w.heap.size w w' := by
  have SR : Hid (∀ w, Calls Try.prog 8 #[.agg (ints .i64 g)] w fun x w' => x = .returned (.bool true) ∧ Below w.heap.size w w') := right_yes g hl h
  have SA : Hid (∀ w, Calls Try.prog 15 #[] w fun x w' => x = .returned (.bool true) ∧ Below w.heap.size w w') := awake_any
  have SQ : Hid (∀ w, Calls Try.prog 18 #[.agg (ints .i64 g), .int .i64 s] w fun x w' => x = .returned (.tuple #[.int .i64 0, .int .i64 13]) ∧ Below w.heap.size w w') := quota_range g s hl h (fun q => by omega)
  have t0 : (0 : Nat) = 0 := rfl
  clear h
  go_enter Try.func5, Try.ntmps5
  go_wp2_with (first
    | (have q3 := t3; go_at_call 15; refine (SA.out _).mono ?_; rintro e w5 ⟨rfl, B5⟩; have HX : Hid (Ar w5 w.heap.size 0 .i64 g) := HX.out.below B5 (HX.out.lt (by omega)); have BB : Hid (Below w.heap.size w w5) := BB.out.trans (B5.mono BB.out.size); have t4 : (0 : Nat) = 0 := rfl; clear B5 t3)
    | (have q2 := t2; go_at_call 8; refine (SR.out _).mono ?_; rintro e w4 ⟨rfl, B4⟩; have HX : Hid (Ar w4 w.heap.size 0 .i64 g) := HX.out.below B4 (HX.out.lt (by omega)); have BB : Hid (Below w.heap.size w w4) := BB.out.trans (B4.mono BB.out.size); have t3 : (0 : Nat) = 0 := rfl; clear B4 t2)
    | (have q1 := t1; go_at_call 18; refine (SQ.out _).mono ?_; rintro e w3 ⟨rfl, B3⟩; have HX : Hid (Ar w3 w.heap.size 0 .i64 g) := HX.out.below B3 (HX.out.lt (by omega)); have BB : Hid (Below w.heap.size w w3) := BB.out.trans (B3.mono BB.out.size); have t2 : (0 : Nat) = 0 := rfl; clear B3 t1)
    | (have q9 := HX; refine load_lawS _ (by rfl) _ _ rfl (load_geo HX.out hl) ?_)
    | (have q0 := t0; refine box_lawF _ rfl (.tmp 0) 23 rfl .i64 g rfl ?_; intro w1 X1 B1 L1; have HX : Hid (Ar w1 w.heap.size 0 .i64 g) := X1; have BB : Hid (Below w.heap.size w w1) := B1; have t1 : (0 : Nat) = 0 := rfl; clear X1 t0 B1))
  go_ret
  exact ⟨rfl, BB.out⟩

set_option maxHeartbeats 4000000 in
theorem walk_high (g : List Int) (s : Int) (w : World) (hl : g.length = 6) (h : Rt g) (h0 : ¬ s < 1) (h1 : 65535 < s) :
    Calls Try.prog 5 #[.agg (ints .i64 g), .int .i64 s] w fun e w' => e = .returned (.bool true) ∧ Below w.heap.size w w' := by
  have SR : Hid (∀ w, Calls Try.prog 8 #[.agg (ints .i64 g)] w fun x w' => x = .returned (.bool true) ∧ Below w.heap.size w w') := right_yes g hl h
  have SA : Hid (∀ w, Calls Try.prog 15 #[] w fun x w' => x = .returned (.bool true) ∧ Below w.heap.size w w') := awake_any
  have SQ : Hid (∀ w, Calls Try.prog 18 #[.agg (ints .i64 g), .int .i64 s] w fun x w' => x = .returned (.tuple #[.int .i64 0, .int .i64 13]) ∧ Below w.heap.size w w') := quota_range g s hl h (fun q => by omega)
  have t0 : (0 : Nat) = 0 := rfl
  clear h
  go_enter Try.func5, Try.ntmps5
  go_wp2_with (first
    | (have q3 := t3; go_at_call 15; refine (SA.out _).mono ?_; rintro e w5 ⟨rfl, B5⟩; have HX : Hid (Ar w5 w.heap.size 0 .i64 g) := HX.out.below B5 (HX.out.lt (by omega)); have BB : Hid (Below w.heap.size w w5) := BB.out.trans (B5.mono BB.out.size); have t4 : (0 : Nat) = 0 := rfl; clear B5 t3)
    | (have q2 := t2; go_at_call 8; refine (SR.out _).mono ?_; rintro e w4 ⟨rfl, B4⟩; have HX : Hid (Ar w4 w.heap.size 0 .i64 g) := HX.out.below B4 (HX.out.lt (by omega)); have BB : Hid (Below w.heap.size w w4) := BB.out.trans (B4.mono BB.out.size); have t3 : (0 : Nat) = 0 := rfl; clear B4 t2)
    | (have q1 := t1; go_at_call 18; refine (SQ.out _).mono ?_; rintro e w3 ⟨rfl, B3⟩; have HX : Hid (Ar w3 w.heap.size 0 .i64 g) := HX.out.below B3 (HX.out.lt (by omega)); have BB : Hid (Below w.heap.size w w3) := BB.out.trans (B3.mono BB.out.size); have t2 : (0 : Nat) = 0 := rfl; clear B3 t1)
    | (have q9 := HX; refine load_lawS _ (by rfl) _ _ rfl (load_geo HX.out hl) ?_)
    | (have q0 := t0; refine box_lawF _ rfl (.tmp 0) 23 rfl .i64 g rfl ?_; intro w1 X1 B1 L1; have HX : Hid (Ar w1 w.heap.size 0 .i64 g) := X1; have BB : Hid (Below w.heap.size w w1) := B1; have t1 : (0 : Nat) = 0 := rfl; clear X1 t0 B1))
  go_ret
  exact ⟨rfl, BB.out⟩

set_option maxHeartbeats 4000000 in
theorem walk_yes (g : List Int) (u s : Nat) (w : World) (hl : g.length = 6) (h : Rt g) (hu : gb g 1 = (u : Int) + 1) (hu1 : 3 ≤ u ∧ u ≤ 31) (h0 : ¬ (s : Int) < 1) (h1 : ¬ 65535 < (s : Int)) :
    Calls Try.prog 5 #[.agg (ints .i64 g), .int .i64 (s : Int)] w fun e w' => e = .returned (.bool true) ∧ Below w.heap.size w w' := by
  have SR : Hid (∀ w, Calls Try.prog 8 #[.agg (ints .i64 g)] w fun x w' => x = .returned (.bool true) ∧ Below w.heap.size w w') := right_yes g hl h
  have SA : Hid (∀ w, Calls Try.prog 15 #[] w fun x w' => x = .returned (.bool true) ∧ Below w.heap.size w w') := awake_any
  have SQ : Hid (∀ w, Calls Try.prog 18 #[.agg (ints .i64 g), .int .i64 (s : Int)] w fun x w' => x = .returned (.tuple #[.int .i64 ((qt u s : Nat) : Int), .int .i64 0]) ∧ Below w.heap.size w w') := quota_yes g hl h u s hu hu1 (by omega)
  have SS : Hid (∀ w, Calls Try.prog 19 #[.agg (ints .i64 g), .int .i64 (s : Int)] w fun x w' => x = .returned (.int .i64 ((qt u s : Nat) : Int)) ∧ Below w.heap.size w w') := rquota_any g hl u s hu hu1 (by omega)
  generalize ((qt u s : Nat) : Int) = z at *
  have t0 : (0 : Nat) = 0 := rfl
  clear h hu hu1
  go_enter Try.func5, Try.ntmps5
  go_wp2_with (first
    | (have q4 := t4; go_at_call 15; refine (SA.out _).mono ?_; rintro e w6 ⟨rfl, B6⟩; have HX : Hid (Ar w6 w.heap.size 0 .i64 g) := HX.out.below B6 (HX.out.lt (by omega)); have BB : Hid (Below w.heap.size w w6) := BB.out.trans (B6.mono BB.out.size); have t5 : (0 : Nat) = 0 := rfl; clear B6 t4)
    | (have q3 := t3; go_at_call 19; refine (SS.out _).mono ?_; rintro e w5 ⟨rfl, B5⟩; have HX : Hid (Ar w5 w.heap.size 0 .i64 g) := HX.out.below B5 (HX.out.lt (by omega)); have BB : Hid (Below w.heap.size w w5) := BB.out.trans (B5.mono BB.out.size); have t4 : (0 : Nat) = 0 := rfl; clear B5 t3)
    | (have q2 := t2; go_at_call 8; refine (SR.out _).mono ?_; rintro e w4 ⟨rfl, B4⟩; have HX : Hid (Ar w4 w.heap.size 0 .i64 g) := HX.out.below B4 (HX.out.lt (by omega)); have BB : Hid (Below w.heap.size w w4) := BB.out.trans (B4.mono BB.out.size); have t3 : (0 : Nat) = 0 := rfl; clear B4 t2)
    | (have q1 := t1; go_at_call 18; refine (SQ.out _).mono ?_; rintro e w3 ⟨rfl, B3⟩; have HX : Hid (Ar w3 w.heap.size 0 .i64 g) := HX.out.below B3 (HX.out.lt (by omega)); have BB : Hid (Below w.heap.size w w3) := BB.out.trans (B3.mono BB.out.size); have t2 : (0 : Nat) = 0 := rfl; clear B3 t1)
    | (have q9 := HX; refine load_lawS _ (by rfl) _ _ rfl (load_geo HX.out hl) ?_)
    | (have q0 := t0; refine box_lawF _ rfl (.tmp 0) 23 rfl .i64 g rfl ?_; intro w1 X1 B1 L1; have HX : Hid (Ar w1 w.heap.size 0 .i64 g) := X1; have BB : Hid (Below w.heap.size w w1) := B1; have t1 : (0 : Nat) = 0 := rfl; clear X1 t0 B1))
  go_ret
  exact ⟨rfl, BB.out⟩

theorem walk (g : List Int) (s : Int) (w : World) (hl : g.length = 6) (_ : -9223372036854775808 ≤ s ∧ s ≤ 9223372036854775807) : Calls Try.prog 5 #[.agg (ints .i64 g), .int .i64 s] w fun e w' => e = .returned (.bool true) ∧ Below w.heap.size w w' := by

  by_cases h : Rt g
  · by_cases h0 : s < 1
    · exact walk_low g s w hl h h0
    · by_cases h1 : 65535 < s
      · exact walk_high g s w hl h h0 h1
      · obtain ⟨u, hu, hu1⟩ := unit_nat h.1
        obtain ⟨k, rfl⟩ : ∃ k : Nat, s = (k : Int) := ⟨s.toNat, by omega⟩
        exact walk_yes g u k w hl h hu hu1 h0 h1
  · exact walk_wrong g s w hl h

theorem params : ∀ t ∈ Try.f5.params.toList, Try.prog.readableRec t = true ∧ t < Try.prog.types.size := by
  rw [Try.params5]
  intro t ht
  simp at ht
  rcases ht with rfl | rfl
  · exact ⟨by kernel_rfl, of_decide_eq_true (by kernel_rfl)⟩
  · exact ⟨by kernel_rfl, of_decide_eq_true (by kernel_rfl)⟩

theorem contract (H : Type) (enc : TypeId × Value → H) (W : World) (base : Nat) (args : Array Value) (ds gs : List (DataW H)) (before : List MemPlace)
    (hval : ∀ (j : Nat) t v, Try.f5.params[j]? = some t → args[j]? = some v → Value.okWide Try.prog W .any base t v)
    (hW : DataW.Whole enc Try.prog Try.f5.params.toList Rows.geometryQuotasSpec.vars false W args.toList ds gs before) :
    Calls Try.prog 5 args W fun e W' => ∃ v, e = .returned v ∧ Rows.geometryQuotasSpec.post enc Try.prog Try.f5 false true false false W args v W' := by
  have hW' := hW
  obtain ⟨p, q, hA0, hV, rfl, hfz, hnd⟩ := hW
  have hA : DataW.TrodAll enc Try.prog W 0 (fun _ => true) true Try.f5.params.toList args.toList ds p := hA0
  rw [Try.params5] at hA hval
  obtain ⟨v0, v1, d0, d1, p0, p1, rfl, rfl, rfl, h0, h1⟩ := trodAll_two hA
  obtain ⟨rfl, rfl⟩ := trodVars_none hV
  obtain ⟨g0, rfl, n0⟩ := geo_open (hval 0 23 v0 rfl rfl) h0
  obtain ⟨x1, rfl, rfl, rfl, w1⟩ := open_int Try.underlying3 (hval 1 3 v1 rfl rfl) h1
  clear hA0
  refine (walk g0 x1 W n0 (bounds_i64 w1)).mono fun e W' ⟨he, hg⟩ => ?_
  subst he
  exact ⟨_, rfl, post_law rfl (by kernel_rfl) params rfl rfl rfl hW' hg⟩

theorem laid_met (os : Os) : laidMet Try.prog Rows.geometryQuotasRow.laid ((World.holding Try.prog os ⟨#[], #[], []⟩).forCall (fun _ _ => 0) ⟨#[], #[.agg #[.int .i64 0, .int .i64 0, .int .i64 0, .int .i64 0, .int .i64 0, .int .i64 0], .int .i64 0], []⟩).memory :=
  laidMet_of_run' 8 (by kernel_rfl) (by kernel_rfl)
theorem reads (os : Os) {H : Type} (enc : TypeId × Value → H) : ∃ places, DataW.whole enc Try.prog ((World.holding Try.prog os ⟨#[], #[], []⟩).forCall (fun _ _ => 0) ⟨#[], #[.agg #[.int .i64 0, .int .i64 0, .int .i64 0, .int .i64 0, .int .i64 0, .int .i64 0], .int .i64 0], []⟩).memory Try.f5.params.toList Rows.geometryQuotasSpec.vars false #[Value.agg #[.int .i64 0, .int .i64 0, .int .i64 0, .int .i64 0, .int .i64 0, .int .i64 0], Value.int .i64 0].toList 8 = some ([.agg [.lit (.int .i64 0), .lit (.int .i64 0), .lit (.int .i64 0), .lit (.int .i64 0), .lit (.int .i64 0), .lit (.int .i64 0)], .lit (.int .i64 0)], [], places) :=
  ⟨[], by kernel_rfl⟩

set_option maxRecDepth 100000 in
theorem lifted (os : Os) (started : os.Started) (H : Type) (enc : TypeId × Value → H) (F : Stop.Interp) :
    ReturnsInHanded {} Try.checked os 5 .any ((OpenSpec.ofChange Rows.geometryQuotasSpec).preRow enc Try.prog Try.f5 Rows.geometryQuotasRow.domain false Rows.geometryQuotasRow.laid) (((OpenSpec.ofChange Rows.geometryQuotasSpec).at F).post enc Try.prog Try.f5 false true false false) := by
  obtain ⟨places, hx⟩ := reads os enc
  refine returnsInHanded_of_row (C := Try.checked) (s := OpenSpec.ofChange Rows.geometryQuotasSpec) own started (by kernel_rfl) Try.func5
    (witness_row_at (enc := enc) (C := Try.checked) false (World.holding Try.prog os ⟨#[], #[], []⟩) #[.agg #[.int .i64 0, .int .i64 0, .int .i64 0, .int .i64 0, .int .i64 0, .int .i64 0], .int .i64 0] rfl (by kernel_rfl) (by kernel_rfl) (by kernel_rfl)
      (OpenSpec.preRow_of_cond 8 hx (by kernel_rfl) (fun k hk => by cases hk) (by kernel_rfl) (laid_met os))) ?_
  intro W base args ds gs before hval hW _ _ _ _ _ _
  exact contract H enc W base args ds gs before hval hW

theorem said : Rows.GeometryQuotasSaid :=
  OpenClaim.holds_of_cond 5 Try.f5 rfl rfl rfl rfl rfl rfl rfl ⟨rfl, rfl, rfl, rfl, rfl⟩ rfl rfl rfl rfl rfl (by kernel_rfl) Try.func5 (by kernel_rfl)
    (of_decide_eq_true (by kernel_rfl)) (by unfold Func.isWrapper; first | (rw [if_pos (by decide +kernel)]; kernel_rfl) | (rw [if_neg (by decide +kernel)]; exact ⟨rfl, rfl⟩))
    (fun os started H enc _ F => by rw [OpenClaim.pre_eq_preRow]; exact lifted os started H enc F)
end Go.Proofs.Ytpdmcpmkhofhdaa.geometryQuotas

namespace Go.Proofs.Ytpdmcpmkhofhdaa
theorem geometryQuotas_said : Rows.GeometryQuotasSaid := geometryQuotas.said
#print axioms geometryQuotas_said
end Go.Proofs.Ytpdmcpmkhofhdaa
