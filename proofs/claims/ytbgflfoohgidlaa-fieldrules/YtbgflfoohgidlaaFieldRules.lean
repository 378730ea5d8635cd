/- P5.3: products of any three bytes are commutative, associative and distributive; 1 changes nothing; the program answers at all. -/
import Derived.Test.YtbgflfoohgidlaaFLaw
namespace Go.Proofs.Ytbgflfoohgidlaa.fieldRules
open Go.ChangeShapes Go.WideShapes Go.ChangeAt Go.RowKit

set_option maxHeartbeats 4000000 in
theorem walk (x y z : Int) (w : World) (hx : 0 ≤ x ∧ x ≤ 255) (hy : 0 ≤ y ∧ y ≤ 255) (hz : 0 ≤ z ∧ z ≤ 255) :
    Calls Try.prog 6 #[.int .u8 x, .int .u8 y, .int .u8 z] w fun e w' => e = .returned (.bool true) ∧ Below w.heap.size w w' := by
  obtain ⟨a, rfl, ha⟩ := nat_of hx
  obtain ⟨b, rfl, hb⟩ := nat_of hy
  obtain ⟨c, rfl, hc⟩ := nat_of hz
  have hbc := xor_lt b c hb hc
  have e0 := u8_xor_nat b c hb hc
  have e1 := u8_xor_nat (gm a b) (gm a c) (gm_lt a b ha) (gm_lt a c ha)
  rw [← gm_dist] at e1
  have HL : Hid (a < 256 ∧ b < 256 ∧ c < 256 ∧ gm a b < 256 ∧ gm b c < 256 ∧ b ^^^ c < 256) := ⟨ha, hb, hc, gm_lt a b ha, gm_lt b c hb, hbc⟩
  have E1 : Hid (gm b a = gm a b) := gm_comm b a hb ha
  have e2 : ((gm (gm a b) c : Nat) : Int) = ((gm a (gm b c) : Nat) : Int) := by rw [gm_assoc a b c ha hb]
  have H8 : Hid (∀ w, Calls Try.prog 8 #[.int .u8 a, .int .u8 1] w fun e w' => e = .returned (.int .u8 a) ∧ w' = w) := fun w => by have := mul_any a 1 w ha (by omega); rw [gm_one a ha] at this; exact this
  clear ha hb hc hx hy hz hbc
  go_enter Try.func6, Try.ntmps6
  go_wp2_with (first
    | (go_at_call 11; refine (awake_any _).mono ?_; rintro e w' ⟨rfl, hw⟩; obtain rfl := hw.symm)
    | (go_at_call_of 8 (Value.int IntKind.u8 1); refine (H8.out _).mono ?_; rintro e w' ⟨rfl, hw⟩; obtain rfl := hw.symm)
    | (go_at_call 8; refine (mul_any _ _ _ ?h1 ?h2).mono ?_; (case h1 => obtain ⟨h1, h2, h3, h4, h5, h6⟩ := HL; assumption); (case h2 => obtain ⟨h1, h2, h3, h4, h5, h6⟩ := HL; assumption); rintro e w' ⟨rfl, hw⟩; obtain rfl := hw.symm; try rw [E1.out]))
  go_ret
  exact ⟨rfl, Below.refl _ _⟩

theorem params : ∀ t ∈ Try.f6.params.toList, Try.prog.readableRec t = true ∧ t < Try.prog.types.size := by
  rw [Try.params6]
  intro t ht
  simp at ht
  subst ht
  exact ⟨by kernel_rfl, of_decide_eq_true (by kernel_rfl)⟩

theorem contract (H : Type) (enc : TypeId × Value → H) (W : World) (base : Nat) (args : Array Value) (ds gs : List (DataW H)) (before : List MemPlace)
    (hval : ∀ (j : Nat) t v, Try.f6.params[j]? = some t → args[j]? = some v → Value.okWide Try.prog W .any base t v)
    (hW : DataW.Whole enc Try.prog Try.f6.params.toList Rows.fieldRulesSpec.vars false W args.toList ds gs before) :
    Calls Try.prog 6 args W fun e W' => ∃ v, e = .returned v ∧ Rows.fieldRulesSpec.post enc Try.prog Try.f6 false true false false W args v W' := by
  have hW' := hW
  obtain ⟨p, q, hA0, hV, rfl, hfz, hnd⟩ := hW
  have hA : DataW.TrodAll enc Try.prog W 0 (fun _ => true) true Try.f6.params.toList args.toList ds p := hA0
  rw [Try.params6] at hA hval
  obtain ⟨v0, v1, v2, d0, d1, d2, p0, p1, p2, rfl, rfl, rfl, h0, h1, h2⟩ := trodAll_three hA
  obtain ⟨rfl, rfl⟩ := trodVars_none hV
  obtain ⟨x0, rfl, rfl, rfl, w0⟩ := open_int Try.underlying5 (hval 0 5 v0 rfl rfl) h0
  obtain ⟨x1, rfl, rfl, rfl, w1⟩ := open_int Try.underlying5 (hval 1 5 v1 rfl rfl) h1
  obtain ⟨x2, rfl, rfl, rfl, w2⟩ := open_int Try.underlying5 (hval 2 5 v2 rfl rfl) h2
  clear hA0
  refine (walk x0 x1 x2 W (bounds_u8 w0) (bounds_u8 w1) (bounds_u8 w2)).mono fun e W' ⟨he, hg⟩ => ?_
  subst he
  exact ⟨_, rfl, post_law rfl (by kernel_rfl) params rfl rfl rfl hW' hg⟩

theorem laid_met (os : Os) : laidMet Try.prog Rows.fieldRulesRow.laid ((World.holding Try.prog os ⟨#[], #[], []⟩).forCall (fun _ _ => 0) ⟨#[], #[.int .u8 0, .int .u8 0, .int .u8 0], []⟩).memory :=
  laidMet_of_run' 8 (by kernel_rfl) (by kernel_rfl)
theorem reads (os : Os) {H : Type} (enc : TypeId × Value → H) : ∃ places, DataW.whole enc Try.prog ((World.holding Try.prog os ⟨#[], #[], []⟩).forCall (fun _ _ => 0) ⟨#[], #[.int .u8 0, .int .u8 0, .int .u8 0], []⟩).memory Try.f6.params.toList Rows.fieldRulesSpec.vars false #[Value.int .u8 0, Value.int .u8 0, Value.int .u8 0].toList 8 = some ([.lit (.int .u8 0), .lit (.int .u8 0), .lit (.int .u8 0)], [], places) :=
  ⟨[], by kernel_rfl⟩

set_option maxRecDepth 100000 in
theorem lifted (os : Os) (started : os.Started) (H : Type) (enc : TypeId × Value → H) (F : Stop.Interp) :
    ReturnsInHanded {} Try.checked os 6 .any ((OpenSpec.ofChange Rows.fieldRulesSpec).preRow enc Try.prog Try.f6 Rows.fieldRulesRow.domain false Rows.fieldRulesRow.laid) (((OpenSpec.ofChange Rows.fieldRulesSpec).at F).post enc Try.prog Try.f6 false true false false) := by
  obtain ⟨places, hx⟩ := reads os enc
  refine returnsInHanded_of_row (C := Try.checked) (s := OpenSpec.ofChange Rows.fieldRulesSpec) own started (by kernel_rfl) Try.func6
    (witness_row_at (enc := enc) (C := Try.checked) false (World.holding Try.prog os ⟨#[], #[], []⟩) #[.int .u8 0, .int .u8 0, .int .u8 0] rfl (by kernel_rfl) (by kernel_rfl) (by kernel_rfl)
      (OpenSpec.preRow_of_cond 8 hx (by kernel_rfl) (fun k hk => by cases hk) (by kernel_rfl) (laid_met os))) ?_
  intro W base args ds gs before hval hW _ _ _ _ _ _
  exact contract H enc W base args ds gs before hval hW

theorem said : Rows.FieldRulesSaid :=
  OpenClaim.holds_of_cond 6 Try.f6 rfl rfl rfl rfl rfl rfl rfl ⟨rfl, rfl, rfl, rfl, rfl⟩ rfl rfl rfl rfl rfl (by kernel_rfl) Try.func6 (by kernel_rfl)
    (of_decide_eq_true (by kernel_rfl)) (by unfold Func.isWrapper; first | (rw [if_pos (by decide +kernel)]; kernel_rfl) | (rw [if_neg (by decide +kernel)]; exact ⟨rfl, rfl⟩))
    (fun os started H enc _ F => by rw [OpenClaim.pre_eq_preRow]; exact lifted os started H enc F)
end Go.Proofs.Ytbgflfoohgidlaa.fieldRules

namespace Go.Proofs.Ytbgflfoohgidlaa
theorem fieldRules_said : Rows.FieldRulesSaid := fieldRules.said
#print axioms fieldRules_said
end Go.Proofs.Ytbgflfoohgidlaa
