/- P6.1, P6.2: what is put for any byte is as by definition; Back undoes Sub, and Sub Back; no byte is put for itself; the program answers at all. -/
import Derived.Test.YtdchelbobmdmpaaSCall
import Derived.Test.YtdchelbobmdmpaaSRef
namespace Go.Proofs.Ytdchelbobmdmpaa.sboxSubs
open Go.ChangeShapes Go.WideShapes Go.ChangeAt Go.RowKit

set_option maxHeartbeats 2000000 in
theorem walk (x : Int) (w : World) (hx : 0 ≤ x ∧ x ≤ 255) :
    Calls Try.prog 3 #[.int .u8 x] w fun e w' => e = .returned (.bool true) ∧ Below w.heap.size w w' := by
  obtain ⟨a, rfl, ha⟩ := nat_of hx
  have S1 : Hid (∀ w, Calls Try.prog 6 #[.int .u8 a] w fun e w' => e = .returned (.int .u8 (sb a)) ∧ Below w.heap.size w w') := fun w => sub_any a w ha
  have R1 : Hid (∀ w, Calls Try.prog 7 #[.int .u8 a] w fun e w' => e = .returned (.int .u8 (sb a)) ∧ w' = w) := fun w => rsub_any a w ha
  have S2 : Hid (∀ w, Calls Try.prog 8 #[.int .u8 (sb a)] w fun e w' => e = .returned (.int .u8 a) ∧ Below w.heap.size w w') := by
    intro w
    have := back_any (sb a) w (sb_lt a ha)
    rwa [sk_sb a ha] at this
  have S3 : Hid (∀ w, Calls Try.prog 8 #[.int .u8 a] w fun e w' => e = .returned (.int .u8 (sk a)) ∧ Below w.heap.size w w') := fun w => back_any a w ha
  have S4 : Hid (∀ w, Calls Try.prog 6 #[.int .u8 (sk a)] w fun e w' => e = .returned (.int .u8 a) ∧ Below w.heap.size w w') := by
    intro w
    have := sub_any (sk a) w (sk_lt a ha)
    rwa [sb_sk a ha] at this
  have hne : ¬ ((sb a : Int) = (a : Int)) := by have := sb_ne a ha; omega
  have hnk : ¬ ((sk a : Int) = (a : Int)) := by
    intro h
    have h1 : sk a = a := by omega
    have h2 := sb_sk a ha
    rw [h1] at h2
    exact sb_ne a ha h2
  generalize sb a = s at *
  generalize sk a = t at *
  have BB : Hid (Below w.heap.size w w) := Below.refl _ _
  clear ha hx
  go_enter Try.func3, Try.ntmps3
  go_wp2_with (first
    | (go_at_call 9; refine (awake_any _).mono ?_; rintro e w' ⟨rfl, B'⟩; have BB : Hid (Below w.heap.size w _) := BB.out.trans (B'.mono BB.out.size); clear B')
    | (go_at_call 7; refine (R1.out _).mono ?_; rintro e w' ⟨rfl, hw⟩; obtain rfl := hw.symm)
    | (go_at_call_of 6 (Value.int IntKind.u8 (a : Int)); refine (S1.out _).mono ?_; rintro e w' ⟨rfl, B'⟩; have BB : Hid (Below w.heap.size w _) := BB.out.trans (B'.mono BB.out.size); clear B')
    | (go_at_call_of 8 (Value.int IntKind.u8 (s : Int)); refine (S2.out _).mono ?_; rintro e w' ⟨rfl, B'⟩; have BB : Hid (Below w.heap.size w _) := BB.out.trans (B'.mono BB.out.size); clear B')
    | (go_at_call_of 8 (Value.int IntKind.u8 (a : Int)); refine (S3.out _).mono ?_; rintro e w' ⟨rfl, B'⟩; have BB : Hid (Below w.heap.size w _) := BB.out.trans (B'.mono BB.out.size); clear B')
    | (go_at_call_of 6 (Value.int IntKind.u8 (t : Int)); refine (S4.out _).mono ?_; rintro e w' ⟨rfl, B'⟩; have BB : Hid (Below w.heap.size w _) := BB.out.trans (B'.mono BB.out.size); clear B'))
  go_ret
  exact ⟨ret_bool (show ((s : Int) != (a : Int)) = true by simpa using hne), BB.out⟩

theorem params : ∀ t ∈ Try.f3.params.toList, Try.prog.readableRec t = true ∧ t < Try.prog.types.size := by
  rw [Try.params3]
  intro t ht
  simp at ht
  subst ht
  exact ⟨by kernel_rfl, of_decide_eq_true (by kernel_rfl)⟩

theorem contract (H : Type) (enc : TypeId × Value → H) (W : World) (base : Nat) (args : Array Value) (ds gs : List (DataW H)) (before : List MemPlace)
    (hval : ∀ (j : Nat) t v, Try.f3.params[j]? = some t → args[j]? = some v → Value.okWide Try.prog W .any base t v)
    (hW : DataW.Whole enc Try.prog Try.f3.params.toList Rows.sboxSubsSpec.vars false W args.toList ds gs before) :
    Calls Try.prog 3 args W fun e W' => ∃ v, e = .returned v ∧ Rows.sboxSubsSpec.post enc Try.prog Try.f3 false true false false W args v W' := by
  have hW' := hW
  obtain ⟨p, q, hA0, hV, rfl, hfz, hnd⟩ := hW
  have hA : DataW.TrodAll enc Try.prog W 0 (fun _ => true) true Try.f3.params.toList args.toList ds p := hA0
  rw [Try.params3] at hA hval
  obtain ⟨v0, d0, rfl, rfl, h0⟩ := trodAll_one hA
  obtain ⟨rfl, rfl⟩ := trodVars_none hV
  obtain ⟨x0, rfl, rfl, rfl, w0⟩ := open_int Try.underlying5 (hval 0 5 v0 rfl rfl) h0
  clear hA0
  refine (walk x0 W (bounds_u8 w0)).mono fun e W' ⟨he, hg⟩ => ?_
  subst he
  exact ⟨_, rfl, post_law rfl (by kernel_rfl) params rfl rfl rfl hW' hg⟩

theorem laid_met (os : Os) : laidMet Try.prog Rows.sboxSubsRow.laid ((World.holding Try.prog os ⟨#[], #[], []⟩).forCall (fun _ _ => 0) ⟨#[], #[.int .u8 0], []⟩).memory :=
  laidMet_of_run' 8 (by kernel_rfl) (by kernel_rfl)
theorem reads (os : Os) {H : Type} (enc : TypeId × Value → H) : ∃ places, DataW.whole enc Try.prog ((World.holding Try.prog os ⟨#[], #[], []⟩).forCall (fun _ _ => 0) ⟨#[], #[.int .u8 0], []⟩).memory Try.f3.params.toList Rows.sboxSubsSpec.vars false #[Value.int .u8 0].toList 8 = some ([.lit (.int .u8 0)], [], places) :=
  ⟨[], by kernel_rfl⟩

set_option maxRecDepth 100000 in
theorem lifted (os : Os) (started : os.Started) (H : Type) (enc : TypeId × Value → H) (F : Stop.Interp) :
    ReturnsInHanded {} Try.checked os 3 .any ((OpenSpec.ofChange Rows.sboxSubsSpec).preRow enc Try.prog Try.f3 Rows.sboxSubsRow.domain false Rows.sboxSubsRow.laid) (((OpenSpec.ofChange Rows.sboxSubsSpec).at F).post enc Try.prog Try.f3 false true false false) := by
  obtain ⟨places, hx⟩ := reads os enc
  refine returnsInHanded_of_row (C := Try.checked) (s := OpenSpec.ofChange Rows.sboxSubsSpec) own started (by kernel_rfl) Try.func3
    (witness_row_at (enc := enc) (C := Try.checked) false (World.holding Try.prog os ⟨#[], #[], []⟩) #[.int .u8 0] rfl (by kernel_rfl) (by kernel_rfl) (by kernel_rfl)
      (OpenSpec.preRow_of_cond 8 hx (by kernel_rfl) (fun k hk => by cases hk) (by kernel_rfl) (laid_met os))) ?_
  intro W base args ds gs before hval hW _ _ _ _ _ _
  exact contract H enc W base args ds gs before hval hW

theorem said : Rows.SboxSubsSaid :=
  OpenClaim.holds_of_cond 3 Try.f3 rfl rfl rfl rfl rfl rfl rfl ⟨rfl, rfl, rfl, rfl, rfl⟩ rfl rfl rfl rfl rfl (by kernel_rfl) Try.func3 (by kernel_rfl)
    (of_decide_eq_true (by kernel_rfl)) (by unfold Func.isWrapper; first | (rw [if_pos (by decide +kernel)]; kernel_rfl) | (rw [if_neg (by decide +kernel)]; exact ⟨rfl, rfl⟩))
    (fun os started H enc _ F => by rw [OpenClaim.pre_eq_preRow]; exact lifted os started H enc F)
end Go.Proofs.Ytdchelbobmdmpaa.sboxSubs

namespace Go.Proofs.Ytdchelbobmdmpaa
theorem sboxSubs_said : Rows.SboxSubsSaid := sboxSubs.said
#print axioms sboxSubs_said
end Go.Proofs.Ytdchelbobmdmpaa
