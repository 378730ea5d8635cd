/- P2.1: for every list of bytes b: sha.Sum(b) is b's hash, as the reference has it, and sha.Pad(b) is b padded, as the reference has it; where b is longer than 3000 bytes it is said that the program answers at all. -/
import Derived.Test.YtigakkmoigfboaaLaw2
import Derived.Test.YtigakkmoigfboaaShaPad
import Derived.Test.YtigakkmoigfboaaRefSum
namespace Go.Proofs.Ytigakkmoigfboaa.shaSums
open Go.ChangeShapes Go.WideShapes Go.ChangeAt Go.RowKit

set_option maxHeartbeats 2000000 in
theorem walk (va : Value) (xs : List Int) (w : World) (ha : Byt w va xs) :
    Calls Try.prog 3 #[va] w fun e w' => e = .returned (.bool true) ∧ Below w.heap.size w w' := by
  have HA : Hid (Byt w va xs) := ha
  obtain ⟨ao, ca, rfl, ha1, ha2, -, -, -⟩ := ha
  obtain ⟨n, hn⟩ : ∃ n, n = xs.length := ⟨_, rfl⟩
  rw [← hn] at HA ha1 ⊢
  have HN : Hid (n = xs.length) := hn
  clear hn
  have HP : Hid (∀ w0, Byt w0 (.slice ao n ca) xs → xs.length ≤ 1000000 → Calls Try.prog 11 #[.slice ao n ca] w0 fun e w' => ∃ v', e = .returned v' ∧ Byt w' v' (xs ++ padl xs.length) ∧ Below w0.heap.size w0 w') := fun w0 h1 h2 => pad_any w0 _ xs h1 h2
  have HRP : Hid (∀ w0, Byt w0 (.slice ao n ca) xs → xs.length ≤ 1000000 → Calls Try.prog 12 #[.slice ao n ca] w0 fun e w' => ∃ v', e = .returned v' ∧ Byt w' v' (xs ++ padl xs.length) ∧ Below w0.heap.size w0 w') := fun w0 h1 h2 => rpad_any w0 _ xs h1 h2
  generalize xs ++ padl xs.length = ps at *
  have HS : Hid (∀ w0, Byt w0 (.slice ao n ca) xs → xs.length ≤ 1000000 → Calls Try.prog 9 #[.slice ao n ca] w0 fun e w' => ∃ v', e = .returned v' ∧ Byt w' v' (sumOf xs) ∧ Below w0.heap.size w0 w') := fun w0 h1 h2 => (sum_any w0 _ xs h1 h2).mono fun e w' ⟨v', he, hb, _, hbl⟩ => ⟨v', he, hb, hbl⟩
  have HRS : Hid (∀ w0, Byt w0 (.slice ao n ca) xs → xs.length ≤ 1000000 → Calls Try.prog 10 #[.slice ao n ca] w0 fun e w' => ∃ v', e = .returned v' ∧ Byt w' v' (sumOf xs) ∧ Below w0.heap.size w0 w') := fun w0 h1 h2 => rsum_any w0 _ xs h1 h2
  generalize sumOf xs = ss at *
  by_cases h3 : n ≤ 3000
  · have l1 : ¬ 3000 < (n : Int) := by omega
    have HM : Hid (xs.length ≤ 1000000) := by have := HN.out; show _ ≤ _; omega
    go_enter Try.func3, Try.ntmps3
    go_wp2_with (first
      | (go_at_call 9; refine (HS.out _ HA.out HM.out).mono ?_; rintro e w1 ⟨v1, rfl, h1, b1⟩; have H1 : Hid (Byt w1 v1 ss) := h1; clear h1; have HA1 : Hid (Byt w1 (.slice ao n ca) xs) := HA.out.below b1)
      | (go_at_call 10; refine (HRS.out _ HA1.out HM.out).mono ?_; rintro e w2 ⟨v2, rfl, h2, b2⟩; have H2 : Hid (Byt w2 v2 ss) := h2; clear h2; have c2 : Below w.heap.size w w2 := b1.trans (b2.mono b1.size); have H12 : Hid (Byt w2 v1 ss) := H1.out.below b2; have HA2 : Hid (Byt w2 (.slice ao n ca) xs) := HA.out.below c2)
      | (go_at_call_of 8 v1; refine (same_true _ _ _ _ H12.out H2.out).mono ?_; rintro e w2' ⟨rfl, b2'⟩; have c2' : Below w.heap.size w w2' := c2.trans (b2'.mono c2.size); have HA2' : Hid (Byt w2' (.slice ao n ca) xs) := HA.out.below c2')
      | (go_at_call 11; refine (HP.out _ HA2'.out HM.out).mono ?_; rintro e w3 ⟨v3, rfl, h3', b3⟩; have H3 : Hid (Byt w3 v3 ps) := h3'; clear h3'; have c3 : Below w.heap.size w w3 := c2'.trans (b3.mono c2'.size); have HA3 : Hid (Byt w3 (.slice ao n ca) xs) := HA.out.below c3)
      | (go_at_call 12; refine (HRP.out _ HA3.out HM.out).mono ?_; rintro e w4 ⟨v4, rfl, h4, b4⟩; have H4 : Hid (Byt w4 v4 ps) := h4; clear h4; have c4 : Below w.heap.size w w4 := c3.trans (b4.mono c3.size); have H34 : Hid (Byt w4 v3 ps) := H3.out.below b4)
      | (go_at_call_of 8 v3; refine (same_true _ _ _ _ H34.out H4.out).mono ?_; rintro e w4' ⟨rfl, b4'⟩; have c4' : Below w.heap.size w w4' := c4.trans (b4'.mono c4.size))
      | (go_at_call 7; refine (awake_any _).mono ?_; rintro e w5 ⟨rfl, b5⟩; have c5 : Below w.heap.size w w5 := c4'.trans (b5.mono c4'.size)))
    go_ret
    exact ⟨rfl, c5⟩
  · have l1 : 3000 < (n : Int) := by omega
    go_enter Try.func3, Try.ntmps3
    go_wp2_with (go_at_call 7; refine (awake_any _).mono ?_; rintro e w4 ⟨rfl, hb4⟩)
    go_ret
    exact ⟨rfl, hb4⟩

theorem params : ∀ t ∈ Try.f3.params.toList, Try.prog.readableRec t = true ∧ t < Try.prog.types.size := by
  rw [Try.params3]
  intro t ht
  simp at ht
  subst ht
  exact ⟨by kernel_rfl, of_decide_eq_true (by kernel_rfl)⟩

theorem contract (H : Type) (enc : TypeId × Value → H) (W : World) (base : Nat) (args : Array Value) (ds gs : List (DataW H)) (before : List MemPlace)
    (hval : ∀ (j : Nat) t v, Try.f3.params[j]? = some t → args[j]? = some v → Value.okWide Try.prog W .any base t v)
    (hW : DataW.Whole enc Try.prog Try.f3.params.toList Rows.shaSumsSpec.vars false W args.toList ds gs before) :
    Calls Try.prog 3 args W fun e W' => ∃ v, e = .returned v ∧ Rows.shaSumsSpec.post enc Try.prog Try.f3 false true false false W args v W' := by
  have hW' := hW
  obtain ⟨p, q, hA0, hV, rfl, hfz, hnd⟩ := hW
  have hA : DataW.TrodAll enc Try.prog W 0 (fun _ => true) true Try.f3.params.toList args.toList ds p := hA0
  rw [Try.params3] at hA hval
  obtain ⟨v0, d0, rfl, rfl, h0⟩ := trodAll_one hA
  obtain ⟨rfl, rfl⟩ := trodVars_none hV
  obtain ⟨xs0, b0⟩ := byt_open (hval 0 22 v0 rfl rfl) h0
  clear hA0
  refine (walk v0 xs0 W b0).mono fun e W' ⟨he, hg⟩ => ?_
  subst he
  exact ⟨_, rfl, post_law rfl (by kernel_rfl) params rfl rfl rfl hW' hg⟩

theorem laid_met (os : Os) : laidMet Try.prog Rows.shaSumsRow.laid ((World.holding Try.prog os ⟨#[], #[], []⟩).forCall (fun _ _ => 0) ⟨#[], #[.slice none 0 0], []⟩).memory :=
  laidMet_of_run' 8 (by kernel_rfl) (by kernel_rfl)
theorem reads (os : Os) {H : Type} (enc : TypeId × Value → H) : ∃ places, DataW.whole enc Try.prog ((World.holding Try.prog os ⟨#[], #[], []⟩).forCall (fun _ _ => 0) ⟨#[], #[.slice none 0 0], []⟩).memory Try.f3.params.toList Rows.shaSumsSpec.vars false #[Value.slice none 0 0].toList 8 = some ([.nil], [], places) :=
  ⟨[], by kernel_rfl⟩

set_option maxRecDepth 100000 in
theorem lifted (os : Os) (started : os.Started) (H : Type) (enc : TypeId × Value → H) (F : Stop.Interp) :
    ReturnsInHanded {} Try.checked os 3 .any ((OpenSpec.ofChange Rows.shaSumsSpec).preRow enc Try.prog Try.f3 Rows.shaSumsRow.domain false Rows.shaSumsRow.laid) (((OpenSpec.ofChange Rows.shaSumsSpec).at F).post enc Try.prog Try.f3 false true false false) := by
  obtain ⟨places, hx⟩ := reads os enc
  refine returnsInHanded_of_row (C := Try.checked) (s := OpenSpec.ofChange Rows.shaSumsSpec) own started (by kernel_rfl) Try.func3
    (witness_row_at (enc := enc) (C := Try.checked) false (World.holding Try.prog os ⟨#[], #[], []⟩) #[.slice none 0 0] rfl (by kernel_rfl) (by kernel_rfl) (by kernel_rfl)
      (OpenSpec.preRow_of_cond 8 hx (by kernel_rfl) (fun k hk => by cases hk) (by kernel_rfl) (laid_met os))) ?_
  intro W base args ds gs before hval hW _ _ _ _ _ _
  exact contract H enc W base args ds gs before hval hW

theorem said : Rows.ShaSumsSaid :=
  OpenClaim.holds_of_cond 3 Try.f3 rfl rfl rfl rfl rfl rfl rfl ⟨rfl, rfl, rfl, rfl, rfl⟩ rfl rfl rfl rfl rfl (by kernel_rfl) Try.func3 (by kernel_rfl)
    (of_decide_eq_true (by kernel_rfl)) (by unfold Func.isWrapper; first | (rw [if_pos (by decide +kernel)]; kernel_rfl) | (rw [if_neg (by decide +kernel)]; exact ⟨rfl, rfl⟩))
    (fun os started H enc _ F => by rw [OpenClaim.pre_eq_preRow]; exact lifted os started H enc F)
end Go.Proofs.Ytigakkmoigfboaa.shaSums

namespace Go.Proofs.Ytigakkmoigfboaa
theorem shaSums_said : Rows.ShaSumsSaid := shaSums.said
#print axioms shaSums_said
end Go.Proofs.Ytigakkmoigfboaa
