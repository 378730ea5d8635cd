/- P14.2: for all heads a and b: head.Less(a, b) tells whether a's Epoch is less than b's, or, if they are the same, a's Counter; of two heads one is ahead of the other, or Epoch and Counter are the same. -/
import Derived.Test.YtjlnalfbaojedaaDoorCards
import Derived.Test.YtjlnalfbaojedaaDoorTie
import Derived.Test.YtjlnalfbaojedaaDoorHAwk
namespace Go.Proofs.YtjlnalfbaojedaaDoor.headLess
open Go.ChangeShapes Go.WideShapes Go.ChangeAt Go.RowKit Go.Proofs.YtjlnalfbaojedaaDoor.he
set_option maxRecDepth 20000

set_option maxHeartbeats 8000000 in
theorem walk (k n c l e t k' n' c' l' e' t' : Int) (w : World) (_f0 : Hb l e t) (_f1 : Hb l' e' t') (hT : Tab w) :
    Calls Tryd.prog 8 #[.agg (hv k n c l e t).toArray, .agg (hv k' n' c' l' e' t').toArray] w fun x w' => x = .returned (.bool true) ∧ Below w.heap.size w w' := by
  by_cases h1 : e < e'
  · have h2 : ¬ e = e' := by omega
    have h3 : ¬ e' < e := by omega
    have e1 : (e == e') = false := beq_eq_false_iff_ne.2 h2
    have L1 : Hid (∀ w, Calls Tryd.prog 25 #[.agg (hv k n c l e t).toArray, .agg (hv k' n' c' l' e' t').toArray] w fun x w' => x = .returned (.bool true) ∧ Below w.heap.size w w') := fun w => less_any _ _ _ _ _ _ _ _ _ _ _ _ w _ (by simp <;> omega)
    have L2 : Hid (∀ w, Calls Tryd.prog 25 #[.agg (hv k' n' c' l' e' t').toArray, .agg (hv k n c l e t).toArray] w fun x w' => x = .returned (.bool false) ∧ Below w.heap.size w w') := fun w => less_any _ _ _ _ _ _ _ _ _ _ _ _ w _ (by simp <;> omega)
    go_enter Tryd.func8, Tryd.ntmps8
    have t0 : (0 : Nat) = 0 := rfl
    go_wp2_with (first
      | (have qa := ta; go_at_call 11; refine (awake_any _ (hT.below BB.out)).mono ?_; rintro e9 w9 ⟨rfl, B9⟩; have BB : Hid (Below w.heap.size w w9) := BB.out.trans (B9.mono BB.out.size); clear B9 ta)
      | (have q3 := t3; go_at_call 25; refine (L2.out _).mono ?_; rintro e9 w4 ⟨rfl, B4⟩; have BB : Hid (Below w.heap.size w w4) := BB.out.trans (B4.mono BB.out.size); clear B4 t3; have ta : (0 : Nat) = 0 := rfl)
      | (have q2 := t2; go_at_call 25; refine (L1.out _).mono ?_; rintro e9 w3 ⟨rfl, B3⟩; have BB : Hid (Below w.heap.size w w3) := BB.out.trans (B3.mono BB.out.size); have A3 := HA.out.below B3 (by omega); have D3 := HD.out.below B3 s2; clear c0 c1 c2 c3 c4 c5 d0 d1 d2 d3 d4 d5; have c0 := A3.cell 0 _ rfl; have c1 := A3.cell 1 _ rfl; have c2 := A3.cell 2 _ rfl; have c3 := A3.cell 3 _ rfl; have c4 := A3.cell 4 _ rfl; have c5 := A3.cell 5 _ rfl; have d0 := D3.cell 0 _ rfl; have d1 := D3.cell 1 _ rfl; have d2 := D3.cell 2 _ rfl; have d3 := D3.cell 3 _ rfl; have d4 := D3.cell 4 _ rfl; have d5 := D3.cell 5 _ rfl; clear A3 D3 B3 t2; have t3 : (0 : Nat) = 0 := rfl)
      | (have q1 := t1; refine box_lawC _ (hv k' n' c' l' e' t') rfl ?_; intro w2 V2 B2 s2; have HA : Hid (Vr w2 w.heap.size (hv k n c l e t)) := HA.out.below B2 s1; have HD : Hid (Vr w2 w1.heap.size (hv k' n' c' l' e' t')) := V2; have c0 := HA.out.cell 0 _ rfl; have c1 := HA.out.cell 1 _ rfl; have c2 := HA.out.cell 2 _ rfl; have c3 := HA.out.cell 3 _ rfl; have c4 := HA.out.cell 4 _ rfl; have c5 := HA.out.cell 5 _ rfl; have d0 := HD.out.cell 0 _ rfl; have d1 := HD.out.cell 1 _ rfl; have d2 := HD.out.cell 2 _ rfl; have d3 := HD.out.cell 3 _ rfl; have d4 := HD.out.cell 4 _ rfl; have d5 := HD.out.cell 5 _ rfl; have BB : Hid (Below w.heap.size w w2) := BB.out.trans (B2.mono BB.out.size); clear V2 B2 t1; have t2 : (0 : Nat) = 0 := rfl)
      | (have q0 := t0; refine box_lawC _ (hv k n c l e t) rfl ?_; intro w1 V1 B1 s1; have HA : Hid (Vr w1 w.heap.size (hv k n c l e t)) := V1; have BB : Hid (Below w.heap.size w w1) := B1; clear V1 B1 t0; have t1 : (0 : Nat) = 0 := rfl))
    go_ret
    exact ⟨rfl, BB.out⟩
  · by_cases h2 : e' < e
    · have h3 : ¬ e = e' := by omega
      have e1 : (e == e') = false := beq_eq_false_iff_ne.2 h3
      have L1 : Hid (∀ w, Calls Tryd.prog 25 #[.agg (hv k n c l e t).toArray, .agg (hv k' n' c' l' e' t').toArray] w fun x w' => x = .returned (.bool false) ∧ Below w.heap.size w w') := fun w => less_any _ _ _ _ _ _ _ _ _ _ _ _ w _ (by simp <;> omega)
      have L2 : Hid (∀ w, Calls Tryd.prog 25 #[.agg (hv k' n' c' l' e' t').toArray, .agg (hv k n c l e t).toArray] w fun x w' => x = .returned (.bool true) ∧ Below w.heap.size w w') := fun w => less_any _ _ _ _ _ _ _ _ _ _ _ _ w _ (by simp <;> omega)
      go_enter Tryd.func8, Tryd.ntmps8
      have t0 : (0 : Nat) = 0 := rfl
      go_wp2_with (first
        | (have qa := ta; go_at_call 11; refine (awake_any _ (hT.below BB.out)).mono ?_; rintro e9 w9 ⟨rfl, B9⟩; have BB : Hid (Below w.heap.size w w9) := BB.out.trans (B9.mono BB.out.size); clear B9 ta)
        | (have q3 := t3; go_at_call 25; refine (L2.out _).mono ?_; rintro e9 w4 ⟨rfl, B4⟩; have BB : Hid (Below w.heap.size w w4) := BB.out.trans (B4.mono BB.out.size); clear B4 t3; have ta : (0 : Nat) = 0 := rfl)
        | (have q2 := t2; go_at_call 25; refine (L1.out _).mono ?_; rintro e9 w3 ⟨rfl, B3⟩; have BB : Hid (Below w.heap.size w w3) := BB.out.trans (B3.mono BB.out.size); have A3 := HA.out.below B3 (by omega); have D3 := HD.out.below B3 s2; clear c0 c1 c2 c3 c4 c5 d0 d1 d2 d3 d4 d5; have c0 := A3.cell 0 _ rfl; have c1 := A3.cell 1 _ rfl; have c2 := A3.cell 2 _ rfl; have c3 := A3.cell 3 _ rfl; have c4 := A3.cell 4 _ rfl; have c5 := A3.cell 5 _ rfl; have d0 := D3.cell 0 _ rfl; have d1 := D3.cell 1 _ rfl; have d2 := D3.cell 2 _ rfl; have d3 := D3.cell 3 _ rfl; have d4 := D3.cell 4 _ rfl; have d5 := D3.cell 5 _ rfl; clear A3 D3 B3 t2; have t3 : (0 : Nat) = 0 := rfl)
        | (have q1 := t1; refine box_lawC _ (hv k' n' c' l' e' t') rfl ?_; intro w2 V2 B2 s2; have HA : Hid (Vr w2 w.heap.size (hv k n c l e t)) := HA.out.below B2 s1; have HD : Hid (Vr w2 w1.heap.size (hv k' n' c' l' e' t')) := V2; have c0 := HA.out.cell 0 _ rfl; have c1 := HA.out.cell 1 _ rfl; have c2 := HA.out.cell 2 _ rfl; have c3 := HA.out.cell 3 _ rfl; have c4 := HA.out.cell 4 _ rfl; have c5 := HA.out.cell 5 _ rfl; have d0 := HD.out.cell 0 _ rfl; have d1 := HD.out.cell 1 _ rfl; have d2 := HD.out.cell 2 _ rfl; have d3 := HD.out.cell 3 _ rfl; have d4 := HD.out.cell 4 _ rfl; have d5 := HD.out.cell 5 _ rfl; have BB : Hid (Below w.heap.size w w2) := BB.out.trans (B2.mono BB.out.size); clear V2 B2 t1; have t2 : (0 : Nat) = 0 := rfl)
        | (have q0 := t0; refine box_lawC _ (hv k n c l e t) rfl ?_; intro w1 V1 B1 s1; have HA : Hid (Vr w1 w.heap.size (hv k n c l e t)) := V1; have BB : Hid (Below w.heap.size w w1) := B1; clear V1 B1 t0; have t1 : (0 : Nat) = 0 := rfl))
      go_ret
      exact ⟨rfl, BB.out⟩
    · have h3 : e = e' := by omega
      subst h3
      by_cases h4 : t < t'
      · have h5 : ¬ t = t' := by omega
        have e1 : (t == t') = false := beq_eq_false_iff_ne.2 h5
        have L1 : Hid (∀ w, Calls Tryd.prog 25 #[.agg (hv k n c l e t).toArray, .agg (hv k' n' c' l' e t').toArray] w fun x w' => x = .returned (.bool true) ∧ Below w.heap.size w w') := fun w => less_any _ _ _ _ _ _ _ _ _ _ _ _ w _ (by simp <;> omega)
        have L2 : Hid (∀ w, Calls Tryd.prog 25 #[.agg (hv k' n' c' l' e t').toArray, .agg (hv k n c l e t).toArray] w fun x w' => x = .returned (.bool false) ∧ Below w.heap.size w w') := fun w => less_any _ _ _ _ _ _ _ _ _ _ _ _ w _ (by simp <;> omega)
        go_enter Tryd.func8, Tryd.ntmps8
        have t0 : (0 : Nat) = 0 := rfl
        go_wp2_with (first
          | (have qa := ta; go_at_call 11; refine (awake_any _ (hT.below BB.out)).mono ?_; rintro e9 w9 ⟨rfl, B9⟩; have BB : Hid (Below w.heap.size w w9) := BB.out.trans (B9.mono BB.out.size); clear B9 ta)
          | (have q3 := t3; go_at_call 25; refine (L2.out _).mono ?_; rintro e9 w4 ⟨rfl, B4⟩; have BB : Hid (Below w.heap.size w w4) := BB.out.trans (B4.mono BB.out.size); clear B4 t3; have ta : (0 : Nat) = 0 := rfl)
          | (have q2 := t2; go_at_call 25; refine (L1.out _).mono ?_; rintro e9 w3 ⟨rfl, B3⟩; have BB : Hid (Below w.heap.size w w3) := BB.out.trans (B3.mono BB.out.size); have A3 := HA.out.below B3 (by omega); have D3 := HD.out.below B3 s2; clear c0 c1 c2 c3 c4 c5 d0 d1 d2 d3 d4 d5; have c0 := A3.cell 0 _ rfl; have c1 := A3.cell 1 _ rfl; have c2 := A3.cell 2 _ rfl; have c3 := A3.cell 3 _ rfl; have c4 := A3.cell 4 _ rfl; have c5 := A3.cell 5 _ rfl; have d0 := D3.cell 0 _ rfl; have d1 := D3.cell 1 _ rfl; have d2 := D3.cell 2 _ rfl; have d3 := D3.cell 3 _ rfl; have d4 := D3.cell 4 _ rfl; have d5 := D3.cell 5 _ rfl; clear A3 D3 B3 t2; have t3 : (0 : Nat) = 0 := rfl)
          | (have q1 := t1; refine box_lawC _ (hv k' n' c' l' e t') rfl ?_; intro w2 V2 B2 s2; have HA : Hid (Vr w2 w.heap.size (hv k n c l e t)) := HA.out.below B2 s1; have HD : Hid (Vr w2 w1.heap.size (hv k' n' c' l' e t')) := V2; have c0 := HA.out.cell 0 _ rfl; have c1 := HA.out.cell 1 _ rfl; have c2 := HA.out.cell 2 _ rfl; have c3 := HA.out.cell 3 _ rfl; have c4 := HA.out.cell 4 _ rfl; have c5 := HA.out.cell 5 _ rfl; have d0 := HD.out.cell 0 _ rfl; have d1 := HD.out.cell 1 _ rfl; have d2 := HD.out.cell 2 _ rfl; have d3 := HD.out.cell 3 _ rfl; have d4 := HD.out.cell 4 _ rfl; have d5 := HD.out.cell 5 _ rfl; have BB : Hid (Below w.heap.size w w2) := BB.out.trans (B2.mono BB.out.size); clear V2 B2 t1; have t2 : (0 : Nat) = 0 := rfl)
          | (have q0 := t0; refine box_lawC _ (hv k n c l e t) rfl ?_; intro w1 V1 B1 s1; have HA : Hid (Vr w1 w.heap.size (hv k n c l e t)) := V1; have BB : Hid (Below w.heap.size w w1) := B1; clear V1 B1 t0; have t1 : (0 : Nat) = 0 := rfl))
        go_ret
        exact ⟨rfl, BB.out⟩
      · by_cases h5 : t = t'
        · subst h5
          have L1 : Hid (∀ w, Calls Tryd.prog 25 #[.agg (hv k n c l e t).toArray, .agg (hv k' n' c' l' e t).toArray] w fun x w' => x = .returned (.bool false) ∧ Below w.heap.size w w') := fun w => less_any _ _ _ _ _ _ _ _ _ _ _ _ w _ (by simp <;> omega)
          have L2 : Hid (∀ w, Calls Tryd.prog 25 #[.agg (hv k' n' c' l' e t).toArray, .agg (hv k n c l e t).toArray] w fun x w' => x = .returned (.bool false) ∧ Below w.heap.size w w') := fun w => less_any _ _ _ _ _ _ _ _ _ _ _ _ w _ (by simp <;> omega)
          go_enter Tryd.func8, Tryd.ntmps8
          have t0 : (0 : Nat) = 0 := rfl
          go_wp2_with (first
            | (have qa := ta; go_at_call 11; refine (awake_any _ (hT.below BB.out)).mono ?_; rintro e9 w9 ⟨rfl, B9⟩; have BB : Hid (Below w.heap.size w w9) := BB.out.trans (B9.mono BB.out.size); clear B9 ta)
            | (have q3 := t3; go_at_call 25; refine (L2.out _).mono ?_; rintro e9 w4 ⟨rfl, B4⟩; have BB : Hid (Below w.heap.size w w4) := BB.out.trans (B4.mono BB.out.size); clear B4 t3; have ta : (0 : Nat) = 0 := rfl)
            | (have q2 := t2; go_at_call 25; refine (L1.out _).mono ?_; rintro e9 w3 ⟨rfl, B3⟩; have BB : Hid (Below w.heap.size w w3) := BB.out.trans (B3.mono BB.out.size); have A3 := HA.out.below B3 (by omega); have D3 := HD.out.below B3 s2; clear c0 c1 c2 c3 c4 c5 d0 d1 d2 d3 d4 d5; have c0 := A3.cell 0 _ rfl; have c1 := A3.cell 1 _ rfl; have c2 := A3.cell 2 _ rfl; have c3 := A3.cell 3 _ rfl; have c4 := A3.cell 4 _ rfl; have c5 := A3.cell 5 _ rfl; have d0 := D3.cell 0 _ rfl; have d1 := D3.cell 1 _ rfl; have d2 := D3.cell 2 _ rfl; have d3 := D3.cell 3 _ rfl; have d4 := D3.cell 4 _ rfl; have d5 := D3.cell 5 _ rfl; clear A3 D3 B3 t2; have t3 : (0 : Nat) = 0 := rfl)
            | (have q1 := t1; refine box_lawC _ (hv k' n' c' l' e t) rfl ?_; intro w2 V2 B2 s2; have HA : Hid (Vr w2 w.heap.size (hv k n c l e t)) := HA.out.below B2 s1; have HD : Hid (Vr w2 w1.heap.size (hv k' n' c' l' e t)) := V2; have c0 := HA.out.cell 0 _ rfl; have c1 := HA.out.cell 1 _ rfl; have c2 := HA.out.cell 2 _ rfl; have c3 := HA.out.cell 3 _ rfl; have c4 := HA.out.cell 4 _ rfl; have c5 := HA.out.cell 5 _ rfl; have d0 := HD.out.cell 0 _ rfl; have d1 := HD.out.cell 1 _ rfl; have d2 := HD.out.cell 2 _ rfl; have d3 := HD.out.cell 3 _ rfl; have d4 := HD.out.cell 4 _ rfl; have d5 := HD.out.cell 5 _ rfl; have BB : Hid (Below w.heap.size w w2) := BB.out.trans (B2.mono BB.out.size); clear V2 B2 t1; have t2 : (0 : Nat) = 0 := rfl)
            | (have q0 := t0; refine box_lawC _ (hv k n c l e t) rfl ?_; intro w1 V1 B1 s1; have HA : Hid (Vr w1 w.heap.size (hv k n c l e t)) := V1; have BB : Hid (Below w.heap.size w w1) := B1; clear V1 B1 t0; have t1 : (0 : Nat) = 0 := rfl))
          go_ret
          exact ⟨rfl, BB.out⟩
        · have e1 : (t == t') = false := beq_eq_false_iff_ne.2 h5
          have L1 : Hid (∀ w, Calls Tryd.prog 25 #[.agg (hv k n c l e t).toArray, .agg (hv k' n' c' l' e t').toArray] w fun x w' => x = .returned (.bool false) ∧ Below w.heap.size w w') := fun w => less_any _ _ _ _ _ _ _ _ _ _ _ _ w _ (by simp <;> omega)
          have L2 : Hid (∀ w, Calls Tryd.prog 25 #[.agg (hv k' n' c' l' e t').toArray, .agg (hv k n c l e t).toArray] w fun x w' => x = .returned (.bool true) ∧ Below w.heap.size w w') := fun w => less_any _ _ _ _ _ _ _ _ _ _ _ _ w _ (by simp <;> omega)
          go_enter Tryd.func8, Tryd.ntmps8
          have t0 : (0 : Nat) = 0 := rfl
          go_wp2_with (first
            | (have qa := ta; go_at_call 11; refine (awake_any _ (hT.below BB.out)).mono ?_; rintro e9 w9 ⟨rfl, B9⟩; have BB : Hid (Below w.heap.size w w9) := BB.out.trans (B9.mono BB.out.size); clear B9 ta)
            | (have q3 := t3; go_at_call 25; refine (L2.out _).mono ?_; rintro e9 w4 ⟨rfl, B4⟩; have BB : Hid (Below w.heap.size w w4) := BB.out.trans (B4.mono BB.out.size); clear B4 t3; have ta : (0 : Nat) = 0 := rfl)
            | (have q2 := t2; go_at_call 25; refine (L1.out _).mono ?_; rintro e9 w3 ⟨rfl, B3⟩; have BB : Hid (Below w.heap.size w w3) := BB.out.trans (B3.mono BB.out.size); have A3 := HA.out.below B3 (by omega); have D3 := HD.out.below B3 s2; clear c0 c1 c2 c3 c4 c5 d0 d1 d2 d3 d4 d5; have c0 := A3.cell 0 _ rfl; have c1 := A3.cell 1 _ rfl; have c2 := A3.cell 2 _ rfl; have c3 := A3.cell 3 _ rfl; have c4 := A3.cell 4 _ rfl; have c5 := A3.cell 5 _ rfl; have d0 := D3.cell 0 _ rfl; have d1 := D3.cell 1 _ rfl; have d2 := D3.cell 2 _ rfl; have d3 := D3.cell 3 _ rfl; have d4 := D3.cell 4 _ rfl; have d5 := D3.cell 5 _ rfl; clear A3 D3 B3 t2; have t3 : (0 : Nat) = 0 := rfl)
            | (have q1 := t1; refine box_lawC _ (hv k' n' c' l' e t') rfl ?_; intro w2 V2 B2 s2; have HA : Hid (Vr w2 w.heap.size (hv k n c l e t)) := HA.out.below B2 s1; have HD : Hid (Vr w2 w1.heap.size (hv k' n' c' l' e t')) := V2; have c0 := HA.out.cell 0 _ rfl; have c1 := HA.out.cell 1 _ rfl; have c2 := HA.out.cell 2 _ rfl; have c3 := HA.out.cell 3 _ rfl; have c4 := HA.out.cell 4 _ rfl; have c5 := HA.out.cell 5 _ rfl; have d0 := HD.out.cell 0 _ rfl; have d1 := HD.out.cell 1 _ rfl; have d2 := HD.out.cell 2 _ rfl; have d3 := HD.out.cell 3 _ rfl; have d4 := HD.out.cell 4 _ rfl; have d5 := HD.out.cell 5 _ rfl; have BB : Hid (Below w.heap.size w w2) := BB.out.trans (B2.mono BB.out.size); clear V2 B2 t1; have t2 : (0 : Nat) = 0 := rfl)
            | (have q0 := t0; refine box_lawC _ (hv k n c l e t) rfl ?_; intro w1 V1 B1 s1; have HA : Hid (Vr w1 w.heap.size (hv k n c l e t)) := V1; have BB : Hid (Below w.heap.size w w1) := B1; clear V1 B1 t0; have t1 : (0 : Nat) = 0 := rfl))
          go_ret
          exact ⟨rfl, BB.out⟩

theorem params : ∀ t ∈ Tryd.f8.params.toList, Tryd.prog.readableRec t = true ∧ t < Tryd.prog.types.size := by
  rw [Tryd.params8]
  intro t ht
  simp at ht
  subst ht
  exact ⟨by kernel_rfl, of_decide_eq_true (by kernel_rfl)⟩

theorem contract (H : Type) (enc : TypeId × Value → H) (W : World) (base : Nat) (args : Array Value) (ds gs : List (DataW H)) (before : List MemPlace)
    (hval : ∀ (j : Nat) t v, Tryd.f8.params[j]? = some t → args[j]? = some v → Value.okWide Tryd.prog W .any base t v)
    (hW : DataW.Whole enc Tryd.prog Tryd.f8.params.toList Rows.headLessSpec.vars false W args.toList ds gs before) (hL : laidMetH Tryd.prog Rows.headLessRow.laid W) :
    Calls Tryd.prog 8 args W fun e W' => ∃ v, e = .returned v ∧ Rows.headLessSpec.post enc Tryd.prog Tryd.f8 false true false false W args v W' := by
  have hW' := hW
  obtain ⟨p, q, hA0, hV, rfl, hfz, hnd⟩ := hW
  have hA : DataW.TrodAll enc Tryd.prog W 0 (fun _ => true) true Tryd.f8.params.toList args.toList ds p := hA0
  rw [Tryd.params8] at hA hval
  obtain ⟨v0, v1, d0, d1, p0, p1, rfl, rfl, rfl, h0, h1⟩ := trodAll_two hA
  obtain ⟨rfl, rfl⟩ := trodVars_none hV
  obtain ⟨hk0, hn0, hc0, hl0, he0, ht0, rfl, hf0⟩ := head_open (hval 0 25 v0 rfl rfl) h0
  obtain ⟨hk1, hn1, hc1, hl1, he1, ht1, rfl, hf1⟩ := head_open (hval 1 25 v1 rfl rfl) h1
  clear hA0
  refine (walk hk0 hn0 hc0 hl0 he0 ht0 hk1 hn1 hc1 hl1 he1 ht1 W hf0 hf1 (table hL)).mono fun e W' ⟨he, hg⟩ => ?_
  subst he
  exact ⟨_, rfl, post_law rfl (by kernel_rfl) params rfl rfl rfl hW' hg⟩

theorem laid_met (os : Os) : laidMet Tryd.prog Rows.headLessRow.laid (({ World.holding Tryd.prog os ⟨#[], #[], []⟩ with heap := (World.holding Tryd.prog os ⟨#[], #[], []⟩).heap.modify 0 fun | .cells _ t frozen => .cells #[.int .i64 1, .int .i64 1, .int .i64 1, .int .i64 1, .int .i64 4, .int .i64 8, .int .i64 8] t frozen | o => o } : World).forCall (fun _ _ => 0) ⟨#[], #[.agg #[.int .i64 0, .int .i64 0, .int .i64 0, .int .u32 0, .int .u64 0, .int .u64 0], .agg #[.int .i64 0, .int .i64 0, .int .i64 0, .int .u32 0, .int .u64 0, .int .u64 0]], []⟩).memory :=
  laidMet_of_run' 8 (by kernel_rfl) (by kernel_rfl)
theorem reads (os : Os) {H : Type} (enc : TypeId × Value → H) : ∃ places, DataW.whole enc Tryd.prog (({ World.holding Tryd.prog os ⟨#[], #[], []⟩ with heap := (World.holding Tryd.prog os ⟨#[], #[], []⟩).heap.modify 0 fun | .cells _ t frozen => .cells #[.int .i64 1, .int .i64 1, .int .i64 1, .int .i64 1, .int .i64 4, .int .i64 8, .int .i64 8] t frozen | o => o } : World).forCall (fun _ _ => 0) ⟨#[], #[.agg #[.int .i64 0, .int .i64 0, .int .i64 0, .int .u32 0, .int .u64 0, .int .u64 0], .agg #[.int .i64 0, .int .i64 0, .int .i64 0, .int .u32 0, .int .u64 0, .int .u64 0]], []⟩).memory Tryd.f8.params.toList Rows.headLessSpec.vars false #[Value.agg #[.int .i64 0, .int .i64 0, .int .i64 0, .int .u32 0, .int .u64 0, .int .u64 0], Value.agg #[.int .i64 0, .int .i64 0, .int .i64 0, .int .u32 0, .int .u64 0, .int .u64 0]].toList 8 = some ([.agg [.lit (.int .i64 0), .lit (.int .i64 0), .lit (.int .i64 0), .lit (.int .u32 0), .lit (.int .u64 0), .lit (.int .u64 0)], .agg [.lit (.int .i64 0), .lit (.int .i64 0), .lit (.int .i64 0), .lit (.int .u32 0), .lit (.int .u64 0), .lit (.int .u64 0)]], [], places) :=
  ⟨[], by kernel_rfl⟩

set_option maxRecDepth 100000 in
theorem lifted (os : Os) (started : os.Started) (H : Type) (enc : TypeId × Value → H) (F : Stop.Interp) :
    ReturnsInHanded {} Tryd.checked os 8 .any ((OpenSpec.ofChange Rows.headLessSpec).preRow enc Tryd.prog Tryd.f8 Rows.headLessRow.domain false Rows.headLessRow.laid) (((OpenSpec.ofChange Rows.headLessSpec).at F).post enc Tryd.prog Tryd.f8 false true false false) := by
  obtain ⟨places, hx⟩ := reads os enc
  refine returnsInHanded_of_row (C := Tryd.checked) (s := OpenSpec.ofChange Rows.headLessSpec) own started (by kernel_rfl) Tryd.func8
    (witness_row_at (enc := enc) (C := Tryd.checked) false ({ World.holding Tryd.prog os ⟨#[], #[], []⟩ with heap := (World.holding Tryd.prog os ⟨#[], #[], []⟩).heap.modify 0 fun | .cells _ t frozen => .cells #[.int .i64 1, .int .i64 1, .int .i64 1, .int .i64 1, .int .i64 4, .int .i64 8, .int .i64 8] t frozen | o => o } : World) #[.agg #[.int .i64 0, .int .i64 0, .int .i64 0, .int .u32 0, .int .u64 0, .int .u64 0], .agg #[.int .i64 0, .int .i64 0, .int .i64 0, .int .u32 0, .int .u64 0, .int .u64 0]] rfl (by kernel_rfl) (by kernel_rfl) (by kernel_rfl)
      (OpenSpec.preRow_of_cond 8 hx (by kernel_rfl) (fun k hk => by cases hk) (by kernel_rfl) (laid_met os))) ?_
  intro W base args ds gs before hval hW _ _ _ hL _ _
  exact contract H enc W base args ds gs before hval hW hL

theorem said : Rows.HeadLessSaid :=
  OpenClaim.holds_of_cond 8 Tryd.f8 rfl rfl rfl rfl rfl rfl rfl ⟨rfl, rfl, rfl, rfl, rfl⟩ rfl rfl rfl rfl rfl (by kernel_rfl) Tryd.func8 (by kernel_rfl)
    (of_decide_eq_true (by kernel_rfl)) (by unfold Func.isWrapper; first | (rw [if_pos (by decide +kernel)]; kernel_rfl) | (rw [if_neg (by decide +kernel)]; exact ⟨rfl, rfl⟩))
    (fun os started H enc _ F => by rw [OpenClaim.pre_eq_preRow]; exact lifted os started H enc F)

theorem plain (f : FuncId) (fn : Func) (hf : Tryd.pinned.checked.prog.funcNamed "nepenthe/nepenthelaw14.HeadLess" = some f) (hfn : Tryd.pinned.checked.prog.funcs[f]? = some fn) :
    false = Tryd.pinned.checked.prog.looks [] ∧ ∀ (j : Nat) t, fn.params[j]? = some t → Tryd.pinned.checked.prog.wantsStandIn t = false := by
  obtain rfl : f = 8 := Option.some.inj ((show Tryd.prog.funcNamed "nepenthe/nepenthelaw14.HeadLess" = some 8 by kernel_rfl).symm.trans hf) |>.symm
  obtain rfl : fn = Tryd.f8 := (Option.some.inj (Tryd.func8.symm.trans hfn)).symm
  refine ⟨by kernel_rfl, fun j t ht => ?_⟩
  rw [Tryd.params8] at ht
  have hm := Array.mem_of_getElem? ht
  simp at hm
  subst hm
  exact (show Tryd.prog.wantsStandIn 25 = false by kernel_rfl)
end Go.Proofs.YtjlnalfbaojedaaDoor.headLess

namespace Go.Proofs.YtjlnalfbaojedaaDoor
theorem headLess_card : Rows.HeadLessCardSaid :=
  Claim7.holds_tied_plain_at .later [] _ _ _ _ headLess.said (fun _ h => by cases h) (by kernel_rfl) (fun _ h => by cases h) headLess_row_tie rfl ⟨rfl, rfl⟩ (by kernel_rfl) rfl headLess.plain (by kernel_rfl)
#print axioms headLess_card
end Go.Proofs.YtjlnalfbaojedaaDoor

