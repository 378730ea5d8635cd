/- What the reference's Right and head's Less answer. No claim of its own. -/
import Derived.Test.YtjlnalfbaojedaaDoorHSml
namespace Go.Proofs.YtjlnalfbaojedaaDoor.he
open Go.RowKit Go.Proofs.YtjlnalfbaojedaaDoor.fa
set_option maxRecDepth 20000

set_option maxHeartbeats 4000000 in
theorem right_any (k n c l e t : Int) (w : World) (b : Bool) (hb : b = decide (1 ≤ k ∧ k ≤ 4 ∧ 0 ≤ n ∧ n ≤ 255 ∧ 0 ≤ c ∧ c ≤ 255)) :
    Calls Tryd.prog 10 #[.agg (hv k n c l e t).toArray] w fun x w' => x = .returned (.bool b) ∧ Below w.heap.size w w' := by
  have HB : Hid (b = decide (1 ≤ k ∧ k ≤ 4 ∧ 0 ≤ n ∧ n ≤ 255 ∧ 0 ≤ c ∧ c ≤ 255)) := hb
  clear hb
  by_cases a0 : k ≥ 1
  · by_cases a1 : k ≤ 4
    · by_cases a2 : n ≥ 0
      · by_cases a3 : n ≤ 255
        · by_cases a4 : c ≥ 0
          · by_cases a5 : c ≤ 255
            · go_enter Tryd.func10, Tryd.ntmps10
              go_wp2_with (refine box_lawC _ (hv k n c l e t) rfl ?_; intro w1 V1 B1 s1; have c0 := V1.cell 0 _ rfl; have c1 := V1.cell 1 _ rfl; have c2 := V1.cell 2 _ rfl; clear V1)
              go_ret
              exact ⟨ret_bool (by rw [HB.out]; simp; omega), B1⟩
            · go_enter Tryd.func10, Tryd.ntmps10
              go_wp2_with (refine box_lawC _ (hv k n c l e t) rfl ?_; intro w1 V1 B1 s1; have c0 := V1.cell 0 _ rfl; have c1 := V1.cell 1 _ rfl; have c2 := V1.cell 2 _ rfl; clear V1)
              go_ret
              exact ⟨ret_bool (by rw [HB.out]; simp; omega), B1⟩
          · go_enter Tryd.func10, Tryd.ntmps10
            go_wp2_with (refine box_lawC _ (hv k n c l e t) rfl ?_; intro w1 V1 B1 s1; have c0 := V1.cell 0 _ rfl; have c1 := V1.cell 1 _ rfl; have c2 := V1.cell 2 _ rfl; clear V1)
            go_ret
            exact ⟨ret_bool (by rw [HB.out]; simp; omega), B1⟩
        · go_enter Tryd.func10, Tryd.ntmps10
          go_wp2_with (refine box_lawC _ (hv k n c l e t) rfl ?_; intro w1 V1 B1 s1; have c0 := V1.cell 0 _ rfl; have c1 := V1.cell 1 _ rfl; have c2 := V1.cell 2 _ rfl; clear V1)
          go_ret
          exact ⟨ret_bool (by rw [HB.out]; simp; omega), B1⟩
      · go_enter Tryd.func10, Tryd.ntmps10
        go_wp2_with (refine box_lawC _ (hv k n c l e t) rfl ?_; intro w1 V1 B1 s1; have c0 := V1.cell 0 _ rfl; have c1 := V1.cell 1 _ rfl; have c2 := V1.cell 2 _ rfl; clear V1)
        go_ret
        exact ⟨ret_bool (by rw [HB.out]; simp; omega), B1⟩
    · go_enter Tryd.func10, Tryd.ntmps10
      go_wp2_with (refine box_lawC _ (hv k n c l e t) rfl ?_; intro w1 V1 B1 s1; have c0 := V1.cell 0 _ rfl; have c1 := V1.cell 1 _ rfl; have c2 := V1.cell 2 _ rfl; clear V1)
      go_ret
      exact ⟨ret_bool (by rw [HB.out]; simp; omega), B1⟩
  · go_enter Tryd.func10, Tryd.ntmps10
    go_wp2_with (refine box_lawC _ (hv k n c l e t) rfl ?_; intro w1 V1 B1 s1; have c0 := V1.cell 0 _ rfl; have c1 := V1.cell 1 _ rfl; have c2 := V1.cell 2 _ rfl; clear V1)
    go_ret
    exact ⟨ret_bool (by rw [HB.out]; simp; omega), B1⟩

set_option maxHeartbeats 4000000 in
theorem less_any (k n c l e t k' n' c' l' e' t' : Int) (w : World) (b : Bool) (hb : b = decide (e < e' ∨ e = e' ∧ t < t')) :
    Calls Tryd.prog 25 #[.agg (hv k n c l e t).toArray, .agg (hv k' n' c' l' e' t').toArray] w fun x w' => x = .returned (.bool b) ∧ Below w.heap.size w w' := by
  have HB : Hid (b = decide (e < e' ∨ e = e' ∧ t < t')) := hb
  clear hb
  by_cases a1 : e = e'
  · subst a1
    by_cases a2 : t < t'
    · go_enter Tryd.func25, Tryd.ntmps25
      have t0 : (0 : Nat) = 0 := rfl
      go_wp2_with (first
        | (have q1 := t1; refine box_lawC _ (hv k' n' c' l' e t') rfl ?_; intro w2 V2 B2 s2; have A2 := HA.out.below B2 s1; have c4 := A2.cell 4 _ rfl; have c5 := A2.cell 5 _ rfl; have d4 := V2.cell 4 _ rfl; have d5 := V2.cell 5 _ rfl; clear A2 V2 t1)
        | (have q0 := t0; refine box_lawC _ (hv k n c l e t) rfl ?_; intro w1 V1 B1 s1; have HA : Hid (Vr w1 w.heap.size (hv k n c l e t)) := V1; clear V1 t0; have t1 : (0 : Nat) = 0 := rfl))
      go_ret
      exact ⟨ret_bool (by rw [HB.out]; simp; omega), B1.trans (B2.mono (by omega))⟩
    · go_enter Tryd.func25, Tryd.ntmps25
      have t0 : (0 : Nat) = 0 := rfl
      go_wp2_with (first
        | (have q1 := t1; refine box_lawC _ (hv k' n' c' l' e t') rfl ?_; intro w2 V2 B2 s2; have A2 := HA.out.below B2 s1; have c4 := A2.cell 4 _ rfl; have c5 := A2.cell 5 _ rfl; have d4 := V2.cell 4 _ rfl; have d5 := V2.cell 5 _ rfl; clear A2 V2 t1)
        | (have q0 := t0; refine box_lawC _ (hv k n c l e t) rfl ?_; intro w1 V1 B1 s1; have HA : Hid (Vr w1 w.heap.size (hv k n c l e t)) := V1; clear V1 t0; have t1 : (0 : Nat) = 0 := rfl))
      go_ret
      exact ⟨ret_bool (by rw [HB.out]; simp; omega), B1.trans (B2.mono (by omega))⟩
  · by_cases a2 : e < e'
    · go_enter Tryd.func25, Tryd.ntmps25
      have t0 : (0 : Nat) = 0 := rfl
      go_wp2_with (first
        | (have q1 := t1; refine box_lawC _ (hv k' n' c' l' e' t') rfl ?_; intro w2 V2 B2 s2; have A2 := HA.out.below B2 s1; have c4 := A2.cell 4 _ rfl; have c5 := A2.cell 5 _ rfl; have d4 := V2.cell 4 _ rfl; have d5 := V2.cell 5 _ rfl; clear A2 V2 t1)
        | (have q0 := t0; refine box_lawC _ (hv k n c l e t) rfl ?_; intro w1 V1 B1 s1; have HA : Hid (Vr w1 w.heap.size (hv k n c l e t)) := V1; clear V1 t0; have t1 : (0 : Nat) = 0 := rfl))
      go_ret
      exact ⟨ret_bool (by rw [HB.out]; simp; omega), B1.trans (B2.mono (by omega))⟩
    · go_enter Tryd.func25, Tryd.ntmps25
      have t0 : (0 : Nat) = 0 := rfl
      go_wp2_with (first
        | (have q1 := t1; refine box_lawC _ (hv k' n' c' l' e' t') rfl ?_; intro w2 V2 B2 s2; have A2 := HA.out.below B2 s1; have c4 := A2.cell 4 _ rfl; have c5 := A2.cell 5 _ rfl; have d4 := V2.cell 4 _ rfl; have d5 := V2.cell 5 _ rfl; clear A2 V2 t1)
        | (have q0 := t0; refine box_lawC _ (hv k n c l e t) rfl ?_; intro w1 V1 B1 s1; have HA : Hid (Vr w1 w.heap.size (hv k n c l e t)) := V1; clear V1 t0; have t1 : (0 : Nat) = 0 := rfl))
      go_ret
      exact ⟨ret_bool (by rw [HB.out]; simp; omega), B1.trans (B2.mono (by omega))⟩
end Go.Proofs.YtjlnalfbaojedaaDoor.he
