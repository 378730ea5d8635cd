/- What the reference's Right and head's Less answer. No claim of its own. -/
import Derived.Test.YtpmakkjcpoillaaDoorHSml
namespace Go.Proofs.YtpmakkjcpoillaaDoor.he
open Go.RowKit Go.Proofs.YtpmakkjcpoillaaDoor.fa
set_option maxRecDepth 20000

set_option maxHeartbeats 4000000 in
theorem right_any (k n c l e t : Int) (w : World) (b : Bool) (hb : b = decide (1 ≤ k ∧ k ≤ 4 ∧ 0 ≤ n ∧ n ≤ 255 ∧ 0 ≤ c ∧ c ≤ 255)) :
    Calls Tryd.prog 31 #[.agg (hv k n c l e t).toArray] w fun x w' => x = .returned (.bool b) ∧ Below w.heap.size w w' := by
  have HB : Hid (b = decide (1 ≤ k ∧ k ≤ 4 ∧ 0 ≤ n ∧ n ≤ 255 ∧ 0 ≤ c ∧ c ≤ 255)) := hb
  clear hb
  by_cases a0 : k ≥ 1
  · by_cases a1 : k ≤ 4
    · by_cases a2 : n ≥ 0
      · by_cases a3 : n ≤ 255
        · by_cases a4 : c ≥ 0
          · by_cases a5 : c ≤ 255
            · go_enter Tryd.func31, Tryd.ntmps31
              go_wp2_with (refine box_lawC _ (hv k n c l e t) rfl ?_; intro w1 V1 B1 s1; have c0 := V1.cell 0 _ rfl; have c1 := V1.cell 1 _ rfl; have c2 := V1.cell 2 _ rfl; clear V1)
              go_ret
              exact ⟨ret_bool (by rw [HB.out]; simp; omega), B1⟩
            · go_enter Tryd.func31, Tryd.ntmps31
              go_wp2_with (refine box_lawC _ (hv k n c l e t) rfl ?_; intro w1 V1 B1 s1; have c0 := V1.cell 0 _ rfl; have c1 := V1.cell 1 _ rfl; have c2 := V1.cell 2 _ rfl; clear V1)
              go_ret
              exact ⟨ret_bool (by rw [HB.out]; simp; omega), B1⟩
          · go_enter Tryd.func31, Tryd.ntmps31
            go_wp2_with (refine box_lawC _ (hv k n c l e t) rfl ?_; intro w1 V1 B1 s1; have c0 := V1.cell 0 _ rfl; have c1 := V1.cell 1 _ rfl; have c2 := V1.cell 2 _ rfl; clear V1)
            go_ret
            exact ⟨ret_bool (by rw [HB.out]; simp; omega), B1⟩
        · go_enter Tryd.func31, Tryd.ntmps31
          go_wp2_with (refine box_lawC _ (hv k n c l e t) rfl ?_; intro w1 V1 B1 s1; have c0 := V1.cell 0 _ rfl; have c1 := V1.cell 1 _ rfl; have c2 := V1.cell 2 _ rfl; clear V1)
          go_ret
          exact ⟨ret_bool (by rw [HB.out]; simp; omega), B1⟩
      · go_enter Tryd.func31, Tryd.ntmps31
        go_wp2_with (refine box_lawC _ (hv k n c l e t) rfl ?_; intro w1 V1 B1 s1; have c0 := V1.cell 0 _ rfl; have c1 := V1.cell 1 _ rfl; have c2 := V1.cell 2 _ rfl; clear V1)
        go_ret
        exact ⟨ret_bool (by rw [HB.out]; simp; omega), B1⟩
    · go_enter Tryd.func31, Tryd.ntmps31
      go_wp2_with (refine box_lawC _ (hv k n c l e t) rfl ?_; intro w1 V1 B1 s1; have c0 := V1.cell 0 _ rfl; have c1 := V1.cell 1 _ rfl; have c2 := V1.cell 2 _ rfl; clear V1)
      go_ret
      exact ⟨ret_bool (by rw [HB.out]; simp; omega), B1⟩
  · go_enter Tryd.func31, Tryd.ntmps31
    go_wp2_with (refine box_lawC _ (hv k n c l e t) rfl ?_; intro w1 V1 B1 s1; have c0 := V1.cell 0 _ rfl; have c1 := V1.cell 1 _ rfl; have c2 := V1.cell 2 _ rfl; clear V1)
    go_ret
    exact ⟨ret_bool (by rw [HB.out]; simp; omega), B1⟩
end Go.Proofs.YtpmakkjcpoillaaDoor.he
