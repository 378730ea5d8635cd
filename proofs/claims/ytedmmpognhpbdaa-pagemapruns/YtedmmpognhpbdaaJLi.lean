/- The law's light: may a change be played? No claim of its own. -/
import Derived.Test.YtedmmpognhpbdaaJLt
namespace Go.Proofs.Ytedmmpognhpbdaa.pm
open Go.RowKit Go.Proofs.Ytedmmpognhpbdaa.he
set_option maxRecDepth 20000

theorem li00 (x : Stp) (w : World) (hz : x.z ≤ 40) (h1 : ¬ x.s.p.1 > -1000) : Calls Try.prog 9 #[.agg x.cs.toArray] w fun e w' => e = .returned (.bool false) ∧ Below w.heap.size w w' := by
  have d0 : decide (x.z ≤ 40) = true := decide_eq_true hz
  have e1 : decide (x.s.p.1 > -1000) = false := decide_eq_false h1
  clear hz h1
  have t0 : (0 : Nat) = 0 := rfl
  go_enter Try.func9, Try.ntmps9
  go_wp2_with (have qq := t0; refine box_lawC _ x.cs rfl ?_; intro w1 X9 B9 _; have VX : Hid (Vr w1 w.heap.size x.cs) := X9; have BB : Hid (Below w.heap.size w w1) := B9; have n2 := VX.out.cell 2 _ rfl; have n3 := VX.out.cell 3 _ rfl; have n4 := VX.out.cell 4 _ rfl; have n17 := VX.out.cell 17 _ rfl; have n18 := VX.out.cell 18 _ rfl; clear X9 B9 t0)
  go_ret
  exact ⟨rfl, BB.out⟩
theorem li01 (x : Stp) (w : World) (hz : x.z ≤ 40) (h1 : x.s.p.1 > -1000) (h2 : ¬ x.s.p.1 < 1000) : Calls Try.prog 9 #[.agg x.cs.toArray] w fun e w' => e = .returned (.bool false) ∧ Below w.heap.size w w' := by
  have d0 : decide (x.z ≤ 40) = true := decide_eq_true hz
  have e1 : decide (x.s.p.1 > -1000) = true := decide_eq_true h1
  have e2 : decide (x.s.p.1 < 1000) = false := decide_eq_false h2
  clear hz h1 h2
  have t0 : (0 : Nat) = 0 := rfl
  go_enter Try.func9, Try.ntmps9
  go_wp2_with (have qq := t0; refine box_lawC _ x.cs rfl ?_; intro w1 X9 B9 _; have VX : Hid (Vr w1 w.heap.size x.cs) := X9; have BB : Hid (Below w.heap.size w w1) := B9; have n2 := VX.out.cell 2 _ rfl; have n3 := VX.out.cell 3 _ rfl; have n4 := VX.out.cell 4 _ rfl; have n17 := VX.out.cell 17 _ rfl; have n18 := VX.out.cell 18 _ rfl; clear X9 B9 t0)
  go_ret
  exact ⟨rfl, BB.out⟩
theorem li02 (x : Stp) (w : World) (hz : x.z ≤ 40) (h1 : x.s.p.1 > -1000) (h2 : x.s.p.1 < 1000) (h3 : ¬ x.s.p.2 > -1000) : Calls Try.prog 9 #[.agg x.cs.toArray] w fun e w' => e = .returned (.bool false) ∧ Below w.heap.size w w' := by
  have d0 : decide (x.z ≤ 40) = true := decide_eq_true hz
  have e1 : decide (x.s.p.1 > -1000) = true := decide_eq_true h1
  have e2 : decide (x.s.p.1 < 1000) = true := decide_eq_true h2
  have e3 : decide (x.s.p.2 > -1000) = false := decide_eq_false h3
  clear hz h1 h2 h3
  have t0 : (0 : Nat) = 0 := rfl
  go_enter Try.func9, Try.ntmps9
  go_wp2_with (have qq := t0; refine box_lawC _ x.cs rfl ?_; intro w1 X9 B9 _; have VX : Hid (Vr w1 w.heap.size x.cs) := X9; have BB : Hid (Below w.heap.size w w1) := B9; have n2 := VX.out.cell 2 _ rfl; have n3 := VX.out.cell 3 _ rfl; have n4 := VX.out.cell 4 _ rfl; have n17 := VX.out.cell 17 _ rfl; have n18 := VX.out.cell 18 _ rfl; clear X9 B9 t0)
  go_ret
  exact ⟨rfl, BB.out⟩
theorem li03 (x : Stp) (w : World) (hz : x.z ≤ 40) (h1 : x.s.p.1 > -1000) (h2 : x.s.p.1 < 1000) (h3 : x.s.p.2 > -1000) (h4 : ¬ x.s.p.2 < 1000) : Calls Try.prog 9 #[.agg x.cs.toArray] w fun e w' => e = .returned (.bool false) ∧ Below w.heap.size w w' := by
  have d0 : decide (x.z ≤ 40) = true := decide_eq_true hz
  have e1 : decide (x.s.p.1 > -1000) = true := decide_eq_true h1
  have e2 : decide (x.s.p.1 < 1000) = true := decide_eq_true h2
  have e3 : decide (x.s.p.2 > -1000) = true := decide_eq_true h3
  have e4 : decide (x.s.p.2 < 1000) = false := decide_eq_false h4
  clear hz h1 h2 h3 h4
  have t0 : (0 : Nat) = 0 := rfl
  go_enter Try.func9, Try.ntmps9
  go_wp2_with (have qq := t0; refine box_lawC _ x.cs rfl ?_; intro w1 X9 B9 _; have VX : Hid (Vr w1 w.heap.size x.cs) := X9; have BB : Hid (Below w.heap.size w w1) := B9; have n2 := VX.out.cell 2 _ rfl; have n3 := VX.out.cell 3 _ rfl; have n4 := VX.out.cell 4 _ rfl; have n17 := VX.out.cell 17 _ rfl; have n18 := VX.out.cell 18 _ rfl; clear X9 B9 t0)
  go_ret
  exact ⟨rfl, BB.out⟩
theorem li04 (x : Stp) (w : World) (hz : x.z ≤ 40) (h1 : x.s.p.1 > -1000) (h2 : x.s.p.1 < 1000) (h3 : x.s.p.2 > -1000) (h4 : x.s.p.2 < 1000) (h5 : ¬ x.t.1 > -1000) : Calls Try.prog 9 #[.agg x.cs.toArray] w fun e w' => e = .returned (.bool false) ∧ Below w.heap.size w w' := by
  have d0 : decide (x.z ≤ 40) = true := decide_eq_true hz
  have e1 : decide (x.s.p.1 > -1000) = true := decide_eq_true h1
  have e2 : decide (x.s.p.1 < 1000) = true := decide_eq_true h2
  have e3 : decide (x.s.p.2 > -1000) = true := decide_eq_true h3
  have e4 : decide (x.s.p.2 < 1000) = true := decide_eq_true h4
  have e5 : decide (x.t.1 > -1000) = false := decide_eq_false h5
  clear hz h1 h2 h3 h4 h5
  have t0 : (0 : Nat) = 0 := rfl
  go_enter Try.func9, Try.ntmps9
  go_wp2_with (have qq := t0; refine box_lawC _ x.cs rfl ?_; intro w1 X9 B9 _; have VX : Hid (Vr w1 w.heap.size x.cs) := X9; have BB : Hid (Below w.heap.size w w1) := B9; have n2 := VX.out.cell 2 _ rfl; have n3 := VX.out.cell 3 _ rfl; have n4 := VX.out.cell 4 _ rfl; have n17 := VX.out.cell 17 _ rfl; have n18 := VX.out.cell 18 _ rfl; clear X9 B9 t0)
  go_ret
  exact ⟨rfl, BB.out⟩
theorem li05 (x : Stp) (w : World) (hz : x.z ≤ 40) (h1 : x.s.p.1 > -1000) (h2 : x.s.p.1 < 1000) (h3 : x.s.p.2 > -1000) (h4 : x.s.p.2 < 1000) (h5 : x.t.1 > -1000) (h6 : ¬ x.t.1 < 1000) : Calls Try.prog 9 #[.agg x.cs.toArray] w fun e w' => e = .returned (.bool false) ∧ Below w.heap.size w w' := by
  have d0 : decide (x.z ≤ 40) = true := decide_eq_true hz
  have e1 : decide (x.s.p.1 > -1000) = true := decide_eq_true h1
  have e2 : decide (x.s.p.1 < 1000) = true := decide_eq_true h2
  have e3 : decide (x.s.p.2 > -1000) = true := decide_eq_true h3
  have e4 : decide (x.s.p.2 < 1000) = true := decide_eq_true h4
  have e5 : decide (x.t.1 > -1000) = true := decide_eq_true h5
  have e6 : decide (x.t.1 < 1000) = false := decide_eq_false h6
  clear hz h1 h2 h3 h4 h5 h6
  have t0 : (0 : Nat) = 0 := rfl
  go_enter Try.func9, Try.ntmps9
  go_wp2_with (have qq := t0; refine box_lawC _ x.cs rfl ?_; intro w1 X9 B9 _; have VX : Hid (Vr w1 w.heap.size x.cs) := X9; have BB : Hid (Below w.heap.size w w1) := B9; have n2 := VX.out.cell 2 _ rfl; have n3 := VX.out.cell 3 _ rfl; have n4 := VX.out.cell 4 _ rfl; have n17 := VX.out.cell 17 _ rfl; have n18 := VX.out.cell 18 _ rfl; clear X9 B9 t0)
  go_ret
  exact ⟨rfl, BB.out⟩
theorem li06 (x : Stp) (w : World) (hz : x.z ≤ 40) (h1 : x.s.p.1 > -1000) (h2 : x.s.p.1 < 1000) (h3 : x.s.p.2 > -1000) (h4 : x.s.p.2 < 1000) (h5 : x.t.1 > -1000) (h6 : x.t.1 < 1000) (h7 : ¬ x.t.2 > -1000) : Calls Try.prog 9 #[.agg x.cs.toArray] w fun e w' => e = .returned (.bool false) ∧ Below w.heap.size w w' := by
  have d0 : decide (x.z ≤ 40) = true := decide_eq_true hz
  have e1 : decide (x.s.p.1 > -1000) = true := decide_eq_true h1
  have e2 : decide (x.s.p.1 < 1000) = true := decide_eq_true h2
  have e3 : decide (x.s.p.2 > -1000) = true := decide_eq_true h3
  have e4 : decide (x.s.p.2 < 1000) = true := decide_eq_true h4
  have e5 : decide (x.t.1 > -1000) = true := decide_eq_true h5
  have e6 : decide (x.t.1 < 1000) = true := decide_eq_true h6
  have e7 : decide (x.t.2 > -1000) = false := decide_eq_false h7
  clear hz h1 h2 h3 h4 h5 h6 h7
  have t0 : (0 : Nat) = 0 := rfl
  go_enter Try.func9, Try.ntmps9
  go_wp2_with (have qq := t0; refine box_lawC _ x.cs rfl ?_; intro w1 X9 B9 _; have VX : Hid (Vr w1 w.heap.size x.cs) := X9; have BB : Hid (Below w.heap.size w w1) := B9; have n2 := VX.out.cell 2 _ rfl; have n3 := VX.out.cell 3 _ rfl; have n4 := VX.out.cell 4 _ rfl; have n17 := VX.out.cell 17 _ rfl; have n18 := VX.out.cell 18 _ rfl; clear X9 B9 t0)
  go_ret
  exact ⟨rfl, BB.out⟩
theorem li07 (x : Stp) (w : World) (hz : x.z ≤ 40) (h1 : x.s.p.1 > -1000) (h2 : x.s.p.1 < 1000) (h3 : x.s.p.2 > -1000) (h4 : x.s.p.2 < 1000) (h5 : x.t.1 > -1000) (h6 : x.t.1 < 1000) (h7 : x.t.2 > -1000) (h8 : ¬ x.t.2 < 1000) : Calls Try.prog 9 #[.agg x.cs.toArray] w fun e w' => e = .returned (.bool false) ∧ Below w.heap.size w w' := by
  have d0 : decide (x.z ≤ 40) = true := decide_eq_true hz
  have e1 : decide (x.s.p.1 > -1000) = true := decide_eq_true h1
  have e2 : decide (x.s.p.1 < 1000) = true := decide_eq_true h2
  have e3 : decide (x.s.p.2 > -1000) = true := decide_eq_true h3
  have e4 : decide (x.s.p.2 < 1000) = true := decide_eq_true h4
  have e5 : decide (x.t.1 > -1000) = true := decide_eq_true h5
  have e6 : decide (x.t.1 < 1000) = true := decide_eq_true h6
  have e7 : decide (x.t.2 > -1000) = true := decide_eq_true h7
  have e8 : decide (x.t.2 < 1000) = false := decide_eq_false h8
  clear hz h1 h2 h3 h4 h5 h6 h7 h8
  have t0 : (0 : Nat) = 0 := rfl
  go_enter Try.func9, Try.ntmps9
  go_wp2_with (have qq := t0; refine box_lawC _ x.cs rfl ?_; intro w1 X9 B9 _; have VX : Hid (Vr w1 w.heap.size x.cs) := X9; have BB : Hid (Below w.heap.size w w1) := B9; have n2 := VX.out.cell 2 _ rfl; have n3 := VX.out.cell 3 _ rfl; have n4 := VX.out.cell 4 _ rfl; have n17 := VX.out.cell 17 _ rfl; have n18 := VX.out.cell 18 _ rfl; clear X9 B9 t0)
  go_ret
  exact ⟨rfl, BB.out⟩
theorem li08 (x : Stp) (w : World) (hz : x.z ≤ 40) (h1 : x.s.p.1 > -1000) (h2 : x.s.p.1 < 1000) (h3 : x.s.p.2 > -1000) (h4 : x.s.p.2 < 1000) (h5 : x.t.1 > -1000) (h6 : x.t.1 < 1000) (h7 : x.t.2 > -1000) (h8 : x.t.2 < 1000) : Calls Try.prog 9 #[.agg x.cs.toArray] w fun e w' => e = .returned (.bool true) ∧ Below w.heap.size w w' := by
  have d0 : decide (x.z ≤ 40) = true := decide_eq_true hz
  have e1 : decide (x.s.p.1 > -1000) = true := decide_eq_true h1
  have e2 : decide (x.s.p.1 < 1000) = true := decide_eq_true h2
  have e3 : decide (x.s.p.2 > -1000) = true := decide_eq_true h3
  have e4 : decide (x.s.p.2 < 1000) = true := decide_eq_true h4
  have e5 : decide (x.t.1 > -1000) = true := decide_eq_true h5
  have e6 : decide (x.t.1 < 1000) = true := decide_eq_true h6
  have e7 : decide (x.t.2 > -1000) = true := decide_eq_true h7
  have e8 : decide (x.t.2 < 1000) = true := decide_eq_true h8
  clear hz h1 h2 h3 h4 h5 h6 h7 h8
  have t0 : (0 : Nat) = 0 := rfl
  go_enter Try.func9, Try.ntmps9
  go_wp2_with (have qq := t0; refine box_lawC _ x.cs rfl ?_; intro w1 X9 B9 _; have VX : Hid (Vr w1 w.heap.size x.cs) := X9; have BB : Hid (Below w.heap.size w w1) := B9; have n2 := VX.out.cell 2 _ rfl; have n3 := VX.out.cell 3 _ rfl; have n4 := VX.out.cell 4 _ rfl; have n17 := VX.out.cell 17 _ rfl; have n18 := VX.out.cell 18 _ rfl; clear X9 B9 t0)
  go_ret
  exact ⟨rfl, BB.out⟩
theorem li10 (x : Stp) (w : World) (hz : ¬ x.z ≤ 40) (hz2 : x.z > 65535) (h1 : ¬ x.s.p.1 > -1000) : Calls Try.prog 9 #[.agg x.cs.toArray] w fun e w' => e = .returned (.bool false) ∧ Below w.heap.size w w' := by
  have d0 : decide (x.z ≤ 40) = false := decide_eq_false hz
  have d9 : decide (x.z > 65535) = true := decide_eq_true hz2
  have e1 : decide (x.s.p.1 > -1000) = false := decide_eq_false h1
  clear hz hz2 h1
  have t0 : (0 : Nat) = 0 := rfl
  go_enter Try.func9, Try.ntmps9
  go_wp2_with (have qq := t0; refine box_lawC _ x.cs rfl ?_; intro w1 X9 B9 _; have VX : Hid (Vr w1 w.heap.size x.cs) := X9; have BB : Hid (Below w.heap.size w w1) := B9; have n2 := VX.out.cell 2 _ rfl; have n3 := VX.out.cell 3 _ rfl; have n4 := VX.out.cell 4 _ rfl; have n17 := VX.out.cell 17 _ rfl; have n18 := VX.out.cell 18 _ rfl; clear X9 B9 t0)
  go_ret
  exact ⟨rfl, BB.out⟩
theorem li11 (x : Stp) (w : World) (hz : ¬ x.z ≤ 40) (hz2 : x.z > 65535) (h1 : x.s.p.1 > -1000) (h2 : ¬ x.s.p.1 < 1000) : Calls Try.prog 9 #[.agg x.cs.toArray] w fun e w' => e = .returned (.bool false) ∧ Below w.heap.size w w' := by
  have d0 : decide (x.z ≤ 40) = false := decide_eq_false hz
  have d9 : decide (x.z > 65535) = true := decide_eq_true hz2
  have e1 : decide (x.s.p.1 > -1000) = true := decide_eq_true h1
  have e2 : decide (x.s.p.1 < 1000) = false := decide_eq_false h2
  clear hz hz2 h1 h2
  have t0 : (0 : Nat) = 0 := rfl
  go_enter Try.func9, Try.ntmps9
  go_wp2_with (have qq := t0; refine box_lawC _ x.cs rfl ?_; intro w1 X9 B9 _; have VX : Hid (Vr w1 w.heap.size x.cs) := X9; have BB : Hid (Below w.heap.size w w1) := B9; have n2 := VX.out.cell 2 _ rfl; have n3 := VX.out.cell 3 _ rfl; have n4 := VX.out.cell 4 _ rfl; have n17 := VX.out.cell 17 _ rfl; have n18 := VX.out.cell 18 _ rfl; clear X9 B9 t0)
  go_ret
  exact ⟨rfl, BB.out⟩
theorem li12 (x : Stp) (w : World) (hz : ¬ x.z ≤ 40) (hz2 : x.z > 65535) (h1 : x.s.p.1 > -1000) (h2 : x.s.p.1 < 1000) (h3 : ¬ x.s.p.2 > -1000) : Calls Try.prog 9 #[.agg x.cs.toArray] w fun e w' => e = .returned (.bool false) ∧ Below w.heap.size w w' := by
  have d0 : decide (x.z ≤ 40) = false := decide_eq_false hz
  have d9 : decide (x.z > 65535) = true := decide_eq_true hz2
  have e1 : decide (x.s.p.1 > -1000) = true := decide_eq_true h1
  have e2 : decide (x.s.p.1 < 1000) = true := decide_eq_true h2
  have e3 : decide (x.s.p.2 > -1000) = false := decide_eq_false h3
  clear hz hz2 h1 h2 h3
  have t0 : (0 : Nat) = 0 := rfl
  go_enter Try.func9, Try.ntmps9
  go_wp2_with (have qq := t0; refine box_lawC _ x.cs rfl ?_; intro w1 X9 B9 _; have VX : Hid (Vr w1 w.heap.size x.cs) := X9; have BB : Hid (Below w.heap.size w w1) := B9; have n2 := VX.out.cell 2 _ rfl; have n3 := VX.out.cell 3 _ rfl; have n4 := VX.out.cell 4 _ rfl; have n17 := VX.out.cell 17 _ rfl; have n18 := VX.out.cell 18 _ rfl; clear X9 B9 t0)
  go_ret
  exact ⟨rfl, BB.out⟩
theorem li13 (x : Stp) (w : World) (hz : ¬ x.z ≤ 40) (hz2 : x.z > 65535) (h1 : x.s.p.1 > -1000) (h2 : x.s.p.1 < 1000) (h3 : x.s.p.2 > -1000) (h4 : ¬ x.s.p.2 < 1000) : Calls Try.prog 9 #[.agg x.cs.toArray] w fun e w' => e = .returned (.bool false) ∧ Below w.heap.size w w' := by
  have d0 : decide (x.z ≤ 40) = false := decide_eq_false hz
  have d9 : decide (x.z > 65535) = true := decide_eq_true hz2
  have e1 : decide (x.s.p.1 > -1000) = true := decide_eq_true h1
  have e2 : decide (x.s.p.1 < 1000) = true := decide_eq_true h2
  have e3 : decide (x.s.p.2 > -1000) = true := decide_eq_true h3
  have e4 : decide (x.s.p.2 < 1000) = false := decide_eq_false h4
  clear hz hz2 h1 h2 h3 h4
  have t0 : (0 : Nat) = 0 := rfl
  go_enter Try.func9, Try.ntmps9
  go_wp2_with (have qq := t0; refine box_lawC _ x.cs rfl ?_; intro w1 X9 B9 _; have VX : Hid (Vr w1 w.heap.size x.cs) := X9; have BB : Hid (Below w.heap.size w w1) := B9; have n2 := VX.out.cell 2 _ rfl; have n3 := VX.out.cell 3 _ rfl; have n4 := VX.out.cell 4 _ rfl; have n17 := VX.out.cell 17 _ rfl; have n18 := VX.out.cell 18 _ rfl; clear X9 B9 t0)
  go_ret
  exact ⟨rfl, BB.out⟩
theorem li14 (x : Stp) (w : World) (hz : ¬ x.z ≤ 40) (hz2 : x.z > 65535) (h1 : x.s.p.1 > -1000) (h2 : x.s.p.1 < 1000) (h3 : x.s.p.2 > -1000) (h4 : x.s.p.2 < 1000) (h5 : ¬ x.t.1 > -1000) : Calls Try.prog 9 #[.agg x.cs.toArray] w fun e w' => e = .returned (.bool false) ∧ Below w.heap.size w w' := by
  have d0 : decide (x.z ≤ 40) = false := decide_eq_false hz
  have d9 : decide (x.z > 65535) = true := decide_eq_true hz2
  have e1 : decide (x.s.p.1 > -1000) = true := decide_eq_true h1
  have e2 : decide (x.s.p.1 < 1000) = true := decide_eq_true h2
  have e3 : decide (x.s.p.2 > -1000) = true := decide_eq_true h3
  have e4 : decide (x.s.p.2 < 1000) = true := decide_eq_true h4
  have e5 : decide (x.t.1 > -1000) = false := decide_eq_false h5
  clear hz hz2 h1 h2 h3 h4 h5
  have t0 : (0 : Nat) = 0 := rfl
  go_enter Try.func9, Try.ntmps9
  go_wp2_with (have qq := t0; refine box_lawC _ x.cs rfl ?_; intro w1 X9 B9 _; have VX : Hid (Vr w1 w.heap.size x.cs) := X9; have BB : Hid (Below w.heap.size w w1) := B9; have n2 := VX.out.cell 2 _ rfl; have n3 := VX.out.cell 3 _ rfl; have n4 := VX.out.cell 4 _ rfl; have n17 := VX.out.cell 17 _ rfl; have n18 := VX.out.cell 18 _ rfl; clear X9 B9 t0)
  go_ret
  exact ⟨rfl, BB.out⟩
theorem li15 (x : Stp) (w : World) (hz : ¬ x.z ≤ 40) (hz2 : x.z > 65535) (h1 : x.s.p.1 > -1000) (h2 : x.s.p.1 < 1000) (h3 : x.s.p.2 > -1000) (h4 : x.s.p.2 < 1000) (h5 : x.t.1 > -1000) (h6 : ¬ x.t.1 < 1000) : Calls Try.prog 9 #[.agg x.cs.toArray] w fun e w' => e = .returned (.bool false) ∧ Below w.heap.size w w' := by
  have d0 : decide (x.z ≤ 40) = false := decide_eq_false hz
  have d9 : decide (x.z > 65535) = true := decide_eq_true hz2
  have e1 : decide (x.s.p.1 > -1000) = true := decide_eq_true h1
  have e2 : decide (x.s.p.1 < 1000) = true := decide_eq_true h2
  have e3 : decide (x.s.p.2 > -1000) = true := decide_eq_true h3
  have e4 : decide (x.s.p.2 < 1000) = true := decide_eq_true h4
  have e5 : decide (x.t.1 > -1000) = true := decide_eq_true h5
  have e6 : decide (x.t.1 < 1000) = false := decide_eq_false h6
  clear hz hz2 h1 h2 h3 h4 h5 h6
  have t0 : (0 : Nat) = 0 := rfl
  go_enter Try.func9, Try.ntmps9
  go_wp2_with (have qq := t0; refine box_lawC _ x.cs rfl ?_; intro w1 X9 B9 _; have VX : Hid (Vr w1 w.heap.size x.cs) := X9; have BB : Hid (Below w.heap.size w w1) := B9; have n2 := VX.out.cell 2 _ rfl; have n3 := VX.out.cell 3 _ rfl; have n4 := VX.out.cell 4 _ rfl; have n17 := VX.out.cell 17 _ rfl; have n18 := VX.out.cell 18 _ rfl; clear X9 B9 t0)
  go_ret
  exact ⟨rfl, BB.out⟩
theorem li16 (x : Stp) (w : World) (hz : ¬ x.z ≤ 40) (hz2 : x.z > 65535) (h1 : x.s.p.1 > -1000) (h2 : x.s.p.1 < 1000) (h3 : x.s.p.2 > -1000) (h4 : x.s.p.2 < 1000) (h5 : x.t.1 > -1000) (h6 : x.t.1 < 1000) (h7 : ¬ x.t.2 > -1000) : Calls Try.prog 9 #[.agg x.cs.toArray] w fun e w' => e = .returned (.bool false) ∧ Below w.heap.size w w' := by
  have d0 : decide (x.z ≤ 40) = false := decide_eq_false hz
  have d9 : decide (x.z > 65535) = true := decide_eq_true hz2
  have e1 : decide (x.s.p.1 > -1000) = true := decide_eq_true h1
  have e2 : decide (x.s.p.1 < 1000) = true := decide_eq_true h2
  have e3 : decide (x.s.p.2 > -1000) = true := decide_eq_true h3
  have e4 : decide (x.s.p.2 < 1000) = true := decide_eq_true h4
  have e5 : decide (x.t.1 > -1000) = true := decide_eq_true h5
  have e6 : decide (x.t.1 < 1000) = true := decide_eq_true h6
  have e7 : decide (x.t.2 > -1000) = false := decide_eq_false h7
  clear hz hz2 h1 h2 h3 h4 h5 h6 h7
  have t0 : (0 : Nat) = 0 := rfl
  go_enter Try.func9, Try.ntmps9
  go_wp2_with (have qq := t0; refine box_lawC _ x.cs rfl ?_; intro w1 X9 B9 _; have VX : Hid (Vr w1 w.heap.size x.cs) := X9; have BB : Hid (Below w.heap.size w w1) := B9; have n2 := VX.out.cell 2 _ rfl; have n3 := VX.out.cell 3 _ rfl; have n4 := VX.out.cell 4 _ rfl; have n17 := VX.out.cell 17 _ rfl; have n18 := VX.out.cell 18 _ rfl; clear X9 B9 t0)
  go_ret
  exact ⟨rfl, BB.out⟩
theorem li17 (x : Stp) (w : World) (hz : ¬ x.z ≤ 40) (hz2 : x.z > 65535) (h1 : x.s.p.1 > -1000) (h2 : x.s.p.1 < 1000) (h3 : x.s.p.2 > -1000) (h4 : x.s.p.2 < 1000) (h5 : x.t.1 > -1000) (h6 : x.t.1 < 1000) (h7 : x.t.2 > -1000) (h8 : ¬ x.t.2 < 1000) : Calls Try.prog 9 #[.agg x.cs.toArray] w fun e w' => e = .returned (.bool false) ∧ Below w.heap.size w w' := by
  have d0 : decide (x.z ≤ 40) = false := decide_eq_false hz
  have d9 : decide (x.z > 65535) = true := decide_eq_true hz2
  have e1 : decide (x.s.p.1 > -1000) = true := decide_eq_true h1
  have e2 : decide (x.s.p.1 < 1000) = true := decide_eq_true h2
  have e3 : decide (x.s.p.2 > -1000) = true := decide_eq_true h3
  have e4 : decide (x.s.p.2 < 1000) = true := decide_eq_true h4
  have e5 : decide (x.t.1 > -1000) = true := decide_eq_true h5
  have e6 : decide (x.t.1 < 1000) = true := decide_eq_true h6
  have e7 : decide (x.t.2 > -1000) = true := decide_eq_true h7
  have e8 : decide (x.t.2 < 1000) = false := decide_eq_false h8
  clear hz hz2 h1 h2 h3 h4 h5 h6 h7 h8
  have t0 : (0 : Nat) = 0 := rfl
  go_enter Try.func9, Try.ntmps9
  go_wp2_with (have qq := t0; refine box_lawC _ x.cs rfl ?_; intro w1 X9 B9 _; have VX : Hid (Vr w1 w.heap.size x.cs) := X9; have BB : Hid (Below w.heap.size w w1) := B9; have n2 := VX.out.cell 2 _ rfl; have n3 := VX.out.cell 3 _ rfl; have n4 := VX.out.cell 4 _ rfl; have n17 := VX.out.cell 17 _ rfl; have n18 := VX.out.cell 18 _ rfl; clear X9 B9 t0)
  go_ret
  exact ⟨rfl, BB.out⟩
theorem li18 (x : Stp) (w : World) (hz : ¬ x.z ≤ 40) (hz2 : x.z > 65535) (h1 : x.s.p.1 > -1000) (h2 : x.s.p.1 < 1000) (h3 : x.s.p.2 > -1000) (h4 : x.s.p.2 < 1000) (h5 : x.t.1 > -1000) (h6 : x.t.1 < 1000) (h7 : x.t.2 > -1000) (h8 : x.t.2 < 1000) : Calls Try.prog 9 #[.agg x.cs.toArray] w fun e w' => e = .returned (.bool true) ∧ Below w.heap.size w w' := by
  have d0 : decide (x.z ≤ 40) = false := decide_eq_false hz
  have d9 : decide (x.z > 65535) = true := decide_eq_true hz2
  have e1 : decide (x.s.p.1 > -1000) = true := decide_eq_true h1
  have e2 : decide (x.s.p.1 < 1000) = true := decide_eq_true h2
  have e3 : decide (x.s.p.2 > -1000) = true := decide_eq_true h3
  have e4 : decide (x.s.p.2 < 1000) = true := decide_eq_true h4
  have e5 : decide (x.t.1 > -1000) = true := decide_eq_true h5
  have e6 : decide (x.t.1 < 1000) = true := decide_eq_true h6
  have e7 : decide (x.t.2 > -1000) = true := decide_eq_true h7
  have e8 : decide (x.t.2 < 1000) = true := decide_eq_true h8
  clear hz hz2 h1 h2 h3 h4 h5 h6 h7 h8
  have t0 : (0 : Nat) = 0 := rfl
  go_enter Try.func9, Try.ntmps9
  go_wp2_with (have qq := t0; refine box_lawC _ x.cs rfl ?_; intro w1 X9 B9 _; have VX : Hid (Vr w1 w.heap.size x.cs) := X9; have BB : Hid (Below w.heap.size w w1) := B9; have n2 := VX.out.cell 2 _ rfl; have n3 := VX.out.cell 3 _ rfl; have n4 := VX.out.cell 4 _ rfl; have n17 := VX.out.cell 17 _ rfl; have n18 := VX.out.cell 18 _ rfl; clear X9 B9 t0)
  go_ret
  exact ⟨rfl, BB.out⟩
theorem li2 (x : Stp) (w : World) (hz : ¬ x.z ≤ 40) (hz2 : ¬ x.z > 65535) : Calls Try.prog 9 #[.agg x.cs.toArray] w fun e w' => e = .returned (.bool false) ∧ Below w.heap.size w w' := by
  have d0 : decide (x.z ≤ 40) = false := decide_eq_false hz
  have d9 : decide (x.z > 65535) = false := decide_eq_false hz2
  clear hz hz2
  have t0 : (0 : Nat) = 0 := rfl
  go_enter Try.func9, Try.ntmps9
  go_wp2_with (have qq := t0; refine box_lawC _ x.cs rfl ?_; intro w1 X9 B9 _; have VX : Hid (Vr w1 w.heap.size x.cs) := X9; have BB : Hid (Below w.heap.size w w1) := B9; have n2 := VX.out.cell 2 _ rfl; have n3 := VX.out.cell 3 _ rfl; have n4 := VX.out.cell 4 _ rfl; have n17 := VX.out.cell 17 _ rfl; have n18 := VX.out.cell 18 _ rfl; clear X9 B9 t0)
  go_ret
  exact ⟨rfl, BB.out⟩
def lgt (x : Stp) : Bool := (decide (x.z ≤ 40) || decide (x.z > 65535)) && decide (x.s.p.1 > -1000) && decide (x.s.p.1 < 1000) && decide (x.s.p.2 > -1000) && decide (x.s.p.2 < 1000) && decide (x.t.1 > -1000) && decide (x.t.1 < 1000) && decide (x.t.2 > -1000) && decide (x.t.2 < 1000)
theorem lgt_z {x : Stp} (h : lgt x = true) : x.z ≤ 40 ∨ 65535 < x.z := by
  unfold lgt at h
  simp only [Bool.and_eq_true, Bool.or_eq_true, decide_eq_true_eq] at h
  exact h.1.1.1.1.1.1.1.1
theorem light_any (x : Stp) (w : World) : Calls Try.prog 9 #[.agg x.cs.toArray] w fun e w' => e = .returned (.bool (lgt x)) ∧ Below w.heap.size w w' := by
  by_cases hz : x.z ≤ 40
  · by_cases h1 : x.s.p.1 > -1000
    case neg =>
      rw [show lgt x = false by unfold lgt; rw [decide_eq_false h1]; simp]
      exact li00 x w hz h1
    by_cases h2 : x.s.p.1 < 1000
    case neg =>
      rw [show lgt x = false by unfold lgt; rw [decide_eq_false h2]; simp]
      exact li01 x w hz h1 h2
    by_cases h3 : x.s.p.2 > -1000
    case neg =>
      rw [show lgt x = false by unfold lgt; rw [decide_eq_false h3]; simp]
      exact li02 x w hz h1 h2 h3
    by_cases h4 : x.s.p.2 < 1000
    case neg =>
      rw [show lgt x = false by unfold lgt; rw [decide_eq_false h4]; simp]
      exact li03 x w hz h1 h2 h3 h4
    by_cases h5 : x.t.1 > -1000
    case neg =>
      rw [show lgt x = false by unfold lgt; rw [decide_eq_false h5]; simp]
      exact li04 x w hz h1 h2 h3 h4 h5
    by_cases h6 : x.t.1 < 1000
    case neg =>
      rw [show lgt x = false by unfold lgt; rw [decide_eq_false h6]; simp]
      exact li05 x w hz h1 h2 h3 h4 h5 h6
    by_cases h7 : x.t.2 > -1000
    case neg =>
      rw [show lgt x = false by unfold lgt; rw [decide_eq_false h7]; simp]
      exact li06 x w hz h1 h2 h3 h4 h5 h6 h7
    by_cases h8 : x.t.2 < 1000
    case neg =>
      rw [show lgt x = false by unfold lgt; rw [decide_eq_false h8]; simp]
      exact li07 x w hz h1 h2 h3 h4 h5 h6 h7 h8
    rw [show lgt x = true by unfold lgt; rw [decide_eq_true hz, decide_eq_true h1, decide_eq_true h2, decide_eq_true h3, decide_eq_true h4, decide_eq_true h5, decide_eq_true h6, decide_eq_true h7, decide_eq_true h8]; simp]
    exact li08 x w hz h1 h2 h3 h4 h5 h6 h7 h8
  · by_cases hz2 : x.z > 65535
    case neg =>
      rw [show lgt x = false by unfold lgt; rw [decide_eq_false hz, decide_eq_false hz2]; simp]
      exact li2 x w hz hz2
    by_cases h1 : x.s.p.1 > -1000
    case neg =>
      rw [show lgt x = false by unfold lgt; rw [decide_eq_false h1]; simp]
      exact li10 x w hz hz2 h1
    by_cases h2 : x.s.p.1 < 1000
    case neg =>
      rw [show lgt x = false by unfold lgt; rw [decide_eq_false h2]; simp]
      exact li11 x w hz hz2 h1 h2
    by_cases h3 : x.s.p.2 > -1000
    case neg =>
      rw [show lgt x = false by unfold lgt; rw [decide_eq_false h3]; simp]
      exact li12 x w hz hz2 h1 h2 h3
    by_cases h4 : x.s.p.2 < 1000
    case neg =>
      rw [show lgt x = false by unfold lgt; rw [decide_eq_false h4]; simp]
      exact li13 x w hz hz2 h1 h2 h3 h4
    by_cases h5 : x.t.1 > -1000
    case neg =>
      rw [show lgt x = false by unfold lgt; rw [decide_eq_false h5]; simp]
      exact li14 x w hz hz2 h1 h2 h3 h4 h5
    by_cases h6 : x.t.1 < 1000
    case neg =>
      rw [show lgt x = false by unfold lgt; rw [decide_eq_false h6]; simp]
      exact li15 x w hz hz2 h1 h2 h3 h4 h5 h6
    by_cases h7 : x.t.2 > -1000
    case neg =>
      rw [show lgt x = false by unfold lgt; rw [decide_eq_false h7]; simp]
      exact li16 x w hz hz2 h1 h2 h3 h4 h5 h6 h7
    by_cases h8 : x.t.2 < 1000
    case neg =>
      rw [show lgt x = false by unfold lgt; rw [decide_eq_false h8]; simp]
      exact li17 x w hz hz2 h1 h2 h3 h4 h5 h6 h7 h8
    rw [show lgt x = true by unfold lgt; rw [decide_eq_true hz2, decide_eq_true h1, decide_eq_true h2, decide_eq_true h3, decide_eq_true h4, decide_eq_true h5, decide_eq_true h6, decide_eq_true h7, decide_eq_true h8]; simp]
    exact li18 x w hz hz2 h1 h2 h3 h4 h5 h6 h7 h8
end Go.Proofs.Ytedmmpognhpbdaa.pm
