/- Texts put together (a claim holds few files). No claim of its own. -/
import Derived.Test.YtahfcpdekjdceaaDoorPackE
import Derived.Test.YtahfcpdekjdceaaDoorPackD
/- Whether a geometry is right, by the reference. No claim of its own. -/
namespace Go.Proofs.YtahfcpdekjdceaaDoor.ge
open Go.RowKit
set_option maxRecDepth 20000

set_option maxHeartbeats 2000000 in
theorem right_k0 (g : List Int) (hl : g.length = 6) (k0 : ¬ (7 ≤ gb g 0 ∧ gb g 0 ≤ 64)) (w : World) :
    Calls Tryd.prog 8 #[.agg (ints .i64 g)] w fun x w' => x = .returned (.bool false) ∧ Below w.heap.size w w' := by
  have I0 : Hid (∀ w, Calls Tryd.prog 24 #[.int .i64 (gb g 0), .int .i64 7, .int .i64 64] w fun x w' => x = .returned (.bool false) ∧ w' = w) := fun w => in_no _ _ _ w k0
  have t0 : (0 : Nat) = 0 := rfl
  clear k0
  go_enter Tryd.func8, Tryd.ntmps8
  go_wp2_with (first
    | (have q1 := t1; go_at_call 24; refine (I0.out _).mono ?_; rintro e wx ⟨rfl, hw⟩; obtain rfl := hw.symm; have t2 : (0 : Nat) = 0 := rfl; clear t1)
    | (have q0 := t0; refine box_lawF _ rfl (.tmp 0) 23 rfl .i64 g rfl ?_; intro w1 X1 B1 L1; have HX : Hid (Ar w1 w.heap.size 0 .i64 g) := X1; obtain ⟨f0, f1, f2, f3, f4, f5⟩ := geo_cells X1 hl; have t1 : (0 : Nat) = 0 := rfl; clear X1 t0))
  go_ret
  exact ⟨rfl, B1⟩

set_option maxHeartbeats 2000000 in
theorem right_k1 (g : List Int) (hl : g.length = 6) (k0 : 7 ≤ gb g 0 ∧ gb g 0 ≤ 64) (k1 : ¬ (4 ≤ gb g 1 ∧ gb g 1 ≤ 32)) (w : World) :
    Calls Tryd.prog 8 #[.agg (ints .i64 g)] w fun x w' => x = .returned (.bool false) ∧ Below w.heap.size w w' := by
  have I0 : Hid (∀ w, Calls Tryd.prog 24 #[.int .i64 (gb g 0), .int .i64 7, .int .i64 64] w fun x w' => x = .returned (.bool true) ∧ w' = w) := fun w => in_yes _ _ _ w k0
  have I1 : Hid (∀ w, Calls Tryd.prog 24 #[.int .i64 (gb g 1), .int .i64 4, .int .i64 32] w fun x w' => x = .returned (.bool false) ∧ w' = w) := fun w => in_no _ _ _ w k1
  have t0 : (0 : Nat) = 0 := rfl
  clear k0 k1
  go_enter Tryd.func8, Tryd.ntmps8
  go_wp2_with (first
    | (have q2 := t2; go_at_call 24; refine (I1.out _).mono ?_; rintro e wx ⟨rfl, hw⟩; obtain rfl := hw.symm; have t3 : (0 : Nat) = 0 := rfl; clear t2)
    | (have q1 := t1; go_at_call 24; refine (I0.out _).mono ?_; rintro e wx ⟨rfl, hw⟩; obtain rfl := hw.symm; have t2 : (0 : Nat) = 0 := rfl; clear t1)
    | (have q0 := t0; refine box_lawF _ rfl (.tmp 0) 23 rfl .i64 g rfl ?_; intro w1 X1 B1 L1; have HX : Hid (Ar w1 w.heap.size 0 .i64 g) := X1; obtain ⟨f0, f1, f2, f3, f4, f5⟩ := geo_cells X1 hl; have t1 : (0 : Nat) = 0 := rfl; clear X1 t0))
  go_ret
  exact ⟨rfl, B1⟩

set_option maxHeartbeats 2000000 in
theorem right_k2 (g : List Int) (hl : g.length = 6) (k0 : 7 ≤ gb g 0 ∧ gb g 0 ≤ 64) (k1 : 4 ≤ gb g 1 ∧ gb g 1 ≤ 32) (k2 : ¬ (32 ≤ gb g 2 ∧ gb g 2 ≤ 4096)) (w : World) :
    Calls Tryd.prog 8 #[.agg (ints .i64 g)] w fun x w' => x = .returned (.bool false) ∧ Below w.heap.size w w' := by
  have I0 : Hid (∀ w, Calls Tryd.prog 24 #[.int .i64 (gb g 0), .int .i64 7, .int .i64 64] w fun x w' => x = .returned (.bool true) ∧ w' = w) := fun w => in_yes _ _ _ w k0
  have I1 : Hid (∀ w, Calls Tryd.prog 24 #[.int .i64 (gb g 1), .int .i64 4, .int .i64 32] w fun x w' => x = .returned (.bool true) ∧ w' = w) := fun w => in_yes _ _ _ w k1
  have I2 : Hid (∀ w, Calls Tryd.prog 24 #[.int .i64 (gb g 2), .int .i64 32, .int .i64 4096] w fun x w' => x = .returned (.bool false) ∧ w' = w) := fun w => in_no _ _ _ w k2
  have t0 : (0 : Nat) = 0 := rfl
  clear k0 k1 k2
  go_enter Tryd.func8, Tryd.ntmps8
  go_wp2_with (first
    | (have q3 := t3; go_at_call 24; refine (I2.out _).mono ?_; rintro e wx ⟨rfl, hw⟩; obtain rfl := hw.symm; have t4 : (0 : Nat) = 0 := rfl; clear t3)
    | (have q2 := t2; go_at_call 24; refine (I1.out _).mono ?_; rintro e wx ⟨rfl, hw⟩; obtain rfl := hw.symm; have t3 : (0 : Nat) = 0 := rfl; clear t2)
    | (have q1 := t1; go_at_call 24; refine (I0.out _).mono ?_; rintro e wx ⟨rfl, hw⟩; obtain rfl := hw.symm; have t2 : (0 : Nat) = 0 := rfl; clear t1)
    | (have q0 := t0; refine box_lawF _ rfl (.tmp 0) 23 rfl .i64 g rfl ?_; intro w1 X1 B1 L1; have HX : Hid (Ar w1 w.heap.size 0 .i64 g) := X1; obtain ⟨f0, f1, f2, f3, f4, f5⟩ := geo_cells X1 hl; have t1 : (0 : Nat) = 0 := rfl; clear X1 t0))
  go_ret
  exact ⟨rfl, B1⟩

set_option maxHeartbeats 2000000 in
theorem right_k3 (g : List Int) (hl : g.length = 6) (k0 : 7 ≤ gb g 0 ∧ gb g 0 ≤ 64) (k1 : 4 ≤ gb g 1 ∧ gb g 1 ≤ 32) (k2 : 32 ≤ gb g 2 ∧ gb g 2 ≤ 4096) (k3 : ¬ (0 ≤ gb g 3 ∧ gb g 3 ≤ 8)) (w : World) :
    Calls Tryd.prog 8 #[.agg (ints .i64 g)] w fun x w' => x = .returned (.bool false) ∧ Below w.heap.size w w' := by
  have I0 : Hid (∀ w, Calls Tryd.prog 24 #[.int .i64 (gb g 0), .int .i64 7, .int .i64 64] w fun x w' => x = .returned (.bool true) ∧ w' = w) := fun w => in_yes _ _ _ w k0
  have I1 : Hid (∀ w, Calls Tryd.prog 24 #[.int .i64 (gb g 1), .int .i64 4, .int .i64 32] w fun x w' => x = .returned (.bool true) ∧ w' = w) := fun w => in_yes _ _ _ w k1
  have I2 : Hid (∀ w, Calls Tryd.prog 24 #[.int .i64 (gb g 2), .int .i64 32, .int .i64 4096] w fun x w' => x = .returned (.bool true) ∧ w' = w) := fun w => in_yes _ _ _ w k2
  have I3 : Hid (∀ w, Calls Tryd.prog 24 #[.int .i64 (gb g 3), .int .i64 0, .int .i64 8] w fun x w' => x = .returned (.bool false) ∧ w' = w) := fun w => in_no _ _ _ w k3
  have t0 : (0 : Nat) = 0 := rfl
  clear k0 k1 k2 k3
  go_enter Tryd.func8, Tryd.ntmps8
  go_wp2_with (first
    | (have q4 := t4; go_at_call 24; refine (I3.out _).mono ?_; rintro e wx ⟨rfl, hw⟩; obtain rfl := hw.symm; have t5 : (0 : Nat) = 0 := rfl; clear t4)
    | (have q3 := t3; go_at_call 24; refine (I2.out _).mono ?_; rintro e wx ⟨rfl, hw⟩; obtain rfl := hw.symm; have t4 : (0 : Nat) = 0 := rfl; clear t3)
    | (have q2 := t2; go_at_call 24; refine (I1.out _).mono ?_; rintro e wx ⟨rfl, hw⟩; obtain rfl := hw.symm; have t3 : (0 : Nat) = 0 := rfl; clear t2)
    | (have q1 := t1; go_at_call 24; refine (I0.out _).mono ?_; rintro e wx ⟨rfl, hw⟩; obtain rfl := hw.symm; have t2 : (0 : Nat) = 0 := rfl; clear t1)
    | (have q0 := t0; refine box_lawF _ rfl (.tmp 0) 23 rfl .i64 g rfl ?_; intro w1 X1 B1 L1; have HX : Hid (Ar w1 w.heap.size 0 .i64 g) := X1; obtain ⟨f0, f1, f2, f3, f4, f5⟩ := geo_cells X1 hl; have t1 : (0 : Nat) = 0 := rfl; clear X1 t0))
  go_ret
  exact ⟨rfl, B1⟩

set_option maxHeartbeats 2000000 in
theorem right_k4 (g : List Int) (hl : g.length = 6) (k0 : 7 ≤ gb g 0 ∧ gb g 0 ≤ 64) (k1 : 4 ≤ gb g 1 ∧ gb g 1 ≤ 32) (k2 : 32 ≤ gb g 2 ∧ gb g 2 ≤ 4096) (k3 : 0 ≤ gb g 3 ∧ gb g 3 ≤ 8) (k4 : ¬ (1 ≤ gb g 4 ∧ gb g 4 ≤ 1000)) (w : World) :
    Calls Tryd.prog 8 #[.agg (ints .i64 g)] w fun x w' => x = .returned (.bool false) ∧ Below w.heap.size w w' := by
  have I0 : Hid (∀ w, Calls Tryd.prog 24 #[.int .i64 (gb g 0), .int .i64 7, .int .i64 64] w fun x w' => x = .returned (.bool true) ∧ w' = w) := fun w => in_yes _ _ _ w k0
  have I1 : Hid (∀ w, Calls Tryd.prog 24 #[.int .i64 (gb g 1), .int .i64 4, .int .i64 32] w fun x w' => x = .returned (.bool true) ∧ w' = w) := fun w => in_yes _ _ _ w k1
  have I2 : Hid (∀ w, Calls Tryd.prog 24 #[.int .i64 (gb g 2), .int .i64 32, .int .i64 4096] w fun x w' => x = .returned (.bool true) ∧ w' = w) := fun w => in_yes _ _ _ w k2
  have I3 : Hid (∀ w, Calls Tryd.prog 24 #[.int .i64 (gb g 3), .int .i64 0, .int .i64 8] w fun x w' => x = .returned (.bool true) ∧ w' = w) := fun w => in_yes _ _ _ w k3
  have I4 : Hid (∀ w, Calls Tryd.prog 24 #[.int .i64 (gb g 4), .int .i64 1, .int .i64 1000] w fun x w' => x = .returned (.bool false) ∧ w' = w) := fun w => in_no _ _ _ w k4
  have t0 : (0 : Nat) = 0 := rfl
  clear k0 k1 k2 k3 k4
  go_enter Tryd.func8, Tryd.ntmps8
  go_wp2_with (first
    | (have q5 := t5; go_at_call 24; refine (I4.out _).mono ?_; rintro e wx ⟨rfl, hw⟩; obtain rfl := hw.symm; have t6 : (0 : Nat) = 0 := rfl; clear t5)
    | (have q4 := t4; go_at_call 24; refine (I3.out _).mono ?_; rintro e wx ⟨rfl, hw⟩; obtain rfl := hw.symm; have t5 : (0 : Nat) = 0 := rfl; clear t4)
    | (have q3 := t3; go_at_call 24; refine (I2.out _).mono ?_; rintro e wx ⟨rfl, hw⟩; obtain rfl := hw.symm; have t4 : (0 : Nat) = 0 := rfl; clear t3)
    | (have q2 := t2; go_at_call 24; refine (I1.out _).mono ?_; rintro e wx ⟨rfl, hw⟩; obtain rfl := hw.symm; have t3 : (0 : Nat) = 0 := rfl; clear t2)
    | (have q1 := t1; go_at_call 24; refine (I0.out _).mono ?_; rintro e wx ⟨rfl, hw⟩; obtain rfl := hw.symm; have t2 : (0 : Nat) = 0 := rfl; clear t1)
    | (have q0 := t0; refine box_lawF _ rfl (.tmp 0) 23 rfl .i64 g rfl ?_; intro w1 X1 B1 L1; have HX : Hid (Ar w1 w.heap.size 0 .i64 g) := X1; obtain ⟨f0, f1, f2, f3, f4, f5⟩ := geo_cells X1 hl; have t1 : (0 : Nat) = 0 := rfl; clear X1 t0))
  go_ret
  exact ⟨rfl, B1⟩

set_option maxHeartbeats 2000000 in
theorem right_k5 (g : List Int) (hl : g.length = 6) (k0 : 7 ≤ gb g 0 ∧ gb g 0 ≤ 64) (k1 : 4 ≤ gb g 1 ∧ gb g 1 ≤ 32) (k2 : 32 ≤ gb g 2 ∧ gb g 2 ≤ 4096) (k3 : 0 ≤ gb g 3 ∧ gb g 3 ≤ 8) (k4 : 1 ≤ gb g 4 ∧ gb g 4 ≤ 1000) (k5 : ¬ (1 ≤ gb g 5 ∧ gb g 5 ≤ 1000)) (w : World) :
    Calls Tryd.prog 8 #[.agg (ints .i64 g)] w fun x w' => x = .returned (.bool false) ∧ Below w.heap.size w w' := by
  have I0 : Hid (∀ w, Calls Tryd.prog 24 #[.int .i64 (gb g 0), .int .i64 7, .int .i64 64] w fun x w' => x = .returned (.bool true) ∧ w' = w) := fun w => in_yes _ _ _ w k0
  have I1 : Hid (∀ w, Calls Tryd.prog 24 #[.int .i64 (gb g 1), .int .i64 4, .int .i64 32] w fun x w' => x = .returned (.bool true) ∧ w' = w) := fun w => in_yes _ _ _ w k1
  have I2 : Hid (∀ w, Calls Tryd.prog 24 #[.int .i64 (gb g 2), .int .i64 32, .int .i64 4096] w fun x w' => x = .returned (.bool true) ∧ w' = w) := fun w => in_yes _ _ _ w k2
  have I3 : Hid (∀ w, Calls Tryd.prog 24 #[.int .i64 (gb g 3), .int .i64 0, .int .i64 8] w fun x w' => x = .returned (.bool true) ∧ w' = w) := fun w => in_yes _ _ _ w k3
  have I4 : Hid (∀ w, Calls Tryd.prog 24 #[.int .i64 (gb g 4), .int .i64 1, .int .i64 1000] w fun x w' => x = .returned (.bool true) ∧ w' = w) := fun w => in_yes _ _ _ w k4
  have I5 : Hid (∀ w, Calls Tryd.prog 24 #[.int .i64 (gb g 5), .int .i64 1, .int .i64 1000] w fun x w' => x = .returned (.bool false) ∧ w' = w) := fun w => in_no _ _ _ w k5
  have t0 : (0 : Nat) = 0 := rfl
  clear k0 k1 k2 k3 k4 k5
  go_enter Tryd.func8, Tryd.ntmps8
  go_wp2_with (first
    | (have q6 := t6; go_at_call 24; refine (I5.out _).mono ?_; rintro e wx ⟨rfl, hw⟩; obtain rfl := hw.symm; have t7 : (0 : Nat) = 0 := rfl; clear t6)
    | (have q5 := t5; go_at_call 24; refine (I4.out _).mono ?_; rintro e wx ⟨rfl, hw⟩; obtain rfl := hw.symm; have t6 : (0 : Nat) = 0 := rfl; clear t5)
    | (have q4 := t4; go_at_call 24; refine (I3.out _).mono ?_; rintro e wx ⟨rfl, hw⟩; obtain rfl := hw.symm; have t5 : (0 : Nat) = 0 := rfl; clear t4)
    | (have q3 := t3; go_at_call 24; refine (I2.out _).mono ?_; rintro e wx ⟨rfl, hw⟩; obtain rfl := hw.symm; have t4 : (0 : Nat) = 0 := rfl; clear t3)
    | (have q2 := t2; go_at_call 24; refine (I1.out _).mono ?_; rintro e wx ⟨rfl, hw⟩; obtain rfl := hw.symm; have t3 : (0 : Nat) = 0 := rfl; clear t2)
    | (have q1 := t1; go_at_call 24; refine (I0.out _).mono ?_; rintro e wx ⟨rfl, hw⟩; obtain rfl := hw.symm; have t2 : (0 : Nat) = 0 := rfl; clear t1)
    | (have q0 := t0; refine box_lawF _ rfl (.tmp 0) 23 rfl .i64 g rfl ?_; intro w1 X1 B1 L1; have HX : Hid (Ar w1 w.heap.size 0 .i64 g) := X1; obtain ⟨f0, f1, f2, f3, f4, f5⟩ := geo_cells X1 hl; have t1 : (0 : Nat) = 0 := rfl; clear X1 t0))
  go_ret
  exact ⟨rfl, B1⟩

set_option maxHeartbeats 2000000 in
theorem right_m (g : List Int) (hl : g.length = 6) (hk : Kept g) (h16 : gb g 2 % 16 ≠ 0) (w : World) :
    Calls Tryd.prog 8 #[.agg (ints .i64 g)] w fun x w' => x = .returned (.bool false) ∧ Below w.heap.size w w' := by
  obtain ⟨k0, k1, k2, k3, k4, k5⟩ := id hk
  have I0 : Hid (∀ w, Calls Tryd.prog 24 #[.int .i64 (gb g 0), .int .i64 7, .int .i64 64] w fun x w' => x = .returned (.bool true) ∧ w' = w) := fun w => in_yes _ _ _ w k0
  have I1 : Hid (∀ w, Calls Tryd.prog 24 #[.int .i64 (gb g 1), .int .i64 4, .int .i64 32] w fun x w' => x = .returned (.bool true) ∧ w' = w) := fun w => in_yes _ _ _ w k1
  have I2 : Hid (∀ w, Calls Tryd.prog 24 #[.int .i64 (gb g 2), .int .i64 32, .int .i64 4096] w fun x w' => x = .returned (.bool true) ∧ w' = w) := fun w => in_yes _ _ _ w k2
  have I3 : Hid (∀ w, Calls Tryd.prog 24 #[.int .i64 (gb g 3), .int .i64 0, .int .i64 8] w fun x w' => x = .returned (.bool true) ∧ w' = w) := fun w => in_yes _ _ _ w k3
  have I4 : Hid (∀ w, Calls Tryd.prog 24 #[.int .i64 (gb g 4), .int .i64 1, .int .i64 1000] w fun x w' => x = .returned (.bool true) ∧ w' = w) := fun w => in_yes _ _ _ w k4
  have I5 : Hid (∀ w, Calls Tryd.prog 24 #[.int .i64 (gb g 5), .int .i64 1, .int .i64 1000] w fun x w' => x = .returned (.bool true) ∧ w' = w) := fun w => in_yes _ _ _ w k5
  have SR' : Hid (∀ w, Calls Tryd.prog 25 #[.agg (ints .i64 g)] w fun x w' => x = .returned (.int .i64 (rec g)) ∧ Below w.heap.size w w') := rchunks_any g hl hk
  obtain ⟨m, hm⟩ : ∃ m, m = gb g 2 % 16 := ⟨_, rfl⟩
  have q1 : (gb g 2).tmod 16 = m := by rw [hm]; exact Int.tmod_eq_emod_of_nonneg (by omega)
  have m1 : IntKind.i64.wrap m = m := by rw [IntKind.wrap_i64]; omega
  have m0 : m ≠ 0 := by omega
  have q2 : IntKind.i64.wrap (gb g 3 + 3) = gb g 3 + 3 := by rw [IntKind.wrap_i64]; omega
  have q3 : IntKind.i64.wrap (gb g 0 - 4) = gb g 0 - 4 := by rw [IntKind.wrap_i64]; omega
  have t0 : (0 : Nat) = 0 := rfl
  clear k0 k1 k2 k3 k4 k5 hk h16 hm
  generalize rec g = z at *
  go_enter Tryd.func8, Tryd.ntmps8
  go_wp2_with (first
    | (have q6 := t6; go_at_call 24; refine (I5.out _).mono ?_; rintro e wx ⟨rfl, hw⟩; obtain rfl := hw.symm; have t7 : (0 : Nat) = 0 := rfl; clear t6)
    | (have q5 := t5; go_at_call 24; refine (I4.out _).mono ?_; rintro e wx ⟨rfl, hw⟩; obtain rfl := hw.symm; have t6 : (0 : Nat) = 0 := rfl; clear t5)
    | (have q4 := t4; go_at_call 24; refine (I3.out _).mono ?_; rintro e wx ⟨rfl, hw⟩; obtain rfl := hw.symm; have t5 : (0 : Nat) = 0 := rfl; clear t4)
    | (have q3 := t3; go_at_call 24; refine (I2.out _).mono ?_; rintro e wx ⟨rfl, hw⟩; obtain rfl := hw.symm; have t4 : (0 : Nat) = 0 := rfl; clear t3)
    | (have q2 := t2; go_at_call 24; refine (I1.out _).mono ?_; rintro e wx ⟨rfl, hw⟩; obtain rfl := hw.symm; have t3 : (0 : Nat) = 0 := rfl; clear t2)
    | (have q1 := t1; go_at_call 24; refine (I0.out _).mono ?_; rintro e wx ⟨rfl, hw⟩; obtain rfl := hw.symm; have t2 : (0 : Nat) = 0 := rfl; clear t1)
    | (have q0 := t0; refine box_lawF _ rfl (.tmp 0) 23 rfl .i64 g rfl ?_; intro w1 X1 B1 L1; have HX : Hid (Ar w1 w.heap.size 0 .i64 g) := X1; obtain ⟨f0, f1, f2, f3, f4, f5⟩ := geo_cells X1 hl; have t1 : (0 : Nat) = 0 := rfl; clear X1 t0))
  have SR : Hid (∀ w', Below w1.heap.size w1 w' → Calls Tryd.prog 25 #[.agg (ints .i64 g)] w' fun x w'' => x = .returned (.int .i64 z) ∧ Below w1.heap.size w1 w'') := call_class SR'.out w1
  have GC := Hid.mk' (geo_class HX.out hl)
  refine region_quietC (C := fun w' => Below w1.heap.size w1 w') (by kernel_rfl) (by kernel_rfl) (Below.refl _ _).drew ?_
  refine wpQuiet_step (fun K hK => ?_)
  refine q_val (by rfl) (some 37) rfl (.pointer (some ⟨w.heap.size, 2, none⟩)) (fun w' _ => by go_simp) (hK _ ?_)
  simp only [Act.put, List.setIfInBounds_toArray, List.set_cons_zero, List.set_cons_succ]
  clear hK K
  refine wpQuiet_step (fun K hK => ?_)
  refine q_get (by rfl) (some 38) rfl (.tmp 37) 3 rfl .i64 (gb g 2) w.heap.size (2) rfl Tryd.underlying3 (fun w' h => (GC.out w' h).2.2.1) (hK _ ?_)
  simp only [Act.put, List.setIfInBounds_toArray, List.set_cons_zero, List.set_cons_succ]
  clear hK K
  refine wpQuiet_step (fun K hK => ?_)
  refine q_val (by rfl) (some 39) rfl (.int .i64 m) (fun w' _ => by go_simp) (hK _ ?_)
  simp only [Act.put, List.setIfInBounds_toArray, List.set_cons_zero, List.set_cons_succ]
  clear hK K
  refine wpQuiet_step (fun K hK => ?_)
  refine q_val (by rfl) (some 40) rfl (.bool false) (fun w' _ => by go_simp) (hK _ ?_)
  simp only [Act.put, List.setIfInBounds_toArray, List.set_cons_zero, List.set_cons_succ]
  clear hK K
  refine wpQuiet_step (fun K hK => ?_)
  refine q_val (by rfl) (some 41) rfl (.bool false) (fun w' _ => by rfl) (hK _ ?_)
  simp only [Act.put, List.setIfInBounds_toArray, List.set_cons_zero, List.set_cons_succ]
  clear hK K
  refine wpQuiet_step (fun K hK => ?_)
  refine q_skip (by rfl) (some 42) rfl (hK _ ?_)
  simp only [Act.put, List.setIfInBounds_toArray, List.set_cons_zero, List.set_cons_succ]
  clear hK K
  refine wpQuiet_step (fun K hK => ?_)
  refine q_skip (by rfl) (some 43) rfl (hK _ ?_)
  simp only [Act.put, List.setIfInBounds_toArray, List.set_cons_zero, List.set_cons_succ]
  clear hK K
  refine wpQuiet_step (fun K hK => ?_)
  refine q_skip (by rfl) (some 44) rfl (hK _ ?_)
  simp only [Act.put, List.setIfInBounds_toArray, List.set_cons_zero, List.set_cons_succ]
  clear hK K
  refine wpQuiet_step (fun K hK => ?_)
  refine q_skip (by rfl) (some 45) rfl (hK _ ?_)
  simp only [Act.put, List.setIfInBounds_toArray, List.set_cons_zero, List.set_cons_succ]
  clear hK K
  refine wpQuiet_step (fun K hK => ?_)
  refine q_skip (by rfl) (some 46) rfl (hK _ ?_)
  simp only [Act.put, List.setIfInBounds_toArray, List.set_cons_zero, List.set_cons_succ]
  clear hK K
  refine wpQuiet_step (fun K hK => ?_)
  refine q_val (by rfl) (some 47) rfl (.bool false) (fun w' _ => by rfl) (hK _ ?_)
  simp only [Act.put, List.setIfInBounds_toArray, List.set_cons_zero, List.set_cons_succ]
  clear hK K
  refine wpQuiet_step (fun K hK => ?_)
  refine q_val (by rfl) (some 48) rfl (.bool false) (fun w' _ => by rfl) (hK _ ?_)
  simp only [Act.put, List.setIfInBounds_toArray, List.set_cons_zero, List.set_cons_succ]
  clear hK K
  refine wpQuiet_step (fun K hK => ?_)
  refine q_skip (by rfl) (some 49) rfl (hK _ ?_)
  simp only [Act.put, List.setIfInBounds_toArray, List.set_cons_zero, List.set_cons_succ]
  clear hK K
  refine wpQuiet_step (fun K hK => ?_)
  refine q_skip (by rfl) (some 50) rfl (hK _ ?_)
  simp only [Act.put, List.setIfInBounds_toArray, List.set_cons_zero, List.set_cons_succ]
  clear hK K
  refine wpQuiet_step (fun K hK => ?_)
  refine q_skip (by rfl) (some 51) rfl (hK _ ?_)
  simp only [Act.put, List.setIfInBounds_toArray, List.set_cons_zero, List.set_cons_succ]
  clear hK K
  refine wpQuiet_step (fun K hK => ?_)
  refine q_skip (by rfl) (some 52) rfl (hK _ ?_)
  simp only [Act.put, List.setIfInBounds_toArray, List.set_cons_zero, List.set_cons_succ]
  clear hK K
  refine wpQuiet_step (fun K hK => ?_)
  refine q_skip (by rfl) (some 53) rfl (hK _ ?_)
  simp only [Act.put, List.setIfInBounds_toArray, List.set_cons_zero, List.set_cons_succ]
  clear hK K
  refine wpQuiet_step (fun K hK => ?_)
  refine q_skip (by rfl) (some 54) rfl (hK _ ?_)
  simp only [Act.put, List.setIfInBounds_toArray, List.set_cons_zero, List.set_cons_succ]
  clear hK K
  refine wpQuiet_step (fun K hK => ?_)
  refine q_skip (by rfl) (some 55) rfl (hK _ ?_)
  simp only [Act.put, List.setIfInBounds_toArray, List.set_cons_zero, List.set_cons_succ]
  clear hK K
  refine wpQuiet_step (fun K hK => ?_)
  refine q_val (by rfl) (some 56) rfl (.bool false) (fun w' _ => by rfl) (hK _ ?_)
  simp only [Act.put, List.setIfInBounds_toArray, List.set_cons_zero, List.set_cons_succ]
  clear hK K
  refine wpQuiet_step (fun K hK => ?_)
  refine q_val (by rfl) (some 2) rfl (.bool false) (fun w' _ => by rfl) (hK _ ?_)
  simp only [Act.put, List.setIfInBounds_toArray, List.set_cons_zero, List.set_cons_succ]
  clear hK K
  refine wpQuiet_nil ?_
  intro w3 B3
  go_wp2
  go_ret
  exact ⟨rfl, B1.trans (B3.mono (by omega))⟩

set_option maxHeartbeats 2000000 in
theorem right_r (g : List Int) (hl : g.length = 6) (hk : Kept g) (h16 : gb g 2 % 16 = 0) (hr : gb g 1 < rec g) (w : World) :
    Calls Tryd.prog 8 #[.agg (ints .i64 g)] w fun x w' => x = .returned (.bool false) ∧ Below w.heap.size w w' := by
  obtain ⟨k0, k1, k2, k3, k4, k5⟩ := id hk
  have I0 : Hid (∀ w, Calls Tryd.prog 24 #[.int .i64 (gb g 0), .int .i64 7, .int .i64 64] w fun x w' => x = .returned (.bool true) ∧ w' = w) := fun w => in_yes _ _ _ w k0
  have I1 : Hid (∀ w, Calls Tryd.prog 24 #[.int .i64 (gb g 1), .int .i64 4, .int .i64 32] w fun x w' => x = .returned (.bool true) ∧ w' = w) := fun w => in_yes _ _ _ w k1
  have I2 : Hid (∀ w, Calls Tryd.prog 24 #[.int .i64 (gb g 2), .int .i64 32, .int .i64 4096] w fun x w' => x = .returned (.bool true) ∧ w' = w) := fun w => in_yes _ _ _ w k2
  have I3 : Hid (∀ w, Calls Tryd.prog 24 #[.int .i64 (gb g 3), .int .i64 0, .int .i64 8] w fun x w' => x = .returned (.bool true) ∧ w' = w) := fun w => in_yes _ _ _ w k3
  have I4 : Hid (∀ w, Calls Tryd.prog 24 #[.int .i64 (gb g 4), .int .i64 1, .int .i64 1000] w fun x w' => x = .returned (.bool true) ∧ w' = w) := fun w => in_yes _ _ _ w k4
  have I5 : Hid (∀ w, Calls Tryd.prog 24 #[.int .i64 (gb g 5), .int .i64 1, .int .i64 1000] w fun x w' => x = .returned (.bool true) ∧ w' = w) := fun w => in_yes _ _ _ w k5
  have SR' : Hid (∀ w, Calls Tryd.prog 25 #[.agg (ints .i64 g)] w fun x w' => x = .returned (.int .i64 (rec g)) ∧ Below w.heap.size w w') := rchunks_any g hl hk
  obtain ⟨m, hm⟩ : ∃ m, m = gb g 2 % 16 := ⟨_, rfl⟩
  have q1 : (gb g 2).tmod 16 = m := by rw [hm]; exact Int.tmod_eq_emod_of_nonneg (by omega)
  have m1 : IntKind.i64.wrap m = m := by rw [IntKind.wrap_i64]; omega
  have m0 : m = 0 := by omega
  have q2 : IntKind.i64.wrap (gb g 3 + 3) = gb g 3 + 3 := by rw [IntKind.wrap_i64]; omega
  have q3 : IntKind.i64.wrap (gb g 0 - 4) = gb g 0 - 4 := by rw [IntKind.wrap_i64]; omega
  have t0 : (0 : Nat) = 0 := rfl
  clear k0 k1 k2 k3 k4 k5 hk h16 hm
  generalize rec g = z at *
  go_enter Tryd.func8, Tryd.ntmps8
  go_wp2_with (first
    | (have q6 := t6; go_at_call 24; refine (I5.out _).mono ?_; rintro e wx ⟨rfl, hw⟩; obtain rfl := hw.symm; have t7 : (0 : Nat) = 0 := rfl; clear t6)
    | (have q5 := t5; go_at_call 24; refine (I4.out _).mono ?_; rintro e wx ⟨rfl, hw⟩; obtain rfl := hw.symm; have t6 : (0 : Nat) = 0 := rfl; clear t5)
    | (have q4 := t4; go_at_call 24; refine (I3.out _).mono ?_; rintro e wx ⟨rfl, hw⟩; obtain rfl := hw.symm; have t5 : (0 : Nat) = 0 := rfl; clear t4)
    | (have q3 := t3; go_at_call 24; refine (I2.out _).mono ?_; rintro e wx ⟨rfl, hw⟩; obtain rfl := hw.symm; have t4 : (0 : Nat) = 0 := rfl; clear t3)
    | (have q2 := t2; go_at_call 24; refine (I1.out _).mono ?_; rintro e wx ⟨rfl, hw⟩; obtain rfl := hw.symm; have t3 : (0 : Nat) = 0 := rfl; clear t2)
    | (have q1 := t1; go_at_call 24; refine (I0.out _).mono ?_; rintro e wx ⟨rfl, hw⟩; obtain rfl := hw.symm; have t2 : (0 : Nat) = 0 := rfl; clear t1)
    | (have q0 := t0; refine box_lawF _ rfl (.tmp 0) 23 rfl .i64 g rfl ?_; intro w1 X1 B1 L1; have HX : Hid (Ar w1 w.heap.size 0 .i64 g) := X1; obtain ⟨f0, f1, f2, f3, f4, f5⟩ := geo_cells X1 hl; have t1 : (0 : Nat) = 0 := rfl; clear X1 t0))
  have SR : Hid (∀ w', Below w1.heap.size w1 w' → Calls Tryd.prog 25 #[.agg (ints .i64 g)] w' fun x w'' => x = .returned (.int .i64 z) ∧ Below w1.heap.size w1 w'') := call_class SR'.out w1
  have GC := Hid.mk' (geo_class HX.out hl)
  refine region_quietC (C := fun w' => Below w1.heap.size w1 w') (by kernel_rfl) (by kernel_rfl) (Below.refl _ _).drew ?_
  refine wpQuiet_step (fun K hK => ?_)
  refine q_val (by rfl) (some 37) rfl (.pointer (some ⟨w.heap.size, 2, none⟩)) (fun w' _ => by go_simp) (hK _ ?_)
  simp only [Act.put, List.setIfInBounds_toArray, List.set_cons_zero, List.set_cons_succ]
  clear hK K
  refine wpQuiet_step (fun K hK => ?_)
  refine q_get (by rfl) (some 38) rfl (.tmp 37) 3 rfl .i64 (gb g 2) w.heap.size (2) rfl Tryd.underlying3 (fun w' h => (GC.out w' h).2.2.1) (hK _ ?_)
  simp only [Act.put, List.setIfInBounds_toArray, List.set_cons_zero, List.set_cons_succ]
  clear hK K
  refine wpQuiet_step (fun K hK => ?_)
  refine q_val (by rfl) (some 39) rfl (.int .i64 m) (fun w' _ => by go_simp) (hK _ ?_)
  simp only [Act.put, List.setIfInBounds_toArray, List.set_cons_zero, List.set_cons_succ]
  clear hK K
  refine wpQuiet_step (fun K hK => ?_)
  refine q_val (by rfl) (some 40) rfl (.bool true) (fun w' _ => by go_simp) (hK _ ?_)
  simp only [Act.put, List.setIfInBounds_toArray, List.set_cons_zero, List.set_cons_succ]
  clear hK K
  refine wpQuiet_step (fun K hK => ?_)
  refine q_val (by rfl) (some 41) rfl (.bool true) (fun w' _ => by rfl) (hK _ ?_)
  simp only [Act.put, List.setIfInBounds_toArray, List.set_cons_zero, List.set_cons_succ]
  clear hK K
  refine wpQuiet_step (fun K hK => ?_)
  refine q_loadS (by rfl) (some 42) rfl (.tmp 1) 23 rfl (.pointer (some ⟨w.heap.size, 0, none⟩)) (.agg (ints .i64 g)) rfl (fun w' h => (GC.out w' h).2.2.2.2.2.2) (hK _ ?_)
  simp only [Act.put, List.setIfInBounds_toArray, List.set_cons_zero, List.set_cons_succ]
  clear hK K
  refine wpQuiet_step (fun K hK => ?_)
  refine q_call (by rfl) (some 43) rfl 25 #[.tmp 42] #[23] rfl (fun q w' => by rfl) #[.agg (ints .i64 g)] (by simp only [List.map_toArray, List.map_cons, List.map_nil]; rfl) (.int .i64 z) SR.out (hK _ ?_)
  simp only [Act.put, List.setIfInBounds_toArray, List.set_cons_zero, List.set_cons_succ]
  clear hK K
  refine wpQuiet_step (fun K hK => ?_)
  refine q_val (by rfl) (some 44) rfl (.pointer (some ⟨w.heap.size, 1, none⟩)) (fun w' _ => by go_simp) (hK _ ?_)
  simp only [Act.put, List.setIfInBounds_toArray, List.set_cons_zero, List.set_cons_succ]
  clear hK K
  refine wpQuiet_step (fun K hK => ?_)
  refine q_get (by rfl) (some 45) rfl (.tmp 44) 3 rfl .i64 (gb g 1) w.heap.size (1) rfl Tryd.underlying3 (fun w' h => (GC.out w' h).2.1) (hK _ ?_)
  simp only [Act.put, List.setIfInBounds_toArray, List.set_cons_zero, List.set_cons_succ]
  clear hK K
  refine wpQuiet_step (fun K hK => ?_)
  refine q_val (by rfl) (some 46) rfl (.bool false) (fun w' _ => by go_simp) (hK _ ?_)
  simp only [Act.put, List.setIfInBounds_toArray, List.set_cons_zero, List.set_cons_succ]
  clear hK K
  refine wpQuiet_step (fun K hK => ?_)
  refine q_val (by rfl) (some 47) rfl (.bool false) (fun w' _ => by rfl) (hK _ ?_)
  simp only [Act.put, List.setIfInBounds_toArray, List.set_cons_zero, List.set_cons_succ]
  clear hK K
  refine wpQuiet_step (fun K hK => ?_)
  refine q_val (by rfl) (some 48) rfl (.bool false) (fun w' _ => by rfl) (hK _ ?_)
  simp only [Act.put, List.setIfInBounds_toArray, List.set_cons_zero, List.set_cons_succ]
  clear hK K
  refine wpQuiet_step (fun K hK => ?_)
  refine q_skip (by rfl) (some 49) rfl (hK _ ?_)
  simp only [Act.put, List.setIfInBounds_toArray, List.set_cons_zero, List.set_cons_succ]
  clear hK K
  refine wpQuiet_step (fun K hK => ?_)
  refine q_skip (by rfl) (some 50) rfl (hK _ ?_)
  simp only [Act.put, List.setIfInBounds_toArray, List.set_cons_zero, List.set_cons_succ]
  clear hK K
  refine wpQuiet_step (fun K hK => ?_)
  refine q_skip (by rfl) (some 51) rfl (hK _ ?_)
  simp only [Act.put, List.setIfInBounds_toArray, List.set_cons_zero, List.set_cons_succ]
  clear hK K
  refine wpQuiet_step (fun K hK => ?_)
  refine q_skip (by rfl) (some 52) rfl (hK _ ?_)
  simp only [Act.put, List.setIfInBounds_toArray, List.set_cons_zero, List.set_cons_succ]
  clear hK K
  refine wpQuiet_step (fun K hK => ?_)
  refine q_skip (by rfl) (some 53) rfl (hK _ ?_)
  simp only [Act.put, List.setIfInBounds_toArray, List.set_cons_zero, List.set_cons_succ]
  clear hK K
  refine wpQuiet_step (fun K hK => ?_)
  refine q_skip (by rfl) (some 54) rfl (hK _ ?_)
  simp only [Act.put, List.setIfInBounds_toArray, List.set_cons_zero, List.set_cons_succ]
  clear hK K
  refine wpQuiet_step (fun K hK => ?_)
  refine q_skip (by rfl) (some 55) rfl (hK _ ?_)
  simp only [Act.put, List.setIfInBounds_toArray, List.set_cons_zero, List.set_cons_succ]
  clear hK K
  refine wpQuiet_step (fun K hK => ?_)
  refine q_val (by rfl) (some 56) rfl (.bool false) (fun w' _ => by rfl) (hK _ ?_)
  simp only [Act.put, List.setIfInBounds_toArray, List.set_cons_zero, List.set_cons_succ]
  clear hK K
  refine wpQuiet_step (fun K hK => ?_)
  refine q_val (by rfl) (some 2) rfl (.bool false) (fun w' _ => by rfl) (hK _ ?_)
  simp only [Act.put, List.setIfInBounds_toArray, List.set_cons_zero, List.set_cons_succ]
  clear hK K
  refine wpQuiet_nil ?_
  intro w3 B3
  go_wp2
  go_ret
  exact ⟨rfl, B1.trans (B3.mono (by omega))⟩

set_option maxHeartbeats 2000000 in
theorem right_s (g : List Int) (hl : g.length = 6) (hk : Kept g) (h16 : gb g 2 % 16 = 0) (hr : rec g ≤ gb g 1) (hs : gb g 0 - 4 < gb g 3 + 3) (w : World) :
    Calls Tryd.prog 8 #[.agg (ints .i64 g)] w fun x w' => x = .returned (.bool false) ∧ Below w.heap.size w w' := by
  obtain ⟨k0, k1, k2, k3, k4, k5⟩ := id hk
  have I0 : Hid (∀ w, Calls Tryd.prog 24 #[.int .i64 (gb g 0), .int .i64 7, .int .i64 64] w fun x w' => x = .returned (.bool true) ∧ w' = w) := fun w => in_yes _ _ _ w k0
  have I1 : Hid (∀ w, Calls Tryd.prog 24 #[.int .i64 (gb g 1), .int .i64 4, .int .i64 32] w fun x w' => x = .returned (.bool true) ∧ w' = w) := fun w => in_yes _ _ _ w k1
  have I2 : Hid (∀ w, Calls Tryd.prog 24 #[.int .i64 (gb g 2), .int .i64 32, .int .i64 4096] w fun x w' => x = .returned (.bool true) ∧ w' = w) := fun w => in_yes _ _ _ w k2
  have I3 : Hid (∀ w, Calls Tryd.prog 24 #[.int .i64 (gb g 3), .int .i64 0, .int .i64 8] w fun x w' => x = .returned (.bool true) ∧ w' = w) := fun w => in_yes _ _ _ w k3
  have I4 : Hid (∀ w, Calls Tryd.prog 24 #[.int .i64 (gb g 4), .int .i64 1, .int .i64 1000] w fun x w' => x = .returned (.bool true) ∧ w' = w) := fun w => in_yes _ _ _ w k4
  have I5 : Hid (∀ w, Calls Tryd.prog 24 #[.int .i64 (gb g 5), .int .i64 1, .int .i64 1000] w fun x w' => x = .returned (.bool true) ∧ w' = w) := fun w => in_yes _ _ _ w k5
  have SR' : Hid (∀ w, Calls Tryd.prog 25 #[.agg (ints .i64 g)] w fun x w' => x = .returned (.int .i64 (rec g)) ∧ Below w.heap.size w w') := rchunks_any g hl hk
  obtain ⟨m, hm⟩ : ∃ m, m = gb g 2 % 16 := ⟨_, rfl⟩
  have q1 : (gb g 2).tmod 16 = m := by rw [hm]; exact Int.tmod_eq_emod_of_nonneg (by omega)
  have m1 : IntKind.i64.wrap m = m := by rw [IntKind.wrap_i64]; omega
  have m0 : m = 0 := by omega
  have q2 : IntKind.i64.wrap (gb g 3 + 3) = gb g 3 + 3 := by rw [IntKind.wrap_i64]; omega
  have q3 : IntKind.i64.wrap (gb g 0 - 4) = gb g 0 - 4 := by rw [IntKind.wrap_i64]; omega
  have t0 : (0 : Nat) = 0 := rfl
  clear k0 k1 k2 k3 k4 k5 hk h16 hm
  generalize rec g = z at *
  go_enter Tryd.func8, Tryd.ntmps8
  go_wp2_with (first
    | (have q6 := t6; go_at_call 24; refine (I5.out _).mono ?_; rintro e wx ⟨rfl, hw⟩; obtain rfl := hw.symm; have t7 : (0 : Nat) = 0 := rfl; clear t6)
    | (have q5 := t5; go_at_call 24; refine (I4.out _).mono ?_; rintro e wx ⟨rfl, hw⟩; obtain rfl := hw.symm; have t6 : (0 : Nat) = 0 := rfl; clear t5)
    | (have q4 := t4; go_at_call 24; refine (I3.out _).mono ?_; rintro e wx ⟨rfl, hw⟩; obtain rfl := hw.symm; have t5 : (0 : Nat) = 0 := rfl; clear t4)
    | (have q3 := t3; go_at_call 24; refine (I2.out _).mono ?_; rintro e wx ⟨rfl, hw⟩; obtain rfl := hw.symm; have t4 : (0 : Nat) = 0 := rfl; clear t3)
    | (have q2 := t2; go_at_call 24; refine (I1.out _).mono ?_; rintro e wx ⟨rfl, hw⟩; obtain rfl := hw.symm; have t3 : (0 : Nat) = 0 := rfl; clear t2)
    | (have q1 := t1; go_at_call 24; refine (I0.out _).mono ?_; rintro e wx ⟨rfl, hw⟩; obtain rfl := hw.symm; have t2 : (0 : Nat) = 0 := rfl; clear t1)
    | (have q0 := t0; refine box_lawF _ rfl (.tmp 0) 23 rfl .i64 g rfl ?_; intro w1 X1 B1 L1; have HX : Hid (Ar w1 w.heap.size 0 .i64 g) := X1; obtain ⟨f0, f1, f2, f3, f4, f5⟩ := geo_cells X1 hl; have t1 : (0 : Nat) = 0 := rfl; clear X1 t0))
  have SR : Hid (∀ w', Below w1.heap.size w1 w' → Calls Tryd.prog 25 #[.agg (ints .i64 g)] w' fun x w'' => x = .returned (.int .i64 z) ∧ Below w1.heap.size w1 w'') := call_class SR'.out w1
  have GC := Hid.mk' (geo_class HX.out hl)
  refine region_quietC (C := fun w' => Below w1.heap.size w1 w') (by kernel_rfl) (by kernel_rfl) (Below.refl _ _).drew ?_
  refine wpQuiet_step (fun K hK => ?_)
  refine q_val (by rfl) (some 37) rfl (.pointer (some ⟨w.heap.size, 2, none⟩)) (fun w' _ => by go_simp) (hK _ ?_)
  simp only [Act.put, List.setIfInBounds_toArray, List.set_cons_zero, List.set_cons_succ]
  clear hK K
  refine wpQuiet_step (fun K hK => ?_)
  refine q_get (by rfl) (some 38) rfl (.tmp 37) 3 rfl .i64 (gb g 2) w.heap.size (2) rfl Tryd.underlying3 (fun w' h => (GC.out w' h).2.2.1) (hK _ ?_)
  simp only [Act.put, List.setIfInBounds_toArray, List.set_cons_zero, List.set_cons_succ]
  clear hK K
  refine wpQuiet_step (fun K hK => ?_)
  refine q_val (by rfl) (some 39) rfl (.int .i64 m) (fun w' _ => by go_simp) (hK _ ?_)
  simp only [Act.put, List.setIfInBounds_toArray, List.set_cons_zero, List.set_cons_succ]
  clear hK K
  refine wpQuiet_step (fun K hK => ?_)
  refine q_val (by rfl) (some 40) rfl (.bool true) (fun w' _ => by go_simp) (hK _ ?_)
  simp only [Act.put, List.setIfInBounds_toArray, List.set_cons_zero, List.set_cons_succ]
  clear hK K
  refine wpQuiet_step (fun K hK => ?_)
  refine q_val (by rfl) (some 41) rfl (.bool true) (fun w' _ => by rfl) (hK _ ?_)
  simp only [Act.put, List.setIfInBounds_toArray, List.set_cons_zero, List.set_cons_succ]
  clear hK K
  refine wpQuiet_step (fun K hK => ?_)
  refine q_loadS (by rfl) (some 42) rfl (.tmp 1) 23 rfl (.pointer (some ⟨w.heap.size, 0, none⟩)) (.agg (ints .i64 g)) rfl (fun w' h => (GC.out w' h).2.2.2.2.2.2) (hK _ ?_)
  simp only [Act.put, List.setIfInBounds_toArray, List.set_cons_zero, List.set_cons_succ]
  clear hK K
  refine wpQuiet_step (fun K hK => ?_)
  refine q_call (by rfl) (some 43) rfl 25 #[.tmp 42] #[23] rfl (fun q w' => by rfl) #[.agg (ints .i64 g)] (by simp only [List.map_toArray, List.map_cons, List.map_nil]; rfl) (.int .i64 z) SR.out (hK _ ?_)
  simp only [Act.put, List.setIfInBounds_toArray, List.set_cons_zero, List.set_cons_succ]
  clear hK K
  refine wpQuiet_step (fun K hK => ?_)
  refine q_val (by rfl) (some 44) rfl (.pointer (some ⟨w.heap.size, 1, none⟩)) (fun w' _ => by go_simp) (hK _ ?_)
  simp only [Act.put, List.setIfInBounds_toArray, List.set_cons_zero, List.set_cons_succ]
  clear hK K
  refine wpQuiet_step (fun K hK => ?_)
  refine q_get (by rfl) (some 45) rfl (.tmp 44) 3 rfl .i64 (gb g 1) w.heap.size (1) rfl Tryd.underlying3 (fun w' h => (GC.out w' h).2.1) (hK _ ?_)
  simp only [Act.put, List.setIfInBounds_toArray, List.set_cons_zero, List.set_cons_succ]
  clear hK K
  refine wpQuiet_step (fun K hK => ?_)
  refine q_val (by rfl) (some 46) rfl (.bool true) (fun w' _ => by go_simp) (hK _ ?_)
  simp only [Act.put, List.setIfInBounds_toArray, List.set_cons_zero, List.set_cons_succ]
  clear hK K
  refine wpQuiet_step (fun K hK => ?_)
  refine q_val (by rfl) (some 47) rfl (.bool true) (fun w' _ => by rfl) (hK _ ?_)
  simp only [Act.put, List.setIfInBounds_toArray, List.set_cons_zero, List.set_cons_succ]
  clear hK K
  refine wpQuiet_step (fun K hK => ?_)
  refine q_val (by rfl) (some 48) rfl (.bool true) (fun w' _ => by rfl) (hK _ ?_)
  simp only [Act.put, List.setIfInBounds_toArray, List.set_cons_zero, List.set_cons_succ]
  clear hK K
  refine wpQuiet_step (fun K hK => ?_)
  refine q_val (by rfl) (some 49) rfl (.pointer (some ⟨w.heap.size, 0, none⟩)) (fun w' _ => by go_simp) (hK _ ?_)
  simp only [Act.put, List.setIfInBounds_toArray, List.set_cons_zero, List.set_cons_succ]
  clear hK K
  refine wpQuiet_step (fun K hK => ?_)
  refine q_get (by rfl) (some 50) rfl (.tmp 49) 3 rfl .i64 (gb g 0) w.heap.size (0) rfl Tryd.underlying3 (fun w' h => (GC.out w' h).1) (hK _ ?_)
  simp only [Act.put, List.setIfInBounds_toArray, List.set_cons_zero, List.set_cons_succ]
  clear hK K
  refine wpQuiet_step (fun K hK => ?_)
  refine q_val (by rfl) (some 51) rfl (.int .i64 (gb g 0 - 4)) (fun w' _ => by go_simp) (hK _ ?_)
  simp only [Act.put, List.setIfInBounds_toArray, List.set_cons_zero, List.set_cons_succ]
  clear hK K
  refine wpQuiet_step (fun K hK => ?_)
  refine q_val (by rfl) (some 52) rfl (.pointer (some ⟨w.heap.size, 3, none⟩)) (fun w' _ => by go_simp) (hK _ ?_)
  simp only [Act.put, List.setIfInBounds_toArray, List.set_cons_zero, List.set_cons_succ]
  clear hK K
  refine wpQuiet_step (fun K hK => ?_)
  refine q_get (by rfl) (some 53) rfl (.tmp 52) 3 rfl .i64 (gb g 3) w.heap.size (3) rfl Tryd.underlying3 (fun w' h => (GC.out w' h).2.2.2.1) (hK _ ?_)
  simp only [Act.put, List.setIfInBounds_toArray, List.set_cons_zero, List.set_cons_succ]
  clear hK K
  refine wpQuiet_step (fun K hK => ?_)
  refine q_val (by rfl) (some 54) rfl (.int .i64 (gb g 3 + 3)) (fun w' _ => by go_simp) (hK _ ?_)
  simp only [Act.put, List.setIfInBounds_toArray, List.set_cons_zero, List.set_cons_succ]
  clear hK K
  refine wpQuiet_step (fun K hK => ?_)
  refine q_val (by rfl) (some 55) rfl (.bool false) (fun w' _ => by go_simp) (hK _ ?_)
  simp only [Act.put, List.setIfInBounds_toArray, List.set_cons_zero, List.set_cons_succ]
  clear hK K
  refine wpQuiet_step (fun K hK => ?_)
  refine q_val (by rfl) (some 56) rfl (.bool false) (fun w' _ => by rfl) (hK _ ?_)
  simp only [Act.put, List.setIfInBounds_toArray, List.set_cons_zero, List.set_cons_succ]
  clear hK K
  refine wpQuiet_step (fun K hK => ?_)
  refine q_val (by rfl) (some 2) rfl (.bool false) (fun w' _ => by rfl) (hK _ ?_)
  simp only [Act.put, List.setIfInBounds_toArray, List.set_cons_zero, List.set_cons_succ]
  clear hK K
  refine wpQuiet_nil ?_
  intro w3 B3
  go_wp2
  go_ret
  exact ⟨rfl, B1.trans (B3.mono (by omega))⟩

set_option maxHeartbeats 2000000 in
theorem right_o (g : List Int) (hl : g.length = 6) (hk : Kept g) (h16 : gb g 2 % 16 = 0) (hr : rec g ≤ gb g 1) (hs : gb g 3 + 3 ≤ gb g 0 - 4) (w : World) :
    Calls Tryd.prog 8 #[.agg (ints .i64 g)] w fun x w' => x = .returned (.bool true) ∧ Below w.heap.size w w' := by
  obtain ⟨k0, k1, k2, k3, k4, k5⟩ := id hk
  have I0 : Hid (∀ w, Calls Tryd.prog 24 #[.int .i64 (gb g 0), .int .i64 7, .int .i64 64] w fun x w' => x = .returned (.bool true) ∧ w' = w) := fun w => in_yes _ _ _ w k0
  have I1 : Hid (∀ w, Calls Tryd.prog 24 #[.int .i64 (gb g 1), .int .i64 4, .int .i64 32] w fun x w' => x = .returned (.bool true) ∧ w' = w) := fun w => in_yes _ _ _ w k1
  have I2 : Hid (∀ w, Calls Tryd.prog 24 #[.int .i64 (gb g 2), .int .i64 32, .int .i64 4096] w fun x w' => x = .returned (.bool true) ∧ w' = w) := fun w => in_yes _ _ _ w k2
  have I3 : Hid (∀ w, Calls Tryd.prog 24 #[.int .i64 (gb g 3), .int .i64 0, .int .i64 8] w fun x w' => x = .returned (.bool true) ∧ w' = w) := fun w => in_yes _ _ _ w k3
  have I4 : Hid (∀ w, Calls Tryd.prog 24 #[.int .i64 (gb g 4), .int .i64 1, .int .i64 1000] w fun x w' => x = .returned (.bool true) ∧ w' = w) := fun w => in_yes _ _ _ w k4
  have I5 : Hid (∀ w, Calls Tryd.prog 24 #[.int .i64 (gb g 5), .int .i64 1, .int .i64 1000] w fun x w' => x = .returned (.bool true) ∧ w' = w) := fun w => in_yes _ _ _ w k5
  have SR' : Hid (∀ w, Calls Tryd.prog 25 #[.agg (ints .i64 g)] w fun x w' => x = .returned (.int .i64 (rec g)) ∧ Below w.heap.size w w') := rchunks_any g hl hk
  obtain ⟨m, hm⟩ : ∃ m, m = gb g 2 % 16 := ⟨_, rfl⟩
  have q1 : (gb g 2).tmod 16 = m := by rw [hm]; exact Int.tmod_eq_emod_of_nonneg (by omega)
  have m1 : IntKind.i64.wrap m = m := by rw [IntKind.wrap_i64]; omega
  have m0 : m = 0 := by omega
  have q2 : IntKind.i64.wrap (gb g 3 + 3) = gb g 3 + 3 := by rw [IntKind.wrap_i64]; omega
  have q3 : IntKind.i64.wrap (gb g 0 - 4) = gb g 0 - 4 := by rw [IntKind.wrap_i64]; omega
  have t0 : (0 : Nat) = 0 := rfl
  clear k0 k1 k2 k3 k4 k5 hk h16 hm
  generalize rec g = z at *
  go_enter Tryd.func8, Tryd.ntmps8
  go_wp2_with (first
    | (have q6 := t6; go_at_call 24; refine (I5.out _).mono ?_; rintro e wx ⟨rfl, hw⟩; obtain rfl := hw.symm; have t7 : (0 : Nat) = 0 := rfl; clear t6)
    | (have q5 := t5; go_at_call 24; refine (I4.out _).mono ?_; rintro e wx ⟨rfl, hw⟩; obtain rfl := hw.symm; have t6 : (0 : Nat) = 0 := rfl; clear t5)
    | (have q4 := t4; go_at_call 24; refine (I3.out _).mono ?_; rintro e wx ⟨rfl, hw⟩; obtain rfl := hw.symm; have t5 : (0 : Nat) = 0 := rfl; clear t4)
    | (have q3 := t3; go_at_call 24; refine (I2.out _).mono ?_; rintro e wx ⟨rfl, hw⟩; obtain rfl := hw.symm; have t4 : (0 : Nat) = 0 := rfl; clear t3)
    | (have q2 := t2; go_at_call 24; refine (I1.out _).mono ?_; rintro e wx ⟨rfl, hw⟩; obtain rfl := hw.symm; have t3 : (0 : Nat) = 0 := rfl; clear t2)
    | (have q1 := t1; go_at_call 24; refine (I0.out _).mono ?_; rintro e wx ⟨rfl, hw⟩; obtain rfl := hw.symm; have t2 : (0 : Nat) = 0 := rfl; clear t1)
    | (have q0 := t0; refine box_lawF _ rfl (.tmp 0) 23 rfl .i64 g rfl ?_; intro w1 X1 B1 L1; have HX : Hid (Ar w1 w.heap.size 0 .i64 g) := X1; obtain ⟨f0, f1, f2, f3, f4, f5⟩ := geo_cells X1 hl; have t1 : (0 : Nat) = 0 := rfl; clear X1 t0))
  have SR : Hid (∀ w', Below w1.heap.size w1 w' → Calls Tryd.prog 25 #[.agg (ints .i64 g)] w' fun x w'' => x = .returned (.int .i64 z) ∧ Below w1.heap.size w1 w'') := call_class SR'.out w1
  have GC := Hid.mk' (geo_class HX.out hl)
  refine region_quietC (C := fun w' => Below w1.heap.size w1 w') (by kernel_rfl) (by kernel_rfl) (Below.refl _ _).drew ?_
  refine wpQuiet_step (fun K hK => ?_)
  refine q_val (by rfl) (some 37) rfl (.pointer (some ⟨w.heap.size, 2, none⟩)) (fun w' _ => by go_simp) (hK _ ?_)
  simp only [Act.put, List.setIfInBounds_toArray, List.set_cons_zero, List.set_cons_succ]
  clear hK K
  refine wpQuiet_step (fun K hK => ?_)
  refine q_get (by rfl) (some 38) rfl (.tmp 37) 3 rfl .i64 (gb g 2) w.heap.size (2) rfl Tryd.underlying3 (fun w' h => (GC.out w' h).2.2.1) (hK _ ?_)
  simp only [Act.put, List.setIfInBounds_toArray, List.set_cons_zero, List.set_cons_succ]
  clear hK K
  refine wpQuiet_step (fun K hK => ?_)
  refine q_val (by rfl) (some 39) rfl (.int .i64 m) (fun w' _ => by go_simp) (hK _ ?_)
  simp only [Act.put, List.setIfInBounds_toArray, List.set_cons_zero, List.set_cons_succ]
  clear hK K
  refine wpQuiet_step (fun K hK => ?_)
  refine q_val (by rfl) (some 40) rfl (.bool true) (fun w' _ => by go_simp) (hK _ ?_)
  simp only [Act.put, List.setIfInBounds_toArray, List.set_cons_zero, List.set_cons_succ]
  clear hK K
  refine wpQuiet_step (fun K hK => ?_)
  refine q_val (by rfl) (some 41) rfl (.bool true) (fun w' _ => by rfl) (hK _ ?_)
  simp only [Act.put, List.setIfInBounds_toArray, List.set_cons_zero, List.set_cons_succ]
  clear hK K
  refine wpQuiet_step (fun K hK => ?_)
  refine q_loadS (by rfl) (some 42) rfl (.tmp 1) 23 rfl (.pointer (some ⟨w.heap.size, 0, none⟩)) (.agg (ints .i64 g)) rfl (fun w' h => (GC.out w' h).2.2.2.2.2.2) (hK _ ?_)
  simp only [Act.put, List.setIfInBounds_toArray, List.set_cons_zero, List.set_cons_succ]
  clear hK K
  refine wpQuiet_step (fun K hK => ?_)
  refine q_call (by rfl) (some 43) rfl 25 #[.tmp 42] #[23] rfl (fun q w' => by rfl) #[.agg (ints .i64 g)] (by simp only [List.map_toArray, List.map_cons, List.map_nil]; rfl) (.int .i64 z) SR.out (hK _ ?_)
  simp only [Act.put, List.setIfInBounds_toArray, List.set_cons_zero, List.set_cons_succ]
  clear hK K
  refine wpQuiet_step (fun K hK => ?_)
  refine q_val (by rfl) (some 44) rfl (.pointer (some ⟨w.heap.size, 1, none⟩)) (fun w' _ => by go_simp) (hK _ ?_)
  simp only [Act.put, List.setIfInBounds_toArray, List.set_cons_zero, List.set_cons_succ]
  clear hK K
  refine wpQuiet_step (fun K hK => ?_)
  refine q_get (by rfl) (some 45) rfl (.tmp 44) 3 rfl .i64 (gb g 1) w.heap.size (1) rfl Tryd.underlying3 (fun w' h => (GC.out w' h).2.1) (hK _ ?_)
  simp only [Act.put, List.setIfInBounds_toArray, List.set_cons_zero, List.set_cons_succ]
  clear hK K
  refine wpQuiet_step (fun K hK => ?_)
  refine q_val (by rfl) (some 46) rfl (.bool true) (fun w' _ => by go_simp) (hK _ ?_)
  simp only [Act.put, List.setIfInBounds_toArray, List.set_cons_zero, List.set_cons_succ]
  clear hK K
  refine wpQuiet_step (fun K hK => ?_)
  refine q_val (by rfl) (some 47) rfl (.bool true) (fun w' _ => by rfl) (hK _ ?_)
  simp only [Act.put, List.setIfInBounds_toArray, List.set_cons_zero, List.set_cons_succ]
  clear hK K
  refine wpQuiet_step (fun K hK => ?_)
  refine q_val (by rfl) (some 48) rfl (.bool true) (fun w' _ => by rfl) (hK _ ?_)
  simp only [Act.put, List.setIfInBounds_toArray, List.set_cons_zero, List.set_cons_succ]
  clear hK K
  refine wpQuiet_step (fun K hK => ?_)
  refine q_val (by rfl) (some 49) rfl (.pointer (some ⟨w.heap.size, 0, none⟩)) (fun w' _ => by go_simp) (hK _ ?_)
  simp only [Act.put, List.setIfInBounds_toArray, List.set_cons_zero, List.set_cons_succ]
  clear hK K
  refine wpQuiet_step (fun K hK => ?_)
  refine q_get (by rfl) (some 50) rfl (.tmp 49) 3 rfl .i64 (gb g 0) w.heap.size (0) rfl Tryd.underlying3 (fun w' h => (GC.out w' h).1) (hK _ ?_)
  simp only [Act.put, List.setIfInBounds_toArray, List.set_cons_zero, List.set_cons_succ]
  clear hK K
  refine wpQuiet_step (fun K hK => ?_)
  refine q_val (by rfl) (some 51) rfl (.int .i64 (gb g 0 - 4)) (fun w' _ => by go_simp) (hK _ ?_)
  simp only [Act.put, List.setIfInBounds_toArray, List.set_cons_zero, List.set_cons_succ]
  clear hK K
  refine wpQuiet_step (fun K hK => ?_)
  refine q_val (by rfl) (some 52) rfl (.pointer (some ⟨w.heap.size, 3, none⟩)) (fun w' _ => by go_simp) (hK _ ?_)
  simp only [Act.put, List.setIfInBounds_toArray, List.set_cons_zero, List.set_cons_succ]
  clear hK K
  refine wpQuiet_step (fun K hK => ?_)
  refine q_get (by rfl) (some 53) rfl (.tmp 52) 3 rfl .i64 (gb g 3) w.heap.size (3) rfl Tryd.underlying3 (fun w' h => (GC.out w' h).2.2.2.1) (hK _ ?_)
  simp only [Act.put, List.setIfInBounds_toArray, List.set_cons_zero, List.set_cons_succ]
  clear hK K
  refine wpQuiet_step (fun K hK => ?_)
  refine q_val (by rfl) (some 54) rfl (.int .i64 (gb g 3 + 3)) (fun w' _ => by go_simp) (hK _ ?_)
  simp only [Act.put, List.setIfInBounds_toArray, List.set_cons_zero, List.set_cons_succ]
  clear hK K
  refine wpQuiet_step (fun K hK => ?_)
  refine q_val (by rfl) (some 55) rfl (.bool true) (fun w' _ => by go_simp) (hK _ ?_)
  simp only [Act.put, List.setIfInBounds_toArray, List.set_cons_zero, List.set_cons_succ]
  clear hK K
  refine wpQuiet_step (fun K hK => ?_)
  refine q_val (by rfl) (some 56) rfl (.bool true) (fun w' _ => by rfl) (hK _ ?_)
  simp only [Act.put, List.setIfInBounds_toArray, List.set_cons_zero, List.set_cons_succ]
  clear hK K
  refine wpQuiet_step (fun K hK => ?_)
  refine q_val (by rfl) (some 2) rfl (.bool true) (fun w' _ => by rfl) (hK _ ?_)
  simp only [Act.put, List.setIfInBounds_toArray, List.set_cons_zero, List.set_cons_succ]
  clear hK K
  refine wpQuiet_nil ?_
  intro w3 B3
  go_wp2
  go_ret
  exact ⟨rfl, B1.trans (B3.mono (by omega))⟩

theorem right_yes (g : List Int) (hl : g.length = 6) (h : Rt g) (w : World) :
    Calls Tryd.prog 8 #[.agg (ints .i64 g)] w fun x w' => x = .returned (.bool true) ∧ Below w.heap.size w w' := right_o g hl h.1 h.2.1 h.2.2.1 h.2.2.2 w
theorem right_no (g : List Int) (hl : g.length = 6) (h : ¬ Rt g) (w : World) :
    Calls Tryd.prog 8 #[.agg (ints .i64 g)] w fun x w' => x = .returned (.bool false) ∧ Below w.heap.size w w' := by
  by_cases k0 : 7 ≤ gb g 0 ∧ gb g 0 ≤ 64
  · skip
    by_cases k1 : 4 ≤ gb g 1 ∧ gb g 1 ≤ 32
    · skip
      by_cases k2 : 32 ≤ gb g 2 ∧ gb g 2 ≤ 4096
      · skip
        by_cases k3 : 0 ≤ gb g 3 ∧ gb g 3 ≤ 8
        · skip
          by_cases k4 : 1 ≤ gb g 4 ∧ gb g 4 ≤ 1000
          · skip
            by_cases k5 : 1 ≤ gb g 5 ∧ gb g 5 ≤ 1000
            · skip
              have hk : Kept g := ⟨k0, k1, k2, k3, k4, k5⟩
              by_cases h1 : gb g 2 % 16 = 0
              · by_cases h2 : rec g ≤ gb g 1
                · exact right_s g hl hk h1 h2 (Int.not_le.1 fun h3 => h ⟨hk, h1, h2, h3⟩) w
                · exact right_r g hl hk h1 (Int.not_le.1 h2) w
              · exact right_m g hl hk h1 w
            · exact right_k5 g hl k0 k1 k2 k3 k4 k5 w
          · exact right_k4 g hl k0 k1 k2 k3 k4 w
        · exact right_k3 g hl k0 k1 k2 k3 w
      · exact right_k2 g hl k0 k1 k2 w
    · exact right_k1 g hl k0 k1 w
  · exact right_k0 g hl k0 w
end Go.Proofs.YtahfcpdekjdceaaDoor.ge

/- What the reference's Bytes, End and Read answer. No claim of its own. -/
namespace Go.Proofs.YtahfcpdekjdceaaDoor.he
open Go.RowKit Go.Proofs.YtahfcpdekjdceaaDoor.fa
set_option maxRecDepth 20000

section
variable {ops : Array Oper} {o : Oper} {a : Act} {Q : Exit → Act → World → Prop} {K : Act → World → Prop} {E : Prop}
/-- '[]byte{a, b, c, d}' -/
theorem step_lit4 (w : World) (hg : o.guard = none) (d : Option Tmp) (hd : o.dst = d) (x y z u : Operand) (hop : o.op = Op.buildSlice 24 4 #[(0, x), (1, y), (2, z), (3, u)]) (p q r s : Int) (hx : a.eval x = .int .u8 p) (hy : a.eval y = .int .u8 q) (hz : a.eval z = .int .u8 r) (hu : a.eval u = .int .u8 s)
    (hK : ∀ v w', Own w.heap.size w' v [p, q, r, s] → Below w.heap.size w w' → K (a.put d v) w') : if Region.wanted o (yielded ops a.tmps) = true then Oper.wp Tryd.prog o a w K Q else E := by
  have hw : Region.wanted o (yielded ops a.tmps) = true := by simp [Region.wanted, hg]
  rw [if_pos hw]
  subst hd
  have hrun : (Instr.buildSlice 24 4 #[(0, .int .u8 p), (1, .int .u8 q), (2, .int .u8 r), (3, .int .u8 s)]).run Tryd.prog w = .ok (.slice (some ⟨w.heap.size, 0, none⟩) 4 4) (w.alloc (.cells #[.int .u8 p, .int .u8 q, .int .u8 r, .int .u8 s] 5)) := by kernel_rfl
  unfold Oper.wp execOp
  simp only [hop, List.map_toArray, List.map_cons, List.map_nil, hx, hy, hz, hu, Sem.run_bind, Sem.run_pure, Result.andThen_ok, hrun]
  exact hK _ _ (World.ownsRow_lit (e := 5) (size := 1) (base := w.heap.size) w #[.int .u8 p, .int .u8 q, .int .u8 r, .int .u8 s] 4 (Nat.le_refl _) (by simp [maxLen]) rfl) ((Below.refl _ _).alloc (Nat.le_refl _) _)
end
theorem ld_u32 {w : World} {b p : Nat} {x : Int} (h : w.cell? ⟨b, p, none⟩ = some (.int .u32 x)) : (Instr.loadAt 55 (.pointer (some ⟨b, p, none⟩))).run Tryd.prog w = .ok (.int .u32 x) w := by
  simp only [Instr.loadAt, Instr.sureAddr, Sem.run_bind, Sem.run_pure, Result.andThen_ok, run_load1 w b p 55 .u32 x Tryd.underlying55 h]
theorem ld_int {w : World} {b p : Nat} {x : Int} (h : w.cell? ⟨b, p, none⟩ = some (.int .i64 x)) : (Instr.loadAt 3 (.pointer (some ⟨b, p, none⟩))).run Tryd.prog w = .ok (.int .i64 x) w := by
  simp only [Instr.loadAt, Instr.sureAddr, Sem.run_bind, Sem.run_pure, Result.andThen_ok, run_load1 w b p 3 .i64 x Tryd.underlying3 h]
theorem ld_u8 {w : World} {b p : Nat} {x : Int} (h : w.cell? ⟨b, p, none⟩ = some (.int .u8 x)) : (Instr.loadAt 5 (.pointer (some ⟨b, p, none⟩))).run Tryd.prog w = .ok (.int .u8 x) w := by
  simp only [Instr.loadAt, Instr.sureAddr, Sem.run_bind, Sem.run_pure, Result.andThen_ok, run_load1 w b p 5 .u8 x Tryd.underlying5 h]

set_option maxHeartbeats 4000000 in
theorem rbytes_own (k n c l e t : Int) (w : World) (h : Rh k n c) (hl : 0 ≤ l ∧ l ≤ 4294967295) (he : 0 ≤ e ∧ e ≤ 18446744073709551615) (ht : 0 ≤ t ∧ t ≤ 18446744073709551615) :
    Calls Tryd.prog 54 #[.agg (hv k n c l e t).toArray] w fun x w' => ∃ v, x = .returned v ∧ Own w.heap.size w' v (hb k n c l e t) ∧ Below w.heap.size w w' := by
  obtain ⟨r1, r2, r3, r4, r5, r6⟩ := h
  have k1 : IntKind.u8.wrap k = k := by rw [IntKind.wrap_u8]; omega
  have k2 : IntKind.u8.wrap n = n := by rw [IntKind.wrap_u8]; omega
  have k3 : IntKind.u8.wrap c = c := by rw [IntKind.wrap_u8]; omega
  have k4 : IntKind.u64.wrap l = l := by rw [IntKind.wrap_u64]; omega
  have S4 : Hid (∀ w, Calls Tryd.prog 66 #[.int .u64 l, .int .i64 4] w fun e w' => ∃ v, e = .returned v ∧ Byt w' v (be l 4) ∧ Below w.heap.size w w') := fun w => by
    have := rbig_any l 4 w (by omega)
    rw [clamp48.1] at this
    exact this
  have S8 : Hid (∀ w, Calls Tryd.prog 66 #[.int .u64 e, .int .i64 8] w fun e' w' => ∃ v, e' = .returned v ∧ Byt w' v (be e 8) ∧ Below w.heap.size w w') := fun w => by
    have := rbig_any e 8 w he
    rw [clamp48.2.1] at this
    exact this
  have S9 : Hid (∀ w, Calls Tryd.prog 66 #[.int .u64 t, .int .i64 8] w fun e' w' => ∃ v, e' = .returned v ∧ Byt w' v (be t 8) ∧ Below w.heap.size w w') := fun w => by
    have := rbig_any t 8 w ht
    rw [clamp48.2.1] at this
    exact this
  have LN : Hid ((be l 4).length = 4 ∧ (be e 8).length = 8 ∧ (be t 8).length = 8) := ⟨be_len _ _, be_len _ _, be_len _ _⟩
  have HE : Hid (([k, n, c, 0] ++ be l 4 ++ be e 8) ++ be t 8 = hb k n c l e t) := by
    show _ = _
    simp [hb]
  generalize hb k n c l e t = Z at *
  generalize be l 4 = X4 at *
  generalize be e 8 = X8 at *
  generalize be t 8 = X9 at *
  clear r1 r2 r3 r4 r5 r6 hl he ht
  have t0 : (0 : Nat) = 0 := rfl
  go_enter Tryd.func54, Tryd.ntmps54
  go_wp2_with (have q0 := t0; refine box_lawC _ (hv k n c l e t) rfl ?_; intro w1 V1 B1 s1; have HV : Hid (Vr w1 w.heap.size (hv k n c l e t)) := V1; clear V1 t0)
  refine wp_region_held_drew (S := fun w' => Below w1.heap.size w1 w') (by kernel_rfl) (Below.refl _ _).drew (fun hS => ?_)
  obtain ⟨x1, hx0⟩ : ∃ x, x = w1.drew := ⟨_, rfl⟩
  rw [← hx0] at hS  ⊢
  clear hx0
  refine take_lawH 0 (some 4) (.pointer (some ⟨w.heap.size, 0, none⟩)) rfl rfl (by kernel_rfl) (by kernel_rfl) (by kernel_rfl) (fun _ _ _ h => h) (Or.inl ⟨by rfl, fun w' hw' => by go_simp⟩) hS ?_
  simp only [Act.put, List.setIfInBounds_toArray, List.set_cons_zero, List.set_cons_succ]
  refine take_lawH 1 (some 5) (.int .i64 k) rfl rfl (by kernel_rfl) (by kernel_rfl) (by kernel_rfl) (fun _ _ _ h => h) (Or.inl ⟨by rfl, fun w' hw' => by exact exec_loadN 3 (.tmp 4) rfl _ rfl _ _ (ld_int ((HV.out.below hw' s1).cell 0 _ rfl))⟩) hS ?_
  simp only [Act.put, List.setIfInBounds_toArray, List.set_cons_zero, List.set_cons_succ]
  refine take_lawH 2 (some 6) (.int .u8 k) rfl rfl (by kernel_rfl) (by kernel_rfl) (by kernel_rfl) (fun _ _ _ h => h) (Or.inl ⟨by rfl, fun w' hw' => by go_simp⟩) hS ?_
  simp only [Act.put, List.setIfInBounds_toArray, List.set_cons_zero, List.set_cons_succ]
  refine take_lawH 3 (some 7) (.pointer (some ⟨w.heap.size, 1, none⟩)) rfl rfl (by kernel_rfl) (by kernel_rfl) (by kernel_rfl) (fun _ _ _ h => h) (Or.inl ⟨by rfl, fun w' hw' => by go_simp⟩) hS ?_
  simp only [Act.put, List.setIfInBounds_toArray, List.set_cons_zero, List.set_cons_succ]
  refine take_lawH 4 (some 8) (.int .i64 n) rfl rfl (by kernel_rfl) (by kernel_rfl) (by kernel_rfl) (fun _ _ _ h => h) (Or.inl ⟨by rfl, fun w' hw' => by exact exec_loadN 3 (.tmp 7) rfl _ rfl _ _ (ld_int ((HV.out.below hw' s1).cell 1 _ rfl))⟩) hS ?_
  simp only [Act.put, List.setIfInBounds_toArray, List.set_cons_zero, List.set_cons_succ]
  refine take_lawH 5 (some 9) (.int .u8 n) rfl rfl (by kernel_rfl) (by kernel_rfl) (by kernel_rfl) (fun _ _ _ h => h) (Or.inl ⟨by rfl, fun w' hw' => by go_simp⟩) hS ?_
  simp only [Act.put, List.setIfInBounds_toArray, List.set_cons_zero, List.set_cons_succ]
  refine take_lawH 6 (some 10) (.pointer (some ⟨w.heap.size, 2, none⟩)) rfl rfl (by kernel_rfl) (by kernel_rfl) (by kernel_rfl) (fun _ _ _ h => h) (Or.inl ⟨by rfl, fun w' hw' => by go_simp⟩) hS ?_
  simp only [Act.put, List.setIfInBounds_toArray, List.set_cons_zero, List.set_cons_succ]
  refine take_lawH 7 (some 11) (.int .i64 c) rfl rfl (by kernel_rfl) (by kernel_rfl) (by kernel_rfl) (fun _ _ _ h => h) (Or.inl ⟨by rfl, fun w' hw' => by exact exec_loadN 3 (.tmp 10) rfl _ rfl _ _ (ld_int ((HV.out.below hw' s1).cell 2 _ rfl))⟩) hS ?_
  simp only [Act.put, List.setIfInBounds_toArray, List.set_cons_zero, List.set_cons_succ]
  refine take_lawH 8 (some 12) (.int .u8 c) rfl rfl (by kernel_rfl) (by kernel_rfl) (by kernel_rfl) (fun _ _ _ h => h) (Or.inl ⟨by rfl, fun w' hw' => by go_simp⟩) hS ?_
  simp only [Act.put, List.setIfInBounds_toArray, List.set_cons_zero, List.set_cons_succ]
  refine take_lawH 10 (some 14) (.pointer (some ⟨w.heap.size, 3, none⟩)) rfl rfl (by kernel_rfl) (by kernel_rfl) (by kernel_rfl) (fun _ _ _ h => h) (Or.inl ⟨by rfl, fun w' hw' => by go_simp⟩) hS ?_
  simp only [Act.put, List.setIfInBounds_toArray, List.set_cons_zero, List.set_cons_succ]
  refine take_lawH 11 (some 15) (.int .u32 l) rfl rfl (by kernel_rfl) (by kernel_rfl) (by kernel_rfl) (fun _ _ _ h => h) (Or.inl ⟨by rfl, fun w' hw' => by exact exec_loadN 55 (.tmp 14) rfl _ rfl _ _ (ld_u32 ((HV.out.below hw' s1).cell 3 _ rfl))⟩) hS ?_
  simp only [Act.put, List.setIfInBounds_toArray, List.set_cons_zero, List.set_cons_succ]
  refine take_lawH 12 (some 16) (.int .u64 l) rfl rfl (by kernel_rfl) (by kernel_rfl) (by kernel_rfl) (fun _ _ _ h => h) (Or.inl ⟨by rfl, fun w' hw' => by go_simp⟩) hS ?_
  simp only [Act.put, List.setIfInBounds_toArray, List.set_cons_zero, List.set_cons_succ]
  refine wpAnyH_ready (rs := [9, 13]) (by kernel_rfl) (by simp) ?_
  refine AllReadyH.cons rfl (fun K hK => ?_) (AllReadyH.cons rfl (fun K hK => ?_) AllReadyH.nil)
  · refine step_lit4 _ rfl (some 13) rfl (.tmp 6) (.tmp 9) (.tmp 12) (.const (.int .u8 0)) rfl k n c 0 rfl rfl rfl rfl ?_
    intro lv x2 y9 hb
    have OL : Hid (Own w1.heap.size x2 lv [k, n, c, 0]) := own_less y9 hS.size
    have hS : Below w1.heap.size w1 x2 := hS.trans (hb.mono hS.size)
    clear hb y9
    refine hK.out _ _ hS (fun _ => ?_)
    simp only [Act.put, List.setIfInBounds_toArray, List.set_cons_zero, List.set_cons_succ]
    clear hK K
    refine wpAnyH_ready (rs := [13]) (by kernel_rfl) (by simp) ?_
    refine AllReadyH.cons rfl (fun K hK => ?_) AllReadyH.nil
    refine step_callW _ (by rfl) (some 17) rfl 66 #[.tmp 16, .const (.int .i64 4)] #[25, 3] rfl (fun q w' => by rfl) #[.int .u64 l, .int .i64 4] (by simp only [List.map_toArray, List.map_cons, List.map_nil]; rfl) (fun u w' => (Byt w' u X4) ∧ Below x2.heap.size x2 w') ?_ ?_
    · exact S4.out x2
    rintro bv x3 ⟨y9, hb⟩
    have OL : Hid (Own w1.heap.size x3 lv [k, n, c, 0]) := own_low OL.out hb
    have YB : Hid (Byt x3 bv X4) := y9
    have hS : Below w1.heap.size w1 x3 := hS.trans (hb.mono hS.size)
    clear hb y9
    refine hK.out _ _ hS (fun _ => ?_)
    simp only [Act.put, List.setIfInBounds_toArray, List.set_cons_zero, List.set_cons_succ]
    clear hK K
    refine wpAnyH_ready (rs := [14]) (by kernel_rfl) (by simp) ?_
    refine AllReadyH.cons rfl (fun K hK => ?_) AllReadyH.nil
    refine step_pushs _ rfl (some 18) rfl (.tmp 13) (.tmp 17) rfl w1.heap.size hS.size _ _ [k, n, c, 0] X4 rfl rfl OL.out YB.out (by simp) (by have := LN.out; omega) ?_
    intro pv x4 y9 hb
    have OP : Hid (Own w1.heap.size x4 pv ([k, n, c, 0] ++ X4)) := y9
    have hS : Below w1.heap.size w1 x4 := hS.trans hb
    clear hb y9
    refine hK.out _ _ hS (fun _ => ?_)
    simp only [Act.put, List.setIfInBounds_toArray, List.set_cons_zero, List.set_cons_succ]
    clear hK K
    refine take_lawH 15 (some 3) (pv) rfl rfl (by kernel_rfl) (by kernel_rfl) (by kernel_rfl) (fun _ _ _ h => h) (Or.inl ⟨by rfl, fun w' hw' => by rfl⟩) hS ?_
    simp only [Act.put, List.setIfInBounds_toArray, List.set_cons_zero, List.set_cons_succ]
    refine wpAnyH_done (by kernel_rfl) ?_ _
    have HV : Hid (Vr x4 w.heap.size (hv k n c l e t)) := HV.out.below hS s1
    have BB : Hid (Below w.heap.size w x4) := B1.trans (hS.mono (by omega))
    have z9 : w1.heap.size ≤ x4.heap.size := hS.size
    have c4 := HV.out.cell 4 _ rfl
    clear hS
    have t1 : (0 : Nat) = 0 := rfl
    go_wp2_with (first
      | (have q4 := t4; at_builtin; refine pushs_law _ rfl (.tmp 24) (.tmp 27) rfl w1.heap.size (by omega) _ _ _ X9 rfl rfl OP.out Y9.out (by have := LN.out; simp; omega) ?_; intro v8 w8 o8 B8; have OP : Hid (Own w1.heap.size w8 v8 (([k, n, c, 0] ++ X4 ++ X8) ++ X9)) := o8; have BB : Hid (Below w.heap.size w w8) := BB.out.trans (B8.mono (by omega)); clear o8 B8 t4)
      | (have q3 := t3; go_at_call 66; refine (S9.out _).mono ?_; rintro e9 w7 ⟨v7, rfl, y7, B7⟩; have Y9 : Hid (Byt w7 v7 X9) := y7; have OP : Hid (Own w1.heap.size w7 v6 ([k, n, c, 0] ++ X4 ++ X8)) := own_low OP.out B7; have BB : Hid (Below w.heap.size w w7) := BB.out.trans (B7.mono BB.out.size); have z7 : w1.heap.size ≤ w7.heap.size := Nat.le_trans z6 B7.size; clear y7 B7 t3; have t4 : (0 : Nat) = 0 := rfl)
      | (have q2 := t2; at_builtin; refine pushs_law _ rfl (.tmp 19) (.tmp 22) rfl w1.heap.size (by omega) _ _ _ X8 rfl rfl OP.out Y8.out (by have := LN.out; simp; omega) ?_; intro v6 w6 o6 B6; have OP : Hid (Own w1.heap.size w6 v6 (([k, n, c, 0] ++ X4) ++ X8)) := o6; have c5 := (HV.out.below B6 s1).cell 5 _ rfl; have BB : Hid (Below w.heap.size w w6) := BB.out.trans (B6.mono (by omega)); have z6 : w1.heap.size ≤ w6.heap.size := Nat.le_trans z5 B6.size; clear o6 B6 t2; have t3 : (0 : Nat) = 0 := rfl)
      | (have q1 := t1; go_at_call 66; refine (S8.out _).mono ?_; rintro e9 w5 ⟨v5, rfl, y5, B5⟩; have Y8 : Hid (Byt w5 v5 X8) := y5; have OP : Hid (Own w1.heap.size w5 pv ([k, n, c, 0] ++ X4)) := own_low OP.out B5; have HV : Hid (Vr w5 w.heap.size (hv k n c l e t)) := HV.out.below B5 (by omega); have BB : Hid (Below w.heap.size w w5) := BB.out.trans (B5.mono BB.out.size); have z5 : w1.heap.size ≤ w5.heap.size := Nat.le_trans z9 B5.size; clear y5 B5 t1 c4; have t2 : (0 : Nat) = 0 := rfl))
    go_ret
    exact ⟨_, rfl, by have z := OP.out; rw [HE.out] at z; exact own_less z (by omega), BB.out⟩
  · refine step_callW _ (by rfl) (some 17) rfl 66 #[.tmp 16, .const (.int .i64 4)] #[25, 3] rfl (fun q w' => by rfl) #[.int .u64 l, .int .i64 4] (by simp only [List.map_toArray, List.map_cons, List.map_nil]; rfl) (fun u w' => (Byt w' u X4) ∧ Below x1.heap.size x1 w') ?_ ?_
    · exact S4.out x1
    rintro bv x5 ⟨y9, hb⟩
    have YB : Hid (Byt x5 bv X4) := y9
    have hS : Below w1.heap.size w1 x5 := hS.trans (hb.mono hS.size)
    clear hb y9
    refine hK.out _ _ hS (fun _ => ?_)
    simp only [Act.put, List.setIfInBounds_toArray, List.set_cons_zero, List.set_cons_succ]
    clear hK K
    refine wpAnyH_ready (rs := [9]) (by kernel_rfl) (by simp) ?_
    refine AllReadyH.cons rfl (fun K hK => ?_) AllReadyH.nil
    refine step_lit4 _ rfl (some 13) rfl (.tmp 6) (.tmp 9) (.tmp 12) (.const (.int .u8 0)) rfl k n c 0 rfl rfl rfl rfl ?_
    intro lv x6 y9 hb
    have YB : Hid (Byt x6 bv X4) := YB.out.below hb
    have OL : Hid (Own w1.heap.size x6 lv [k, n, c, 0]) := own_less y9 hS.size
    have hS : Below w1.heap.size w1 x6 := hS.trans (hb.mono hS.size)
    clear hb y9
    refine hK.out _ _ hS (fun _ => ?_)
    simp only [Act.put, List.setIfInBounds_toArray, List.set_cons_zero, List.set_cons_succ]
    clear hK K
    refine wpAnyH_ready (rs := [14]) (by kernel_rfl) (by simp) ?_
    refine AllReadyH.cons rfl (fun K hK => ?_) AllReadyH.nil
    refine step_pushs _ rfl (some 18) rfl (.tmp 13) (.tmp 17) rfl w1.heap.size hS.size _ _ [k, n, c, 0] X4 rfl rfl OL.out YB.out (by simp) (by have := LN.out; omega) ?_
    intro pv x7 y9 hb
    have OP : Hid (Own w1.heap.size x7 pv ([k, n, c, 0] ++ X4)) := y9
    have hS : Below w1.heap.size w1 x7 := hS.trans hb
    clear hb y9
    refine hK.out _ _ hS (fun _ => ?_)
    simp only [Act.put, List.setIfInBounds_toArray, List.set_cons_zero, List.set_cons_succ]
    clear hK K
    refine take_lawH 15 (some 3) (pv) rfl rfl (by kernel_rfl) (by kernel_rfl) (by kernel_rfl) (fun _ _ _ h => h) (Or.inl ⟨by rfl, fun w' hw' => by rfl⟩) hS ?_
    simp only [Act.put, List.setIfInBounds_toArray, List.set_cons_zero, List.set_cons_succ]
    refine wpAnyH_done (by kernel_rfl) ?_ _
    have HV : Hid (Vr x7 w.heap.size (hv k n c l e t)) := HV.out.below hS s1
    have BB : Hid (Below w.heap.size w x7) := B1.trans (hS.mono (by omega))
    have z9 : w1.heap.size ≤ x7.heap.size := hS.size
    have c4 := HV.out.cell 4 _ rfl
    clear hS
    have t1 : (0 : Nat) = 0 := rfl
    go_wp2_with (first
      | (have q4 := t4; at_builtin; refine pushs_law _ rfl (.tmp 24) (.tmp 27) rfl w1.heap.size (by omega) _ _ _ X9 rfl rfl OP.out Y9.out (by have := LN.out; simp; omega) ?_; intro v8 w8 o8 B8; have OP : Hid (Own w1.heap.size w8 v8 (([k, n, c, 0] ++ X4 ++ X8) ++ X9)) := o8; have BB : Hid (Below w.heap.size w w8) := BB.out.trans (B8.mono (by omega)); clear o8 B8 t4)
      | (have q3 := t3; go_at_call 66; refine (S9.out _).mono ?_; rintro e9 w7 ⟨v7, rfl, y7, B7⟩; have Y9 : Hid (Byt w7 v7 X9) := y7; have OP : Hid (Own w1.heap.size w7 v6 ([k, n, c, 0] ++ X4 ++ X8)) := own_low OP.out B7; have BB : Hid (Below w.heap.size w w7) := BB.out.trans (B7.mono BB.out.size); have z7 : w1.heap.size ≤ w7.heap.size := Nat.le_trans z6 B7.size; clear y7 B7 t3; have t4 : (0 : Nat) = 0 := rfl)
      | (have q2 := t2; at_builtin; refine pushs_law _ rfl (.tmp 19) (.tmp 22) rfl w1.heap.size (by omega) _ _ _ X8 rfl rfl OP.out Y8.out (by have := LN.out; simp; omega) ?_; intro v6 w6 o6 B6; have OP : Hid (Own w1.heap.size w6 v6 (([k, n, c, 0] ++ X4) ++ X8)) := o6; have c5 := (HV.out.below B6 s1).cell 5 _ rfl; have BB : Hid (Below w.heap.size w w6) := BB.out.trans (B6.mono (by omega)); have z6 : w1.heap.size ≤ w6.heap.size := Nat.le_trans z5 B6.size; clear o6 B6 t2; have t3 : (0 : Nat) = 0 := rfl)
      | (have q1 := t1; go_at_call 66; refine (S8.out _).mono ?_; rintro e9 w5 ⟨v5, rfl, y5, B5⟩; have Y8 : Hid (Byt w5 v5 X8) := y5; have OP : Hid (Own w1.heap.size w5 pv ([k, n, c, 0] ++ X4)) := own_low OP.out B5; have HV : Hid (Vr w5 w.heap.size (hv k n c l e t)) := HV.out.below B5 (by omega); have BB : Hid (Below w.heap.size w w5) := BB.out.trans (B5.mono BB.out.size); have z5 : w1.heap.size ≤ w5.heap.size := Nat.le_trans z9 B5.size; clear y5 B5 t1 c4; have t2 : (0 : Nat) = 0 := rfl))
    go_ret
    exact ⟨_, rfl, by have z := OP.out; rw [HE.out] at z; exact own_less z (by omega), BB.out⟩

set_option maxHeartbeats 4000000 in
theorem rend_any (k n c l e t : Int) (v : Value) (tag : List Int) (w : World) (hb' : Byt w v tag) (h : Rh k n c) (hl : 0 ≤ l ∧ l ≤ 4294967295) (he : 0 ≤ e ∧ e ≤ 18446744073709551615) (ht : 0 ≤ t ∧ t ≤ 18446744073709551615) (hn : tag.length = 0 ∨ tag.length = 32) :
    Calls Tryd.prog 40 #[.agg (hv k n c l e t).toArray, v] w fun x w' => ∃ v, x = .returned v ∧ Byt w' v (hend (hb k n c l e t) (tgo tag) (List.replicate 8 255)) ∧ Below w.heap.size w w' := by
  have SB : Hid (∀ w, Calls Tryd.prog 54 #[.agg (hv k n c l e t).toArray] w fun x w' => ∃ v, x = .returned v ∧ Own w.heap.size w' v (hb k n c l e t) ∧ Below w.heap.size w w') := fun w => rbytes_own k n c l e t w h hl he ht
  have AZ : Hid (AllB (hb k n c l e t)) := hb_all h l e t
  have LZ : Hid ((hb k n c l e t).length = 24 ∧ (inv (hb k n c l e t)).length = 24) := ⟨hb_len _ _ _ _ _ _, by rw [inv_len, hb_len]⟩
  have S8 : Hid (∀ w, Calls Tryd.prog 26 #[.int .u8 255, .int .i64 8] w fun e w' => ∃ v, e = .returned v ∧ Byt w' v (List.replicate 8 255) ∧ Below w.heap.size w w') := fun w => by
    have := rfill_any 255 8 w (by omega)
    rw [show clamp 8 65536 = 8 by decide] at this
    exact this
  have LT : Hid ((tgo tag).length = 32 ∧ (List.replicate 8 (255 : Int)).length = 8) := ⟨tgo_len hn, by simp⟩
  have HA : Hid (AllB (hend (hb k n c l e t) (tgo tag) (List.replicate 8 255))) := hend_all (hb_all h l e t) (tgo_all hb'.all) (allB_replicate 255 8 (by omega))
  have HE : Hid (((hb k n c l e t ++ inv (hb k n c l e t)) ++ tgo tag) ++ List.replicate 8 255 = hend (hb k n c l e t) (tgo tag) (List.replicate 8 255)) := by
    show _ = _
    simp [hend]
  have HTG : Hid ((tag.length = 0 ∧ ∀ w, Calls Tryd.prog 26 #[.int .u8 255, .int .i64 32] w fun e w' => ∃ v, e = .returned v ∧ Byt w' v (tgo tag) ∧ Below w.heap.size w w') ∨ (tag.length = 32 ∧ ∀ w', Below w.heap.size w w' → Byt w' v (tgo tag))) := by
    show _ ∨ _
    rcases hn with q | q
    · refine .inl ⟨q, fun w => ?_⟩
      have := rfill_any 255 32 w (by omega)
      rw [show clamp 32 65536 = 32 by decide] at this
      have eT : tgo tag = List.replicate 32 255 := by unfold tgo; rw [if_pos q]
      rw [eT]; exact this
    · refine .inr ⟨q, fun w' hw => ?_⟩
      have eT : tgo tag = tag := by unfold tgo; rw [if_neg (by omega)]
      rw [eT]; exact hb'.below hw
  obtain ⟨ao, cap, rfl, h1, h2, -⟩ := hb'
  generalize hend (hb k n c l e t) (tgo tag) (List.replicate 8 255) = ZZ at *
  generalize hb k n c l e t = Z at *
  generalize tgo tag = TG at *
  generalize List.replicate 8 (255 : Int) = M8 at *
  generalize tag.length = nt at *
  clear h hl he ht h1 h2 hn
  have t0 : (0 : Nat) = 0 := rfl
  go_enter Tryd.func40, Tryd.ntmps40
  go_wp2_with (have q0 := t0; refine box_lawC _ (hv k n c l e t) rfl ?_; intro w1 V1 B1 s1; have HV : Hid (Vr w1 w.heap.size (hv k n c l e t)) := V1; clear V1 t0)
  refine wp_region_held_drew (S := fun w' => Below w1.heap.size w1 w') (by kernel_rfl) (Below.refl _ _).drew (fun hS => ?_)
  obtain ⟨x1, hx0⟩ : ∃ x, x = w1.drew := ⟨_, rfl⟩
  rw [← hx0] at hS  ⊢
  clear hx0
  refine take_lawH 0 (some 6) (.agg (hv k n c l e t).toArray) rfl rfl (by kernel_rfl) (by kernel_rfl) (by kernel_rfl) (fun _ _ _ h => h) (Or.inl ⟨by rfl, fun w' hw' => by exact exec_loadN 57 (.tmp 2) rfl _ rfl _ _ (load_cells rowy_head (HV.out.below hw' s1).1)⟩) hS ?_
  simp only [Act.put, List.setIfInBounds_toArray, List.set_cons_zero, List.set_cons_succ]
  refine take_lawH 2 (some 8) (.agg (hv k n c l e t).toArray) rfl rfl (by kernel_rfl) (by kernel_rfl) (by kernel_rfl) (fun _ _ _ h => h) (Or.inl ⟨by rfl, fun w' hw' => by exact exec_loadN 57 (.tmp 2) rfl _ rfl _ _ (load_cells rowy_head (HV.out.below hw' s1).1)⟩) hS ?_
  simp only [Act.put, List.setIfInBounds_toArray, List.set_cons_zero, List.set_cons_succ]
  refine wpAnyH_ready (rs := [1]) (by kernel_rfl) (by simp) ?_
  refine AllReadyH.cons rfl (fun K hK => ?_) AllReadyH.nil
  have z1 : w1.heap.size ≤ x1.heap.size := hS.size
  refine step_callW _ (by rfl) (some 7) rfl 54 #[.tmp 6] #[57] rfl (fun q w' => by rfl) #[.agg (hv k n c l e t).toArray] (by simp only [List.map_toArray, List.map_cons, List.map_nil]; rfl) (fun u w' => (Own x1.heap.size w' u Z) ∧ Below x1.heap.size x1 w') ?_ ?_
  · exact SB.out x1
  rintro u1 x2 ⟨y9, hb⟩
  have O1 : Hid (Own x1.heap.size x2 u1 Z) := y9
  have hS : Below w1.heap.size w1 x2 := hS.trans (hb.mono hS.size)
  clear hb y9
  refine hK.out _ _ hS (fun _ => ?_)
  simp only [Act.put, List.setIfInBounds_toArray, List.set_cons_zero, List.set_cons_succ]
  clear hK K
  refine wpAnyH_ready (rs := [3]) (by kernel_rfl) (by simp) ?_
  refine AllReadyH.cons rfl (fun K hK => ?_) AllReadyH.nil
  refine step_callW _ (by rfl) (some 9) rfl 54 #[.tmp 8] #[57] rfl (fun q w' => by rfl) #[.agg (hv k n c l e t).toArray] (by simp only [List.map_toArray, List.map_cons, List.map_nil]; rfl) (fun u w' => (Own x2.heap.size w' u Z) ∧ Below x2.heap.size x2 w') ?_ ?_
  · exact SB.out x2
  rintro u2 x3 ⟨y9, hb⟩
  have O1 : Hid (Own x1.heap.size x3 u1 Z) := own_low O1.out hb
  have O2 : Hid (Own x2.heap.size x3 u2 Z) := y9
  have hS : Below w1.heap.size w1 x3 := hS.trans (hb.mono hS.size)
  clear hb y9
  refine hK.out _ _ hS (fun _ => ?_)
  simp only [Act.put, List.setIfInBounds_toArray, List.set_cons_zero, List.set_cons_succ]
  clear hK K
  refine wpAnyH_ready (rs := [4]) (by kernel_rfl) (by simp) ?_
  refine AllReadyH.cons rfl (fun K hK => ?_) AllReadyH.nil
  refine step_callW _ (by rfl) (some 10) rfl 55 #[.tmp 9] #[24] rfl (fun q w' => by rfl) #[u2] (by simp only [List.map_toArray, List.map_cons, List.map_nil]; rfl) (fun u w' => (Byt w' u (inv Z)) ∧ Below x3.heap.size x3 w') ?_ ?_
  · exact (rinvert_any _ Z x3 (O2.out.byt AZ.out) (by have := LZ.out; omega))
  rintro u3 x4 ⟨y9, hb⟩
  have O1 : Hid (Own x1.heap.size x4 u1 Z) := own_low O1.out hb
  have O2 : Hid (Own x2.heap.size x4 u2 Z) := own_low O2.out hb
  have YI : Hid (Byt x4 u3 (inv Z)) := y9
  have hS : Below w1.heap.size w1 x4 := hS.trans (hb.mono hS.size)
  clear hb y9
  refine hK.out _ _ hS (fun _ => ?_)
  simp only [Act.put, List.setIfInBounds_toArray, List.set_cons_zero, List.set_cons_succ]
  clear hK K
  refine wpAnyH_ready (rs := [5]) (by kernel_rfl) (by simp) ?_
  refine AllReadyH.cons rfl (fun K hK => ?_) AllReadyH.nil
  refine step_pushs _ rfl (some 11) rfl (.tmp 7) (.tmp 10) rfl w1.heap.size hS.size _ _ Z (inv Z) rfl rfl (own_less O1.out z1) YI.out (by have := LZ.out; omega) (by have := LZ.out; omega) ?_
  intro pv x5 y9 hb
  have OP : Hid (Own w1.heap.size x5 pv (Z ++ inv Z)) := y9
  have hS : Below w1.heap.size w1 x5 := hS.trans hb
  clear hb y9
  refine hK.out _ _ hS (fun _ => ?_)
  simp only [Act.put, List.setIfInBounds_toArray, List.set_cons_zero, List.set_cons_succ]
  clear hK K
  refine take_lawH 6 (some 5) (pv) rfl rfl (by kernel_rfl) (by kernel_rfl) (by kernel_rfl) (fun _ _ _ h => h) (Or.inl ⟨by rfl, fun w' hw' => by rfl⟩) hS ?_
  simp only [Act.put, List.setIfInBounds_toArray, List.set_cons_zero, List.set_cons_succ]
  refine wpAnyH_done (by kernel_rfl) ?_ _
  have BB : Hid (Below w.heap.size w x5) := B1.trans (hS.mono (by omega))
  have z9 : w1.heap.size ≤ x5.heap.size := hS.size
  clear hS
  rcases HTG.out with ⟨q, SF⟩ | ⟨q, YF⟩
  · subst q
    have SF : Hid (∀ w, Calls Tryd.prog 26 #[.int .u8 255, .int .i64 32] w fun e w' => ∃ v, e = .returned v ∧ Byt w' v TG ∧ Below w.heap.size w w') := SF
    clear HTG
    have t1 : (0 : Nat) = 0 := rfl
    go_wp2_with (first
      | (have q4 := t4; at_builtin; refine pushs_law _ rfl (.tmp 19) (.tmp 20) rfl w1.heap.size (by omega) _ _ _ M8 rfl rfl OP.out YM.out (by have := LZ.out; have := LT.out; simp; omega) ?_; intro v8 w8 o8 B8; have OP : Hid (Own w1.heap.size w8 v8 (((Z ++ inv Z) ++ TG) ++ M8)) := o8; have BB : Hid (Below w.heap.size w w8) := BB.out.trans (B8.mono (by omega)); clear o8 B8 t4)
      | (have q3 := t3; go_at_call 26; refine (S8.out _).mono ?_; rintro e9 w7 ⟨v7, rfl, y7, B7⟩; have YM : Hid (Byt w7 v7 M8) := y7; have OP : Hid (Own w1.heap.size w7 v6 ((Z ++ inv Z) ++ TG)) := own_low OP.out B7; have BB : Hid (Below w.heap.size w w7) := BB.out.trans (B7.mono BB.out.size); have z7 : w1.heap.size ≤ w7.heap.size := Nat.le_trans z6 B7.size; clear y7 B7 t3; have t4 : (0 : Nat) = 0 := rfl)
      | (have q2 := t2; at_builtin; refine pushs_law _ rfl (.tmp 16) (.tmp 17) rfl w1.heap.size z5 _ _ _ TG rfl rfl OP.out YT.out (by have := LZ.out; have := LT.out; simp; omega) ?_; intro v6 w6 o6 B6; have OP : Hid (Own w1.heap.size w6 v6 ((Z ++ inv Z) ++ TG)) := o6; have BB : Hid (Below w.heap.size w w6) := BB.out.trans (B6.mono (by omega)); have z6 : w1.heap.size ≤ w6.heap.size := Nat.le_trans z5 B6.size; clear o6 B6 t2; have t3 : (0 : Nat) = 0 := rfl)
      | (have q1 := t1; go_at_call 26; refine (SF.out _).mono ?_; rintro e9 w5 ⟨v5, rfl, y5, B5⟩; have YT : Hid (Byt w5 v5 TG) := y5; have OP : Hid (Own w1.heap.size w5 pv (Z ++ inv Z)) := own_low OP.out B5; have BB : Hid (Below w.heap.size w w5) := BB.out.trans (B5.mono BB.out.size); have z5 : w1.heap.size ≤ w5.heap.size := Nat.le_trans z9 B5.size; clear y5 B5 t1; have t2 : (0 : Nat) = 0 := rfl))
    go_ret
    exact ⟨_, rfl, by have z := OP.out; rw [HE.out] at z; exact z.byt HA.out, BB.out⟩
  · subst q
    have YT : Hid (Byt x5 (.slice ao 32 cap) TG) := YF _ BB.out
    clear HTG YF
    have z5 := z9
    have t2 : (0 : Nat) = 0 := rfl
    go_wp2_with (first
      | (have q4 := t4; at_builtin; refine pushs_law _ rfl (.tmp 19) (.tmp 20) rfl w1.heap.size (by omega) _ _ _ M8 rfl rfl OP.out YM.out (by have := LZ.out; have := LT.out; simp; omega) ?_; intro v8 w8 o8 B8; have OP : Hid (Own w1.heap.size w8 v8 (((Z ++ inv Z) ++ TG) ++ M8)) := o8; have BB : Hid (Below w.heap.size w w8) := BB.out.trans (B8.mono (by omega)); clear o8 B8 t4)
      | (have q3 := t3; go_at_call 26; refine (S8.out _).mono ?_; rintro e9 w7 ⟨v7, rfl, y7, B7⟩; have YM : Hid (Byt w7 v7 M8) := y7; have OP : Hid (Own w1.heap.size w7 v6 ((Z ++ inv Z) ++ TG)) := own_low OP.out B7; have BB : Hid (Below w.heap.size w w7) := BB.out.trans (B7.mono BB.out.size); have z7 : w1.heap.size ≤ w7.heap.size := Nat.le_trans z6 B7.size; clear y7 B7 t3; have t4 : (0 : Nat) = 0 := rfl)
      | (have q2 := t2; at_builtin; refine pushs_law _ rfl (.tmp 16) (.tmp 17) rfl w1.heap.size z5 _ _ _ TG rfl rfl OP.out YT.out (by have := LZ.out; have := LT.out; simp; omega) ?_; intro v6 w6 o6 B6; have OP : Hid (Own w1.heap.size w6 v6 ((Z ++ inv Z) ++ TG)) := o6; have BB : Hid (Below w.heap.size w w6) := BB.out.trans (B6.mono (by omega)); have z6 : w1.heap.size ≤ w6.heap.size := Nat.le_trans z5 B6.size; clear o6 B6 t2; have t3 : (0 : Nat) = 0 := rfl))
    go_ret
    exact ⟨_, rfl, by have z := OP.out; rw [HE.out] at z; exact z.byt HA.out, BB.out⟩
end Go.Proofs.YtahfcpdekjdceaaDoor.he

