/- What the reference's Right answers. No claim of its own. -/
import Derived.Test.YtedmmpognhpbdaaJRp
namespace Go.Proofs.Ytedmmpognhpbdaa.pm
open Go.RowKit Go.Proofs.Ytedmmpognhpbdaa.he
set_option maxRecDepth 20000

theorem zero_hd : (Try.prog.info? 35).map (fun i => (i.zero, i.size)) = some (some (.agg h0.cs.toArray), h0.cs.length) := by kernel_rfl
instance (s : Nat → Nat) (h : Hd) : Decidable (Rgt s h) := by unfold Rgt; infer_instance
theorem sz_cell {w : World} {b i : Nat} {s : Nat → Nat} {v : Value} (h : Vr w b (rmc s v)) (hi : i < 4) : w.cell? ⟨b, i, none⟩ = some (.int .i64 (s i : Int)) := by
  rcases four hi with rfl | rfl | rfl | rfl
  · exact h.cell 0 _ rfl
  · exact h.cell 1 _ rfl
  · exact h.cell 2 _ rfl
  · exact h.cell 3 _ rfl
set_option maxHeartbeats 8000000 in
theorem rt_neg (s : Nat → Nat) (v : Value) (x : Sp) (w : World) (hn : x.h.n < 0) : Calls Try.prog 29 #[.agg (rmc s v).toArray, .agg x.cs.toArray] w fun e w' => e = .returned (.bool false) ∧ Below w.heap.size w w' := by
  have d1 : decide (x.h.n < 0) = true := decide_eq_true (by omega)
  have t0 : (0 : Nat) = 0 := rfl
  go_enter Try.func29, Try.ntmps29
  go_wp2_with (first
    | (have qq := t4; (with_reducible refine at_store ?_); refine store_lawC _ x.h.cs w2.heap.size 0 rfl rfl VZ.out.2 size_hd x.h.one ?_; intro w4 _ r9 h9 B9; have nx := six0 (w := w4) (b := w2.heap.size) (x := x.h) r9; have VM : Hid (Vr w4 w.heap.size (rmc s v)) := VM.out.below (BZ.out.trans B9) (range_lt VM.out.1 (Nat.succ_pos _)); have BB : Hid (Below w.heap.size w w4) := BB.out.trans ((BZ.out.trans B9).mono BB.out.size); clear r9 h9 B9 VZ BZ V1 t4)
    | (have qq := t3; (with_reducible refine at_alloc ?_); refine new_lawC _ _ zero_hd ?_; intro w3 X9 B9 _; have VZ : Hid (Vr w3 w2.heap.size h0.cs) := X9; have BZ : Hid (Below w2.heap.size w2 w3) := B9; clear X9 B9 t3; have t4 : (0 : Nat) = 0 := rfl)
    | (have qq := t2; refine load_law _ (by rfl) 35 (.tmp 6) rfl w1.heap.size 2 x.h.cs rfl rowy_hd (by have z := head_at V1.out.1; rwa [Nat.zero_add] at z) ?_; clear t2; have t3 : (0 : Nat) = 0 := rfl)
    | (have qq := t1; refine box_lawC _ x.cs rfl ?_; intro w2 X9 B9 _; have V1 : Hid (Vr w2 w1.heap.size x.cs) := X9; have VM : Hid (Vr w2 w.heap.size (rmc s v)) := VM.out.below B9 (range_lt VM.out.1 (Nat.succ_pos _)); have BB : Hid (Below w.heap.size w w2) := BB.out.trans (B9.mono BB.out.size); clear X9 B9 t1; have t2 : (0 : Nat) = 0 := rfl)
    | (have qq := t0; refine box_lawC _ (rmc s v) rfl ?_; intro w1 X9 B9 _; have VM : Hid (Vr w1 w.heap.size (rmc s v)) := X9; have BB : Hid (Below w.heap.size w w1) := B9; clear X9 B9 t0; have t1 : (0 : Nat) = 0 := rfl))
  go_quiet (fail)
  go_wp2
  go_ret
  exact ⟨rfl, below_dr BB.out _⟩
set_option maxHeartbeats 8000000 in
theorem rt_far (s : Nat → Nat) (v : Value) (x : Sp) (w : World) (hn : x.h.n > 3) : Calls Try.prog 29 #[.agg (rmc s v).toArray, .agg x.cs.toArray] w fun e w' => e = .returned (.bool false) ∧ Below w.heap.size w w' := by
  have d1 : decide (x.h.n < 0) = false := decide_eq_false (by omega)
  have d2 : decide (x.h.n > 3) = true := decide_eq_true (by omega)
  have t0 : (0 : Nat) = 0 := rfl
  go_enter Try.func29, Try.ntmps29
  go_wp2_with (first
    | (have qq := t4; (with_reducible refine at_store ?_); refine store_lawC _ x.h.cs w2.heap.size 0 rfl rfl VZ.out.2 size_hd x.h.one ?_; intro w4 _ r9 h9 B9; have nx := six0 (w := w4) (b := w2.heap.size) (x := x.h) r9; have VM : Hid (Vr w4 w.heap.size (rmc s v)) := VM.out.below (BZ.out.trans B9) (range_lt VM.out.1 (Nat.succ_pos _)); have BB : Hid (Below w.heap.size w w4) := BB.out.trans ((BZ.out.trans B9).mono BB.out.size); clear r9 h9 B9 VZ BZ V1 t4)
    | (have qq := t3; (with_reducible refine at_alloc ?_); refine new_lawC _ _ zero_hd ?_; intro w3 X9 B9 _; have VZ : Hid (Vr w3 w2.heap.size h0.cs) := X9; have BZ : Hid (Below w2.heap.size w2 w3) := B9; clear X9 B9 t3; have t4 : (0 : Nat) = 0 := rfl)
    | (have qq := t2; refine load_law _ (by rfl) 35 (.tmp 6) rfl w1.heap.size 2 x.h.cs rfl rowy_hd (by have z := head_at V1.out.1; rwa [Nat.zero_add] at z) ?_; clear t2; have t3 : (0 : Nat) = 0 := rfl)
    | (have qq := t1; refine box_lawC _ x.cs rfl ?_; intro w2 X9 B9 _; have V1 : Hid (Vr w2 w1.heap.size x.cs) := X9; have VM : Hid (Vr w2 w.heap.size (rmc s v)) := VM.out.below B9 (range_lt VM.out.1 (Nat.succ_pos _)); have BB : Hid (Below w.heap.size w w2) := BB.out.trans (B9.mono BB.out.size); clear X9 B9 t1; have t2 : (0 : Nat) = 0 := rfl)
    | (have qq := t0; refine box_lawC _ (rmc s v) rfl ?_; intro w1 X9 B9 _; have VM : Hid (Vr w1 w.heap.size (rmc s v)) := X9; have BB : Hid (Below w.heap.size w w1) := B9; clear X9 B9 t0; have t1 : (0 : Nat) = 0 := rfl))
  go_quiet (fail)
  go_wp2
  go_ret
  exact ⟨rfl, below_dr BB.out _⟩
set_option maxHeartbeats 8000000 in
theorem rt_kind (s : Nat → Nat) (v : Value) (x : Sp) (w : World) (i : Nat) (hn : x.h.n = (i : Int)) (hi : i < 4) (k1 : ¬ x.h.k = 1) (k2 : ¬ x.h.k = 2) : Calls Try.prog 29 #[.agg (rmc s v).toArray, .agg x.cs.toArray] w fun e w' => e = .returned (.bool false) ∧ Below w.heap.size w w' := by
  have d1 : decide ((i : Int) < 0) = false := decide_eq_false (by omega)
  have d2 : decide ((i : Int) > 3) = false := decide_eq_false (by omega)
  have i0 : (0 : Int) ≤ (i : Int) := by omega
  have i4 : (i : Int) < 4 := by omega
  have e1 : (x.h.k != 1) = true := by simp [k1]
  have e2 : (x.h.k != 2) = true := by simp [k2]
  clear k1 k2
  have t0 : (0 : Nat) = 0 := rfl
  go_enter Try.func29, Try.ntmps29
  go_wp2_with (first
    | (have qq := t4; (with_reducible refine at_store ?_); refine store_lawC _ x.h.cs w2.heap.size 0 rfl rfl VZ.out.2 size_hd x.h.one ?_; intro w4 _ r9 h9 B9; have nx := six0 (w := w4) (b := w2.heap.size) (x := x.h) r9; have VM : Hid (Vr w4 w.heap.size (rmc s v)) := VM.out.below (BZ.out.trans B9) (range_lt VM.out.1 (Nat.succ_pos _)); have BB : Hid (Below w.heap.size w w4) := BB.out.trans ((BZ.out.trans B9).mono BB.out.size); clear r9 h9 B9 VZ BZ V1 t4)
    | (have qq := t3; (with_reducible refine at_alloc ?_); refine new_lawC _ _ zero_hd ?_; intro w3 X9 B9 _; have VZ : Hid (Vr w3 w2.heap.size h0.cs) := X9; have BZ : Hid (Below w2.heap.size w2 w3) := B9; clear X9 B9 t3; have t4 : (0 : Nat) = 0 := rfl)
    | (have qq := t2; refine load_law _ (by rfl) 35 (.tmp 6) rfl w1.heap.size 2 x.h.cs rfl rowy_hd (by have z := head_at V1.out.1; rwa [Nat.zero_add] at z) ?_; clear t2; have t3 : (0 : Nat) = 0 := rfl)
    | (have qq := t1; refine box_lawC _ x.cs rfl ?_; intro w2 X9 B9 _; have V1 : Hid (Vr w2 w1.heap.size x.cs) := X9; have VM : Hid (Vr w2 w.heap.size (rmc s v)) := VM.out.below B9 (range_lt VM.out.1 (Nat.succ_pos _)); have BB : Hid (Below w.heap.size w w2) := BB.out.trans (B9.mono BB.out.size); clear X9 B9 t1; have t2 : (0 : Nat) = 0 := rfl)
    | (have qq := t0; refine box_lawC _ (rmc s v) rfl ?_; intro w1 X9 B9 _; have VM : Hid (Vr w1 w.heap.size (rmc s v)) := X9; have BB : Hid (Below w.heap.size w w1) := B9; clear X9 B9 t0; have t1 : (0 : Nat) = 0 := rfl))
  have nz := sz_cell VM.out hi
  rw [hn] at nx
  go_quiet (fail)
  go_wp2
  go_ret
  exact ⟨rfl, below_dr BB.out _⟩
set_option maxHeartbeats 8000000 in
theorem rt_few1 (s : Nat → Nat) (v : Value) (x : Sp) (w : World) (i : Nat) (hn : x.h.n = (i : Int)) (hi : i < 4) (k1 : x.h.k = 1) (hc : x.h.c < 1) : Calls Try.prog 29 #[.agg (rmc s v).toArray, .agg x.cs.toArray] w fun e w' => e = .returned (.bool false) ∧ Below w.heap.size w w' := by
  have d1 : decide ((i : Int) < 0) = false := decide_eq_false (by omega)
  have d2 : decide ((i : Int) > 3) = false := decide_eq_false (by omega)
  have i0 : (0 : Int) ≤ (i : Int) := by omega
  have i4 : (i : Int) < 4 := by omega
  have e1 : (x.h.k != 1) = false := by simp [k1]
  clear k1
  have d3 : decide (x.h.c < 1) = true := decide_eq_true (by omega)
  have t0 : (0 : Nat) = 0 := rfl
  go_enter Try.func29, Try.ntmps29
  go_wp2_with (first
    | (have qq := t4; (with_reducible refine at_store ?_); refine store_lawC _ x.h.cs w2.heap.size 0 rfl rfl VZ.out.2 size_hd x.h.one ?_; intro w4 _ r9 h9 B9; have nx := six0 (w := w4) (b := w2.heap.size) (x := x.h) r9; have VM : Hid (Vr w4 w.heap.size (rmc s v)) := VM.out.below (BZ.out.trans B9) (range_lt VM.out.1 (Nat.succ_pos _)); have BB : Hid (Below w.heap.size w w4) := BB.out.trans ((BZ.out.trans B9).mono BB.out.size); clear r9 h9 B9 VZ BZ V1 t4)
    | (have qq := t3; (with_reducible refine at_alloc ?_); refine new_lawC _ _ zero_hd ?_; intro w3 X9 B9 _; have VZ : Hid (Vr w3 w2.heap.size h0.cs) := X9; have BZ : Hid (Below w2.heap.size w2 w3) := B9; clear X9 B9 t3; have t4 : (0 : Nat) = 0 := rfl)
    | (have qq := t2; refine load_law _ (by rfl) 35 (.tmp 6) rfl w1.heap.size 2 x.h.cs rfl rowy_hd (by have z := head_at V1.out.1; rwa [Nat.zero_add] at z) ?_; clear t2; have t3 : (0 : Nat) = 0 := rfl)
    | (have qq := t1; refine box_lawC _ x.cs rfl ?_; intro w2 X9 B9 _; have V1 : Hid (Vr w2 w1.heap.size x.cs) := X9; have VM : Hid (Vr w2 w.heap.size (rmc s v)) := VM.out.below B9 (range_lt VM.out.1 (Nat.succ_pos _)); have BB : Hid (Below w.heap.size w w2) := BB.out.trans (B9.mono BB.out.size); clear X9 B9 t1; have t2 : (0 : Nat) = 0 := rfl)
    | (have qq := t0; refine box_lawC _ (rmc s v) rfl ?_; intro w1 X9 B9 _; have VM : Hid (Vr w1 w.heap.size (rmc s v)) := X9; have BB : Hid (Below w.heap.size w w1) := B9; clear X9 B9 t0; have t1 : (0 : Nat) = 0 := rfl))
  have nz := sz_cell VM.out hi
  rw [hn] at nx
  go_quiet (fail)
  go_wp2
  go_ret
  exact ⟨rfl, below_dr BB.out _⟩
set_option maxHeartbeats 8000000 in
theorem rt_many1 (s : Nat → Nat) (v : Value) (x : Sp) (w : World) (i : Nat) (hn : x.h.n = (i : Int)) (hi : i < 4) (k1 : x.h.k = 1) (hc : ¬ x.h.c < 1) (hd : x.h.c > (s i : Int)) : Calls Try.prog 29 #[.agg (rmc s v).toArray, .agg x.cs.toArray] w fun e w' => e = .returned (.bool false) ∧ Below w.heap.size w w' := by
  have d1 : decide ((i : Int) < 0) = false := decide_eq_false (by omega)
  have d2 : decide ((i : Int) > 3) = false := decide_eq_false (by omega)
  have i0 : (0 : Int) ≤ (i : Int) := by omega
  have i4 : (i : Int) < 4 := by omega
  have e1 : (x.h.k != 1) = false := by simp [k1]
  clear k1
  have d3 : decide (x.h.c < 1) = false := decide_eq_false (by omega)
  have d4 : decide (x.h.c > (s i : Int)) = true := decide_eq_true (by omega)
  have t0 : (0 : Nat) = 0 := rfl
  go_enter Try.func29, Try.ntmps29
  go_wp2_with (first
    | (have qq := t4; (with_reducible refine at_store ?_); refine store_lawC _ x.h.cs w2.heap.size 0 rfl rfl VZ.out.2 size_hd x.h.one ?_; intro w4 _ r9 h9 B9; have nx := six0 (w := w4) (b := w2.heap.size) (x := x.h) r9; have VM : Hid (Vr w4 w.heap.size (rmc s v)) := VM.out.below (BZ.out.trans B9) (range_lt VM.out.1 (Nat.succ_pos _)); have BB : Hid (Below w.heap.size w w4) := BB.out.trans ((BZ.out.trans B9).mono BB.out.size); clear r9 h9 B9 VZ BZ V1 t4)
    | (have qq := t3; (with_reducible refine at_alloc ?_); refine new_lawC _ _ zero_hd ?_; intro w3 X9 B9 _; have VZ : Hid (Vr w3 w2.heap.size h0.cs) := X9; have BZ : Hid (Below w2.heap.size w2 w3) := B9; clear X9 B9 t3; have t4 : (0 : Nat) = 0 := rfl)
    | (have qq := t2; refine load_law _ (by rfl) 35 (.tmp 6) rfl w1.heap.size 2 x.h.cs rfl rowy_hd (by have z := head_at V1.out.1; rwa [Nat.zero_add] at z) ?_; clear t2; have t3 : (0 : Nat) = 0 := rfl)
    | (have qq := t1; refine box_lawC _ x.cs rfl ?_; intro w2 X9 B9 _; have V1 : Hid (Vr w2 w1.heap.size x.cs) := X9; have VM : Hid (Vr w2 w.heap.size (rmc s v)) := VM.out.below B9 (range_lt VM.out.1 (Nat.succ_pos _)); have BB : Hid (Below w.heap.size w w2) := BB.out.trans (B9.mono BB.out.size); clear X9 B9 t1; have t2 : (0 : Nat) = 0 := rfl)
    | (have qq := t0; refine box_lawC _ (rmc s v) rfl ?_; intro w1 X9 B9 _; have VM : Hid (Vr w1 w.heap.size (rmc s v)) := X9; have BB : Hid (Below w.heap.size w w1) := B9; clear X9 B9 t0; have t1 : (0 : Nat) = 0 := rfl))
  have nz := sz_cell VM.out hi
  rw [hn] at nx
  go_quiet (fail)
  go_wp2
  go_ret
  exact ⟨rfl, below_dr BB.out _⟩
set_option maxHeartbeats 8000000 in
theorem rt_in1 (s : Nat → Nat) (v : Value) (x : Sp) (w : World) (i : Nat) (hn : x.h.n = (i : Int)) (hi : i < 4) (k1 : x.h.k = 1) (hc : ¬ x.h.c < 1) (hd : ¬ x.h.c > (s i : Int)) (hz : s i ≤ 65535) (hl : Hok x.h) : Calls Try.prog 29 #[.agg (rmc s v).toArray, .agg x.cs.toArray] w fun e w' => e = .returned (.bool (decide (x.h.l ≤ (s i : Int) - x.h.c))) ∧ Below w.heap.size w w' := by
  have d1 : decide ((i : Int) < 0) = false := decide_eq_false (by omega)
  have d2 : decide ((i : Int) > 3) = false := decide_eq_false (by omega)
  have i0 : (0 : Int) ≤ (i : Int) := by omega
  have i4 : (i : Int) < 4 := by omega
  have e1 : (x.h.k != 1) = false := by simp [k1]
  clear k1
  have d3 : decide (x.h.c < 1) = false := decide_eq_false (by omega)
  have d4 : decide (x.h.c > (s i : Int)) = false := decide_eq_false (by omega)
  have u1 : IntKind.i64.wrap x.h.l = x.h.l := by have := hl.1; have := hl.2; rw [IntKind.wrap_i64]; omega
  have u2 : IntKind.i64.wrap ((s i : Int) - x.h.c) = (s i : Int) - x.h.c := by rw [IntKind.wrap_i64]; omega
  clear hl
  have t0 : (0 : Nat) = 0 := rfl
  go_enter Try.func29, Try.ntmps29
  go_wp2_with (first
    | (have qq := t4; (with_reducible refine at_store ?_); refine store_lawC _ x.h.cs w2.heap.size 0 rfl rfl VZ.out.2 size_hd x.h.one ?_; intro w4 _ r9 h9 B9; have nx := six0 (w := w4) (b := w2.heap.size) (x := x.h) r9; have VM : Hid (Vr w4 w.heap.size (rmc s v)) := VM.out.below (BZ.out.trans B9) (range_lt VM.out.1 (Nat.succ_pos _)); have BB : Hid (Below w.heap.size w w4) := BB.out.trans ((BZ.out.trans B9).mono BB.out.size); clear r9 h9 B9 VZ BZ V1 t4)
    | (have qq := t3; (with_reducible refine at_alloc ?_); refine new_lawC _ _ zero_hd ?_; intro w3 X9 B9 _; have VZ : Hid (Vr w3 w2.heap.size h0.cs) := X9; have BZ : Hid (Below w2.heap.size w2 w3) := B9; clear X9 B9 t3; have t4 : (0 : Nat) = 0 := rfl)
    | (have qq := t2; refine load_law _ (by rfl) 35 (.tmp 6) rfl w1.heap.size 2 x.h.cs rfl rowy_hd (by have z := head_at V1.out.1; rwa [Nat.zero_add] at z) ?_; clear t2; have t3 : (0 : Nat) = 0 := rfl)
    | (have qq := t1; refine box_lawC _ x.cs rfl ?_; intro w2 X9 B9 _; have V1 : Hid (Vr w2 w1.heap.size x.cs) := X9; have VM : Hid (Vr w2 w.heap.size (rmc s v)) := VM.out.below B9 (range_lt VM.out.1 (Nat.succ_pos _)); have BB : Hid (Below w.heap.size w w2) := BB.out.trans (B9.mono BB.out.size); clear X9 B9 t1; have t2 : (0 : Nat) = 0 := rfl)
    | (have qq := t0; refine box_lawC _ (rmc s v) rfl ?_; intro w1 X9 B9 _; have VM : Hid (Vr w1 w.heap.size (rmc s v)) := X9; have BB : Hid (Below w.heap.size w w1) := B9; clear X9 B9 t0; have t1 : (0 : Nat) = 0 := rfl))
  have nz := sz_cell VM.out hi
  rw [hn] at nx
  go_quiet (fail)
  go_wp2
  go_quiet (fail)
  go_wp2
  go_ret
  exact ⟨rfl, below_dr (below_dr BB.out _) _⟩
set_option maxHeartbeats 8000000 in
theorem rt_few2 (s : Nat → Nat) (v : Value) (x : Sp) (w : World) (i : Nat) (hn : x.h.n = (i : Int)) (hi : i < 4) (k1 : x.h.k = 2) (hc : x.h.c < 1) : Calls Try.prog 29 #[.agg (rmc s v).toArray, .agg x.cs.toArray] w fun e w' => e = .returned (.bool false) ∧ Below w.heap.size w w' := by
  have d1 : decide ((i : Int) < 0) = false := decide_eq_false (by omega)
  have d2 : decide ((i : Int) > 3) = false := decide_eq_false (by omega)
  have i0 : (0 : Int) ≤ (i : Int) := by omega
  have i4 : (i : Int) < 4 := by omega
  have e1 : (x.h.k != 1) = true := by simp [k1]
  have e2 : (x.h.k != 2) = false := by simp [k1]
  clear k1
  have d3 : decide (x.h.c < 1) = true := decide_eq_true (by omega)
  have t0 : (0 : Nat) = 0 := rfl
  go_enter Try.func29, Try.ntmps29
  go_wp2_with (first
    | (have qq := t4; (with_reducible refine at_store ?_); refine store_lawC _ x.h.cs w2.heap.size 0 rfl rfl VZ.out.2 size_hd x.h.one ?_; intro w4 _ r9 h9 B9; have nx := six0 (w := w4) (b := w2.heap.size) (x := x.h) r9; have VM : Hid (Vr w4 w.heap.size (rmc s v)) := VM.out.below (BZ.out.trans B9) (range_lt VM.out.1 (Nat.succ_pos _)); have BB : Hid (Below w.heap.size w w4) := BB.out.trans ((BZ.out.trans B9).mono BB.out.size); clear r9 h9 B9 VZ BZ V1 t4)
    | (have qq := t3; (with_reducible refine at_alloc ?_); refine new_lawC _ _ zero_hd ?_; intro w3 X9 B9 _; have VZ : Hid (Vr w3 w2.heap.size h0.cs) := X9; have BZ : Hid (Below w2.heap.size w2 w3) := B9; clear X9 B9 t3; have t4 : (0 : Nat) = 0 := rfl)
    | (have qq := t2; refine load_law _ (by rfl) 35 (.tmp 6) rfl w1.heap.size 2 x.h.cs rfl rowy_hd (by have z := head_at V1.out.1; rwa [Nat.zero_add] at z) ?_; clear t2; have t3 : (0 : Nat) = 0 := rfl)
    | (have qq := t1; refine box_lawC _ x.cs rfl ?_; intro w2 X9 B9 _; have V1 : Hid (Vr w2 w1.heap.size x.cs) := X9; have VM : Hid (Vr w2 w.heap.size (rmc s v)) := VM.out.below B9 (range_lt VM.out.1 (Nat.succ_pos _)); have BB : Hid (Below w.heap.size w w2) := BB.out.trans (B9.mono BB.out.size); clear X9 B9 t1; have t2 : (0 : Nat) = 0 := rfl)
    | (have qq := t0; refine box_lawC _ (rmc s v) rfl ?_; intro w1 X9 B9 _; have VM : Hid (Vr w1 w.heap.size (rmc s v)) := X9; have BB : Hid (Below w.heap.size w w1) := B9; clear X9 B9 t0; have t1 : (0 : Nat) = 0 := rfl))
  have nz := sz_cell VM.out hi
  rw [hn] at nx
  go_quiet (fail)
  go_wp2
  go_ret
  exact ⟨rfl, below_dr BB.out _⟩
set_option maxHeartbeats 8000000 in
theorem rt_many2 (s : Nat → Nat) (v : Value) (x : Sp) (w : World) (i : Nat) (hn : x.h.n = (i : Int)) (hi : i < 4) (k1 : x.h.k = 2) (hc : ¬ x.h.c < 1) (hd : x.h.c > (s i : Int)) : Calls Try.prog 29 #[.agg (rmc s v).toArray, .agg x.cs.toArray] w fun e w' => e = .returned (.bool false) ∧ Below w.heap.size w w' := by
  have d1 : decide ((i : Int) < 0) = false := decide_eq_false (by omega)
  have d2 : decide ((i : Int) > 3) = false := decide_eq_false (by omega)
  have i0 : (0 : Int) ≤ (i : Int) := by omega
  have i4 : (i : Int) < 4 := by omega
  have e1 : (x.h.k != 1) = true := by simp [k1]
  have e2 : (x.h.k != 2) = false := by simp [k1]
  clear k1
  have d3 : decide (x.h.c < 1) = false := decide_eq_false (by omega)
  have d4 : decide (x.h.c > (s i : Int)) = true := decide_eq_true (by omega)
  have t0 : (0 : Nat) = 0 := rfl
  go_enter Try.func29, Try.ntmps29
  go_wp2_with (first
    | (have qq := t4; (with_reducible refine at_store ?_); refine store_lawC _ x.h.cs w2.heap.size 0 rfl rfl VZ.out.2 size_hd x.h.one ?_; intro w4 _ r9 h9 B9; have nx := six0 (w := w4) (b := w2.heap.size) (x := x.h) r9; have VM : Hid (Vr w4 w.heap.size (rmc s v)) := VM.out.below (BZ.out.trans B9) (range_lt VM.out.1 (Nat.succ_pos _)); have BB : Hid (Below w.heap.size w w4) := BB.out.trans ((BZ.out.trans B9).mono BB.out.size); clear r9 h9 B9 VZ BZ V1 t4)
    | (have qq := t3; (with_reducible refine at_alloc ?_); refine new_lawC _ _ zero_hd ?_; intro w3 X9 B9 _; have VZ : Hid (Vr w3 w2.heap.size h0.cs) := X9; have BZ : Hid (Below w2.heap.size w2 w3) := B9; clear X9 B9 t3; have t4 : (0 : Nat) = 0 := rfl)
    | (have qq := t2; refine load_law _ (by rfl) 35 (.tmp 6) rfl w1.heap.size 2 x.h.cs rfl rowy_hd (by have z := head_at V1.out.1; rwa [Nat.zero_add] at z) ?_; clear t2; have t3 : (0 : Nat) = 0 := rfl)
    | (have qq := t1; refine box_lawC _ x.cs rfl ?_; intro w2 X9 B9 _; have V1 : Hid (Vr w2 w1.heap.size x.cs) := X9; have VM : Hid (Vr w2 w.heap.size (rmc s v)) := VM.out.below B9 (range_lt VM.out.1 (Nat.succ_pos _)); have BB : Hid (Below w.heap.size w w2) := BB.out.trans (B9.mono BB.out.size); clear X9 B9 t1; have t2 : (0 : Nat) = 0 := rfl)
    | (have qq := t0; refine box_lawC _ (rmc s v) rfl ?_; intro w1 X9 B9 _; have VM : Hid (Vr w1 w.heap.size (rmc s v)) := X9; have BB : Hid (Below w.heap.size w w1) := B9; clear X9 B9 t0; have t1 : (0 : Nat) = 0 := rfl))
  have nz := sz_cell VM.out hi
  rw [hn] at nx
  go_quiet (fail)
  go_wp2
  go_ret
  exact ⟨rfl, below_dr BB.out _⟩
set_option maxHeartbeats 8000000 in
theorem rt_in2 (s : Nat → Nat) (v : Value) (x : Sp) (w : World) (i : Nat) (hn : x.h.n = (i : Int)) (hi : i < 4) (k1 : x.h.k = 2) (hc : ¬ x.h.c < 1) (hd : ¬ x.h.c > (s i : Int)) (hz : s i ≤ 65535) (hl : Hok x.h) : Calls Try.prog 29 #[.agg (rmc s v).toArray, .agg x.cs.toArray] w fun e w' => e = .returned (.bool (decide (x.h.l ≤ (s i : Int) - x.h.c))) ∧ Below w.heap.size w w' := by
  have d1 : decide ((i : Int) < 0) = false := decide_eq_false (by omega)
  have d2 : decide ((i : Int) > 3) = false := decide_eq_false (by omega)
  have i0 : (0 : Int) ≤ (i : Int) := by omega
  have i4 : (i : Int) < 4 := by omega
  have e1 : (x.h.k != 1) = true := by simp [k1]
  have e2 : (x.h.k != 2) = false := by simp [k1]
  clear k1
  have d3 : decide (x.h.c < 1) = false := decide_eq_false (by omega)
  have d4 : decide (x.h.c > (s i : Int)) = false := decide_eq_false (by omega)
  have u1 : IntKind.i64.wrap x.h.l = x.h.l := by have := hl.1; have := hl.2; rw [IntKind.wrap_i64]; omega
  have u2 : IntKind.i64.wrap ((s i : Int) - x.h.c) = (s i : Int) - x.h.c := by rw [IntKind.wrap_i64]; omega
  clear hl
  have t0 : (0 : Nat) = 0 := rfl
  go_enter Try.func29, Try.ntmps29
  go_wp2_with (first
    | (have qq := t4; (with_reducible refine at_store ?_); refine store_lawC _ x.h.cs w2.heap.size 0 rfl rfl VZ.out.2 size_hd x.h.one ?_; intro w4 _ r9 h9 B9; have nx := six0 (w := w4) (b := w2.heap.size) (x := x.h) r9; have VM : Hid (Vr w4 w.heap.size (rmc s v)) := VM.out.below (BZ.out.trans B9) (range_lt VM.out.1 (Nat.succ_pos _)); have BB : Hid (Below w.heap.size w w4) := BB.out.trans ((BZ.out.trans B9).mono BB.out.size); clear r9 h9 B9 VZ BZ V1 t4)
    | (have qq := t3; (with_reducible refine at_alloc ?_); refine new_lawC _ _ zero_hd ?_; intro w3 X9 B9 _; have VZ : Hid (Vr w3 w2.heap.size h0.cs) := X9; have BZ : Hid (Below w2.heap.size w2 w3) := B9; clear X9 B9 t3; have t4 : (0 : Nat) = 0 := rfl)
    | (have qq := t2; refine load_law _ (by rfl) 35 (.tmp 6) rfl w1.heap.size 2 x.h.cs rfl rowy_hd (by have z := head_at V1.out.1; rwa [Nat.zero_add] at z) ?_; clear t2; have t3 : (0 : Nat) = 0 := rfl)
    | (have qq := t1; refine box_lawC _ x.cs rfl ?_; intro w2 X9 B9 _; have V1 : Hid (Vr w2 w1.heap.size x.cs) := X9; have VM : Hid (Vr w2 w.heap.size (rmc s v)) := VM.out.below B9 (range_lt VM.out.1 (Nat.succ_pos _)); have BB : Hid (Below w.heap.size w w2) := BB.out.trans (B9.mono BB.out.size); clear X9 B9 t1; have t2 : (0 : Nat) = 0 := rfl)
    | (have qq := t0; refine box_lawC _ (rmc s v) rfl ?_; intro w1 X9 B9 _; have VM : Hid (Vr w1 w.heap.size (rmc s v)) := X9; have BB : Hid (Below w.heap.size w w1) := B9; clear X9 B9 t0; have t1 : (0 : Nat) = 0 := rfl))
  have nz := sz_cell VM.out hi
  rw [hn] at nx
  go_quiet (fail)
  go_wp2
  go_quiet (fail)
  go_wp2
  go_ret
  exact ⟨rfl, below_dr (below_dr BB.out _) _⟩
theorem rright_any (s : Nat → Nat) (v : Value) (x : Sp) (w : World) (hz : ∀ j, j < 4 → s j ≤ 65535) (hl : Hok x.h) : Calls Try.prog 29 #[.agg (rmc s v).toArray, .agg x.cs.toArray] w fun e w' => e = .returned (.bool (decide (Rgt s x.h))) ∧ Below w.heap.size w w' := by
  by_cases h1 : x.h.n < 0
  · rw [decide_eq_false (fun h : Rgt s x.h => by have h2 := h.2.1; have h3 := h.2.2.1; have : szn s x.h.n = 0 := (by unfold szn; rw [if_neg (by omega)]); omega)]
    exact rt_neg s v x w h1
  by_cases h2 : x.h.n > 3
  · rw [decide_eq_false (fun h : Rgt s x.h => by have h2 := h.2.1; have h3 := h.2.2.1; have : szn s x.h.n = 0 := (by unfold szn; rw [if_neg (by omega)]); omega)]
    exact rt_far s v x w h2
  obtain ⟨i, hn⟩ : ∃ i : Nat, x.h.n = (i : Int) := ⟨x.h.n.toNat, by omega⟩
  have hi : i < 4 := by omega
  have hs : szn s x.h.n = s i := by unfold szn; rw [if_pos (by omega), hn]; rfl
  have hzi := hz i hi
  by_cases k1 : x.h.k = 1
  · have hk : lk x.h.k = true := by rw [k1]; rfl
    by_cases hc : x.h.c < 1
    · rw [decide_eq_false (fun h : Rgt s x.h => by have := h.2.1; omega)]
      exact rt_few1 s v x w i hn hi k1 hc
    by_cases hd : x.h.c > (s i : Int)
    · rw [decide_eq_false (fun h : Rgt s x.h => by have := h.2.2.1; rw [hs] at this; omega)]
      exact rt_many1 s v x w i hn hi k1 hc hd
    have e : decide (Rgt s x.h) = decide (x.h.l ≤ (s i : Int) - x.h.c) := decide_eq_decide.2 ⟨fun h => by have := h.2.2.2; rw [hs] at this; omega, fun h => ⟨hk, by omega, by rw [hs]; omega, by rw [hs]; omega⟩⟩
    rw [e]
    exact rt_in1 s v x w i hn hi k1 hc hd hzi hl
  by_cases k2 : x.h.k = 2
  · have hk : lk x.h.k = true := by rw [k2]; rfl
    by_cases hc : x.h.c < 1
    · rw [decide_eq_false (fun h : Rgt s x.h => by have := h.2.1; omega)]
      exact rt_few2 s v x w i hn hi k2 hc
    by_cases hd : x.h.c > (s i : Int)
    · rw [decide_eq_false (fun h : Rgt s x.h => by have := h.2.2.1; rw [hs] at this; omega)]
      exact rt_many2 s v x w i hn hi k2 hc hd
    have e : decide (Rgt s x.h) = decide (x.h.l ≤ (s i : Int) - x.h.c) := decide_eq_decide.2 ⟨fun h => by have := h.2.2.2; rw [hs] at this; omega, fun h => ⟨hk, by omega, by rw [hs]; omega, by rw [hs]; omega⟩⟩
    rw [e]
    exact rt_in2 s v x w i hn hi k2 hc hd hzi hl
  · rw [decide_eq_false (fun h : Rgt s x.h => by have := h.1; unfold lk at this; simp [k1, k2] at this)]
    exact rt_kind s v x w i hn hi k1 k2
end Go.Proofs.Ytedmmpognhpbdaa.pm
