/- What the reference's less and Newer answer, and the law's own of. No claim of its own. -/
import Derived.Test.YtedmmpognhpbdaaJOpn
namespace Go.Proofs.Ytedmmpognhpbdaa.pm
open Go.RowKit Go.Proofs.Ytedmmpognhpbdaa.he
set_option maxRecDepth 20000

theorem rless_any (x y : Hd) (w : World) : Calls Try.prog 42 #[.agg x.cs.toArray, .agg y.cs.toArray] w fun e w' => e = .returned (.bool (hl x y)) ∧ Below w.heap.size w w' := by
  unfold hl
  by_cases he : x.e = y.e
  · rw [if_pos he]
    have e1 : (x.e == y.e) = true := beq_iff_eq.2 he
    have e2 : decide (x.e < y.e) = false := decide_eq_false (by omega)
    have e3 : ¬ x.e < y.e := by omega
    have t0 : (0 : Nat) = 0 := rfl
    go_enter Try.func42, Try.ntmps42
    go_wp2_with (first
      | (have qq := t1; refine box_lawC _ y.cs rfl ?_; intro w2 X2 B2 l2; have nx := six0 (X1.out.below B2 l1).1; have ny := six0 X2.1; have BB : Hid (Below w.heap.size w w2) := BB.out.trans (B2.mono BB.out.size); clear B2 X2 t1)
      | (have qq := t0; refine box_lawC _ x.cs rfl ?_; intro w1 X1_ B1 l1; have X1 : Hid (Vr w1 w.heap.size x.cs) := X1_; have BB : Hid (Below w.heap.size w w1) := B1; clear B1 X1_ t0; have t1 : (0 : Nat) = 0 := rfl))
    go_ret
    exact ⟨rfl, BB.out⟩
  · rw [if_neg he]
    have e1 : (x.e == y.e) = false := beq_eq_false_iff_ne.2 he
    by_cases hl : x.e < y.e
    · have e2 : decide (x.e < y.e) = true := decide_eq_true hl
      rw [e2]
      have t0 : (0 : Nat) = 0 := rfl
      go_enter Try.func42, Try.ntmps42
      go_wp2_with (first
        | (have qq := t1; refine box_lawC _ y.cs rfl ?_; intro w2 X2 B2 l2; have nx := six0 (X1.out.below B2 l1).1; have ny := six0 X2.1; have BB : Hid (Below w.heap.size w w2) := BB.out.trans (B2.mono BB.out.size); clear B2 X2 t1)
        | (have qq := t0; refine box_lawC _ x.cs rfl ?_; intro w1 X1_ B1 l1; have X1 : Hid (Vr w1 w.heap.size x.cs) := X1_; have BB : Hid (Below w.heap.size w w1) := B1; clear B1 X1_ t0; have t1 : (0 : Nat) = 0 := rfl))
      go_ret
      exact ⟨rfl, BB.out⟩
    · have e2 : decide (x.e < y.e) = false := decide_eq_false hl
      rw [e2]
      have t0 : (0 : Nat) = 0 := rfl
      go_enter Try.func42, Try.ntmps42
      go_wp2_with (first
        | (have qq := t1; refine box_lawC _ y.cs rfl ?_; intro w2 X2 B2 l2; have nx := six0 (X1.out.below B2 l1).1; have ny := six0 X2.1; have BB : Hid (Below w.heap.size w w2) := BB.out.trans (B2.mono BB.out.size); clear B2 X2 t1)
        | (have qq := t0; refine box_lawC _ x.cs rfl ?_; intro w1 X1_ B1 l1; have X1 : Hid (Vr w1 w.heap.size x.cs) := X1_; have BB : Hid (Below w.heap.size w w1) := B1; clear B1 X1_ t0; have t1 : (0 : Nat) = 0 := rfl))
      go_ret
      exact ⟨rfl, BB.out⟩
theorem rnewer_any (x y : Sp) (w : World) : Calls Try.prog 17 #[.agg x.cs.toArray, .agg y.cs.toArray] w fun e w' => e = .returned (.bool (nw x y)) ∧ Below w.heap.size w w' := by
  have S1 : Hid (∀ W, Calls Try.prog 42 #[.agg y.h.cs.toArray, .agg x.h.cs.toArray] W fun e w' => e = .returned (.bool (hl y.h x.h)) ∧ Below W.heap.size W w') := fun W => rless_any _ _ W
  have S2 : Hid (∀ W, Calls Try.prog 42 #[.agg x.h.cs.toArray, .agg y.h.cs.toArray] W fun e w' => e = .returned (.bool (hl x.h y.h)) ∧ Below W.heap.size W w') := fun W => rless_any _ _ W
  have S3 : Hid (∀ W, Calls Try.prog 42 #[.agg y.o.cs.toArray, .agg x.o.cs.toArray] W fun e w' => e = .returned (.bool (hl y.o x.o)) ∧ Below W.heap.size W w') := fun W => rless_any _ _ W
  unfold nw
  generalize hl y.h x.h = b1 at S1 ⊢
  generalize hl x.h y.h = b2 at S2 ⊢
  generalize hl y.o x.o = b3 at S3 ⊢
  have t0 : (0 : Nat) = 0 := rfl
  cases b1 with
  | true =>
    go_enter Try.func17, Try.ntmps17
    go_wp2_with (first
      | (have qq := t2; go_at_call 42; refine (S1.out _).mono ?_; rintro e w3 ⟨rfl, B3⟩; have BB : Hid (Below w.heap.size w w3) := BB.out.trans (B3.mono BB.out.size); clear B3 t2)
      | (have qq := t1; refine box_lawC _ y.cs rfl ?_; intro w2 X2 B2 l2; have nx := cells0 (X1.out.below B2 l1).1; have ny := cells0 X2.1; have BB : Hid (Below w.heap.size w w2) := BB.out.trans (B2.mono BB.out.size); clear B2 X2 t1; have t2 : (0 : Nat) = 0 := rfl)
      | (have qq := t0; refine box_lawC _ x.cs rfl ?_; intro w1 X1_ B1 l1; have X1 : Hid (Vr w1 w.heap.size x.cs) := X1_; have BB : Hid (Below w.heap.size w w1) := B1; clear B1 X1_ t0; have t1 : (0 : Nat) = 0 := rfl))
    go_ret
    exact ⟨rfl, BB.out⟩
  | false =>
    cases b2 with
    | true =>
      go_enter Try.func17, Try.ntmps17
      go_wp2_with (first
        | (have qq := t3; go_at_call 42; refine (S2.out _).mono ?_; rintro e w4 ⟨rfl, B3⟩; have BB : Hid (Below w.heap.size w w4) := BB.out.trans (B3.mono BB.out.size); clear B3 t3)
        | (have qq := t2; go_at_call 42; refine (S1.out _).mono ?_; rintro e w3 ⟨rfl, B3⟩; have VX : Hid (Vr w3 w.heap.size x.cs) := VX.out.below B3 (by omega); have VY : Hid (Vr w3 w1.heap.size y.cs) := VY.out.below B3 l2; have nx := cells0 VX.out.1; have ny := cells0 VY.out.1; have BB : Hid (Below w.heap.size w w3) := BB.out.trans (B3.mono BB.out.size); clear B3 t2; have t3 : (0 : Nat) = 0 := rfl)
        | (have qq := t1; refine box_lawC _ y.cs rfl ?_; intro w2 X2 B2 l2; have VX : Hid (Vr w2 w.heap.size x.cs) := X1.out.below B2 l1; have VY : Hid (Vr w2 w1.heap.size y.cs) := X2; have nx := cells0 VX.out.1; have ny := cells0 X2.1; have BB : Hid (Below w.heap.size w w2) := BB.out.trans (B2.mono BB.out.size); clear B2 X2 t1; have t2 : (0 : Nat) = 0 := rfl)
        | (have qq := t0; refine box_lawC _ x.cs rfl ?_; intro w1 X1_ B1 l1; have X1 : Hid (Vr w1 w.heap.size x.cs) := X1_; have BB : Hid (Below w.heap.size w w1) := B1; clear B1 X1_ t0; have t1 : (0 : Nat) = 0 := rfl))
      go_ret
      exact ⟨rfl, BB.out⟩
    | false =>
      go_enter Try.func17, Try.ntmps17
      go_wp2_with (first
        | (have qq := t4; go_at_call 42; refine (S3.out _).mono ?_; rintro e w5 ⟨rfl, B3⟩; have BB : Hid (Below w.heap.size w w5) := BB.out.trans (B3.mono BB.out.size); clear B3 t4)
        | (have qq := t3; go_at_call 42; refine (S2.out _).mono ?_; rintro e w4 ⟨rfl, B3⟩; have VX : Hid (Vr w4 w.heap.size x.cs) := VX.out.below B3 (by have := VX.out.1; exact range_lt this (Nat.succ_pos _)); have VY : Hid (Vr w4 w1.heap.size y.cs) := VY.out.below B3 (range_lt VY.out.1 (Nat.succ_pos _)); have nx := cells0 VX.out.1; have ny := cells0 VY.out.1; have BB : Hid (Below w.heap.size w w4) := BB.out.trans (B3.mono BB.out.size); clear B3 t3; have t4 : (0 : Nat) = 0 := rfl)
        | (have qq := t2; go_at_call 42; refine (S1.out _).mono ?_; rintro e w3 ⟨rfl, B3⟩; have VX : Hid (Vr w3 w.heap.size x.cs) := VX.out.below B3 (by omega); have VY : Hid (Vr w3 w1.heap.size y.cs) := VY.out.below B3 l2; have nx := cells0 VX.out.1; have ny := cells0 VY.out.1; have BB : Hid (Below w.heap.size w w3) := BB.out.trans (B3.mono BB.out.size); clear B3 t2; have t3 : (0 : Nat) = 0 := rfl)
        | (have qq := t1; refine box_lawC _ y.cs rfl ?_; intro w2 X2 B2 l2; have VX : Hid (Vr w2 w.heap.size x.cs) := X1.out.below B2 l1; have VY : Hid (Vr w2 w1.heap.size y.cs) := X2; have nx := cells0 VX.out.1; have ny := cells0 X2.1; have BB : Hid (Below w.heap.size w w2) := BB.out.trans (B2.mono BB.out.size); clear B2 X2 t1; have t2 : (0 : Nat) = 0 := rfl)
        | (have qq := t0; refine box_lawC _ x.cs rfl ?_; intro w1 X1_ B1 l1; have X1 : Hid (Vr w1 w.heap.size x.cs) := X1_; have BB : Hid (Below w.heap.size w w1) := B1; clear B1 X1_ t0; have t1 : (0 : Nat) = 0 := rfl))
      go_ret
      exact ⟨by cases b3 <;> rfl, BB.out⟩
theorem rowy_rspot : Rowy 49 14 := ⟨⟨_, Try.underlying49, rfl⟩, by kernel_rfl⟩
theorem zero_rspot : (Try.prog.info? 49).map (fun i => (i.zero, i.size)) = some (some (.agg sp0.cs.toArray), sp0.cs.length) := by kernel_rfl
theorem size_rspot : (Try.prog.info? 49).map (·.size) = some 14 := by kernel_rfl
theorem of_any (x : Sp) (w : World) : Calls Try.prog 18 #[.agg x.cs.toArray] w fun e w' => e = .returned (.agg x.cs.toArray) ∧ Below w.heap.size w w' := by
  have t0 : (0 : Nat) = 0 := rfl
  go_enter Try.func18, Try.ntmps18
  go_wp2_with (first
    | (have qq := t2; (with_reducible refine at_store ?_); refine store_lawC _ x.cs w1.heap.size 0 rfl rfl VZ.out.2 size_rspot x.one ?_; intro w3 _ r3 _ B3; have HR : Hid (w3.rangeAt w1.heap.size 0 x.cs) := r3; have BB : Hid (Below w.heap.size w w3) := BB.out.trans (B3.mono (by have := BW.out; exact this.size)); clear r3 B3 t2)
    | (have qq := t1; (with_reducible refine at_alloc ?_); refine new_lawC _ sp0.cs zero_rspot ?_; intro w2 X2 B2 l2; have VZ : Hid (Vr w2 w1.heap.size sp0.cs) := X2; have VX : Hid (Vr w2 w.heap.size x.cs) := VX.out.below B2 (range_lt VX.out.1 (Nat.succ_pos _)); have nx := cells0 VX.out.1; have BW : Hid (Below w.heap.size w w1) := BB.out; have BB : Hid (Below w.heap.size w w2) := BB.out.trans (B2.mono BB.out.size); clear X2 B2 l2 t1; have t2 : (0 : Nat) = 0 := rfl)
    | (have qq := t0; refine box_lawC _ x.cs rfl ?_; intro w1 X1 B1 l1; have VX : Hid (Vr w1 w.heap.size x.cs) := X1; have BB : Hid (Below w.heap.size w w1) := B1; clear B1 X1 l1 t0; have t1 : (0 : Nat) = 0 := rfl))
  exact bodyPost_ret (v := .agg x.cs.toArray) (results_c rfl _ _ w1.heap.size x.cs rowy_rspot rfl HR.out) rfl ⟨rfl, BB.out⟩
end Go.Proofs.Ytedmmpognhpbdaa.pm
