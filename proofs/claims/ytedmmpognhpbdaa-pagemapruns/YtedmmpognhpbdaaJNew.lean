/- What pagemap's Newer, New, sectors, Size, Refs answer. No claim of its own. -/
import Derived.Test.YtedmmpognhpbdaaJPrg
namespace Go.Proofs.Ytedmmpognhpbdaa.pm
open Go.RowKit Go.Proofs.Ytedmmpognhpbdaa.he
set_option maxRecDepth 20000

theorem cells0 {w : World} {b : Nat} {x : Sp} (h : w.rangeAt b 0 x.cs) : w.cell? ⟨b, 0, none⟩ = some (.int .i64 x.p.1) ∧ w.cell? ⟨b, 1, none⟩ = some (.int .i64 x.p.2) ∧ w.cell? ⟨b, 2, none⟩ = some (.int .i64 x.h.k) ∧ w.cell? ⟨b, 3, none⟩ = some (.int .i64 x.h.n) ∧ w.cell? ⟨b, 4, none⟩ = some (.int .i64 x.h.c) ∧ w.cell? ⟨b, 5, none⟩ = some (.int .u32 x.h.l) ∧ w.cell? ⟨b, 6, none⟩ = some (.int .u64 x.h.e) ∧ w.cell? ⟨b, 7, none⟩ = some (.int .u64 x.h.t) ∧ w.cell? ⟨b, 8, none⟩ = some (.int .i64 x.o.k) ∧ w.cell? ⟨b, 9, none⟩ = some (.int .i64 x.o.n) ∧ w.cell? ⟨b, 10, none⟩ = some (.int .i64 x.o.c) ∧ w.cell? ⟨b, 11, none⟩ = some (.int .u32 x.o.l) ∧ w.cell? ⟨b, 12, none⟩ = some (.int .u64 x.o.e) ∧ w.cell? ⟨b, 13, none⟩ = some (.int .u64 x.o.t) := by
  have : ∀ j v, x.cs[j]? = some v → w.cell? ⟨b, j, none⟩ = some v := fun j v hv => by simpa using h j v hv
  exact ⟨this 0 _ rfl, this 1 _ rfl, this 2 _ rfl, this 3 _ rfl, this 4 _ rfl, this 5 _ rfl, this 6 _ rfl, this 7 _ rfl, this 8 _ rfl, this 9 _ rfl, this 10 _ rfl, this 11 _ rfl, this 12 _ rfl, this 13 _ rfl⟩
theorem newer_any (x y : Sp) (w : World) : Calls Try.prog 16 #[.agg x.cs.toArray, .agg y.cs.toArray] w fun e w' => e = .returned (.bool (nw x y)) ∧ Below w.heap.size w w' := by
  have S1 : Hid (∀ W, Calls Try.prog 41 #[.agg y.h.cs.toArray, .agg x.h.cs.toArray] W fun e w' => e = .returned (.bool (hl y.h x.h)) ∧ Below W.heap.size W w') := fun W => hless_any _ _ W
  have S2 : Hid (∀ W, Calls Try.prog 41 #[.agg x.h.cs.toArray, .agg y.h.cs.toArray] W fun e w' => e = .returned (.bool (hl x.h y.h)) ∧ Below W.heap.size W w') := fun W => hless_any _ _ W
  have S3 : Hid (∀ W, Calls Try.prog 41 #[.agg y.o.cs.toArray, .agg x.o.cs.toArray] W fun e w' => e = .returned (.bool (hl y.o x.o)) ∧ Below W.heap.size W w') := fun W => hless_any _ _ W
  unfold nw
  generalize hl y.h x.h = b1 at S1 ⊢
  generalize hl x.h y.h = b2 at S2 ⊢
  generalize hl y.o x.o = b3 at S3 ⊢
  have t0 : (0 : Nat) = 0 := rfl
  cases b1 with
  | true =>
    go_enter Try.func16, Try.ntmps16
    go_wp2_with (first
      | (have qq := t2; go_at_call 41; refine (S1.out _).mono ?_; rintro e w3 ⟨rfl, B3⟩; have BB : Hid (Below w.heap.size w w3) := BB.out.trans (B3.mono BB.out.size); clear B3 t2)
      | (have qq := t1; refine box_lawC _ y.cs rfl ?_; intro w2 X2 B2 l2; have nx := cells0 (X1.out.below B2 l1).1; have ny := cells0 X2.1; have BB : Hid (Below w.heap.size w w2) := BB.out.trans (B2.mono BB.out.size); clear B2 X2 t1; have t2 : (0 : Nat) = 0 := rfl)
      | (have qq := t0; refine box_lawC _ x.cs rfl ?_; intro w1 X1_ B1 l1; have X1 : Hid (Vr w1 w.heap.size x.cs) := X1_; have BB : Hid (Below w.heap.size w w1) := B1; clear B1 X1_ t0; have t1 : (0 : Nat) = 0 := rfl))
    go_ret
    exact ⟨rfl, BB.out⟩
  | false =>
    cases b2 with
    | true =>
      go_enter Try.func16, Try.ntmps16
      go_wp2_with (first
        | (have qq := t3; go_at_call 41; refine (S2.out _).mono ?_; rintro e w4 ⟨rfl, B3⟩; have BB : Hid (Below w.heap.size w w4) := BB.out.trans (B3.mono BB.out.size); clear B3 t3)
        | (have qq := t2; go_at_call 41; refine (S1.out _).mono ?_; rintro e w3 ⟨rfl, B3⟩; have VX : Hid (Vr w3 w.heap.size x.cs) := VX.out.below B3 (by omega); have VY : Hid (Vr w3 w1.heap.size y.cs) := VY.out.below B3 l2; have nx := cells0 VX.out.1; have ny := cells0 VY.out.1; have BB : Hid (Below w.heap.size w w3) := BB.out.trans (B3.mono BB.out.size); clear B3 t2; have t3 : (0 : Nat) = 0 := rfl)
        | (have qq := t1; refine box_lawC _ y.cs rfl ?_; intro w2 X2 B2 l2; have VX : Hid (Vr w2 w.heap.size x.cs) := X1.out.below B2 l1; have VY : Hid (Vr w2 w1.heap.size y.cs) := X2; have nx := cells0 VX.out.1; have ny := cells0 X2.1; have BB : Hid (Below w.heap.size w w2) := BB.out.trans (B2.mono BB.out.size); clear B2 X2 t1; have t2 : (0 : Nat) = 0 := rfl)
        | (have qq := t0; refine box_lawC _ x.cs rfl ?_; intro w1 X1_ B1 l1; have X1 : Hid (Vr w1 w.heap.size x.cs) := X1_; have BB : Hid (Below w.heap.size w w1) := B1; clear B1 X1_ t0; have t1 : (0 : Nat) = 0 := rfl))
      go_ret
      exact ⟨rfl, BB.out⟩
    | false =>
      go_enter Try.func16, Try.ntmps16
      go_wp2_with (first
        | (have qq := t4; go_at_call 41; refine (S3.out _).mono ?_; rintro e w5 ⟨rfl, B3⟩; have BB : Hid (Below w.heap.size w w5) := BB.out.trans (B3.mono BB.out.size); clear B3 t4)
        | (have qq := t3; go_at_call 41; refine (S2.out _).mono ?_; rintro e w4 ⟨rfl, B3⟩; have VX : Hid (Vr w4 w.heap.size x.cs) := VX.out.below B3 (by have := VX.out.1; exact range_lt this (Nat.succ_pos _)); have VY : Hid (Vr w4 w1.heap.size y.cs) := VY.out.below B3 (range_lt VY.out.1 (Nat.succ_pos _)); have nx := cells0 VX.out.1; have ny := cells0 VY.out.1; have BB : Hid (Below w.heap.size w w4) := BB.out.trans (B3.mono BB.out.size); clear B3 t3; have t4 : (0 : Nat) = 0 := rfl)
        | (have qq := t2; go_at_call 41; refine (S1.out _).mono ?_; rintro e w3 ⟨rfl, B3⟩; have VX : Hid (Vr w3 w.heap.size x.cs) := VX.out.below B3 (by omega); have VY : Hid (Vr w3 w1.heap.size y.cs) := VY.out.below B3 l2; have nx := cells0 VX.out.1; have ny := cells0 VY.out.1; have BB : Hid (Below w.heap.size w w3) := BB.out.trans (B3.mono BB.out.size); clear B3 t2; have t3 : (0 : Nat) = 0 := rfl)
        | (have qq := t1; refine box_lawC _ y.cs rfl ?_; intro w2 X2 B2 l2; have VX : Hid (Vr w2 w.heap.size x.cs) := X1.out.below B2 l1; have VY : Hid (Vr w2 w1.heap.size y.cs) := X2; have nx := cells0 VX.out.1; have ny := cells0 X2.1; have BB : Hid (Below w.heap.size w w2) := BB.out.trans (B2.mono BB.out.size); clear B2 X2 t1; have t2 : (0 : Nat) = 0 := rfl)
        | (have qq := t0; refine box_lawC _ x.cs rfl ?_; intro w1 X1_ B1 l1; have X1 : Hid (Vr w1 w.heap.size x.cs) := X1_; have BB : Hid (Below w.heap.size w w1) := B1; clear B1 X1_ t0; have t1 : (0 : Nat) = 0 := rfl))
      go_ret
      exact ⟨by cases b3 <;> rfl, BB.out⟩
end Go.Proofs.Ytedmmpognhpbdaa.pm
