/- What ledger's Free, lessErased, heldBy and its closures answer. No claim of its own. -/
import Derived.Test.YtnmofigidlmcaaaEFore
namespace Go.Proofs.Ytnmofigidlmcaaa.le
open Go.RowKit Go.Proofs.Ytnmofigidlmcaaa.he
set_option maxRecDepth 20000

theorem free_any (x : Bk) (w : World) : Calls Try.prog 17 #[.agg x.cs.toArray] w fun e w' => e = .returned (.bool (!x.h && !x.b)) ∧ Below w.heap.size w w' := by
  cases hh : x.h with
  | false =>
    have t0 : (0 : Nat) = 0 := rfl
    go_enter Try.func17, Try.ntmps17
    go_wp2_with (first
      | (have qq := t0; refine box_lawC _ x.cs rfl ?_; intro w1 X1 B1 l1; have nx := nine0 X1.1; have BB : Hid (Below w.heap.size w w1) := B1; clear B1 X1 t0))
    go_ret
    exact ⟨rfl, BB.out⟩
  | true =>
    have t0 : (0 : Nat) = 0 := rfl
    go_enter Try.func17, Try.ntmps17
    go_wp2_with (first
      | (have qq := t0; refine box_lawC _ x.cs rfl ?_; intro w1 X1 B1 l1; have nx := nine0 X1.1; have BB : Hid (Below w.heap.size w w1) := B1; clear B1 X1 t0))
    go_ret
    exact ⟨rfl, BB.out⟩
theorem less_any (x y : Bk) (w : World) : Calls Try.prog 42 #[.agg x.cs.toArray, .agg y.cs.toArray] w fun e w' => e = .returned (.bool (decide (x.e < y.e))) ∧ Below w.heap.size w w' := by
  have t0 : (0 : Nat) = 0 := rfl
  go_enter Try.func42, Try.ntmps42
  go_wp2_with (first
    | (have qq := t1; refine box_lawC _ y.cs rfl ?_; intro w2 X2 B2 l2; have nx := nine0 (X1.out.below B2 l1).1; have ny := nine0 X2.1; have BB : Hid (Below w.heap.size w w2) := BB.out.trans (B2.mono BB.out.size); clear B2 X2 t1)
    | (have qq := t0; refine box_lawC _ x.cs rfl ?_; intro w1 X1_ B1 l1; have X1 : Hid (Vr w1 w.heap.size x.cs) := X1_; have BB : Hid (Below w.heap.size w w1) := B1; clear B1 X1_ t0; have t1 : (0 : Nat) = 0 := rfl))
  go_ret
  exact ⟨rfl, BB.out⟩
theorem vlive_any (x y : Bk) (w : World) : Calls Try.prog 45 #[.agg x.cs.toArray, .agg y.cs.toArray] w fun e w' => e = .returned (.bool (decide (x.l < y.l))) ∧ Below w.heap.size w w' := by
  have t0 : (0 : Nat) = 0 := rfl
  go_enter Try.func45, Try.ntmps45
  go_wp2_with (first
    | (have qq := t1; refine box_lawC _ y.cs rfl ?_; intro w2 X2 B2 l2; have nx := nine0 (X1.out.below B2 l1).1; have ny := nine0 X2.1; have BB : Hid (Below w.heap.size w w2) := BB.out.trans (B2.mono BB.out.size); clear B2 X2 t1)
    | (have qq := t0; refine box_lawC _ x.cs rfl ?_; intro w1 X1_ B1 l1; have X1 : Hid (Vr w1 w.heap.size x.cs) := X1_; have BB : Hid (Below w.heap.size w w1) := B1; clear B1 X1_ t0; have t1 : (0 : Nat) = 0 := rfl))
  go_ret
  exact ⟨rfl, BB.out⟩
theorem heldby_any (x : Bk) (n : Int) (w : World) : Calls Try.prog 44 #[.agg x.cs.toArray, .int .i64 n] w fun e w' => e = .returned (.bool (x.h && !x.b && decide (x.o = n))) ∧ Below w.heap.size w w' := by
  cases hh : x.h with
  | false =>
    have t0 : (0 : Nat) = 0 := rfl
    go_enter Try.func44, Try.ntmps44
    go_wp2_with (first
      | (have qq := t0; refine box_lawC _ x.cs rfl ?_; intro w1 X1 B1 l1; have nx := nine0 X1.1; have BB : Hid (Below w.heap.size w w1) := B1; clear B1 X1 t0))
    go_ret
    exact ⟨rfl, BB.out⟩
  | true =>
    cases hb : x.b with
    | true =>
      have t0 : (0 : Nat) = 0 := rfl
      go_enter Try.func44, Try.ntmps44
      go_wp2_with (first
        | (have qq := t0; refine box_lawC _ x.cs rfl ?_; intro w1 X1 B1 l1; have nx := nine0 X1.1; have BB : Hid (Below w.heap.size w w1) := B1; clear B1 X1 t0))
      go_ret
      exact ⟨rfl, BB.out⟩
    | false =>
      have t0 : (0 : Nat) = 0 := rfl
      go_enter Try.func44, Try.ntmps44
      go_wp2_with (first
        | (have qq := t0; refine box_lawC _ x.cs rfl ?_; intro w1 X1 B1 l1; have nx := nine0 X1.1; have BB : Hid (Below w.heap.size w w1) := B1; clear B1 X1 t0))
      go_ret
      exact ⟨rfl, BB.out⟩
theorem bads1_any (x : Bk) (w : World) : Calls Try.prog 50 #[.agg x.cs.toArray] w fun e w' => e = .returned (.bool (x.b)) ∧ Below w.heap.size w w' := by
  have t0 : (0 : Nat) = 0 := rfl
  go_enter Try.func50, Try.ntmps50
  go_wp2_with (first
    | (have qq := t0; refine box_lawC _ x.cs rfl ?_; intro w1 X1 B1 l1; have nx := nine0 X1.1; have BB : Hid (Below w.heap.size w w1) := B1; clear B1 X1 t0))
  go_ret
  exact ⟨rfl, BB.out⟩
theorem spread1_any (i : Int) (x : Bk) (w : World) : Calls Try.prog 46 #[.int .i64 i, .agg x.cs.toArray] w fun e w' => e = .returned (.bool (!x.b)) ∧ Below w.heap.size w w' := by
  have t0 : (0 : Nat) = 0 := rfl
  go_enter Try.func46, Try.ntmps46
  go_wp2_with (first
    | (have qq := t0; refine box_lawC _ x.cs rfl ?_; intro w1 X1 B1 l1; have nx := nine0 X1.1; have BB : Hid (Below w.heap.size w w1) := B1; clear B1 X1 t0))
  go_ret
  exact ⟨rfl, BB.out⟩
theorem pick1_any (i : Int) (x : Bk) (w : World) : Calls Try.prog 41 #[.int .i64 i, .agg x.cs.toArray] w fun e w' => e = .returned (.bool (!x.h && !x.b)) ∧ Below w.heap.size w w' := by
  have t0 : (0 : Nat) = 0 := rfl
  go_enter Try.func41, Try.ntmps41
  go_wp2_with (first
    | (go_at_call 17; refine (free_any x _).mono ?_; rintro e w3 ⟨rfl, B3⟩; have BB : Hid (Below w.heap.size w w3) := BB.out.trans (B3.mono BB.out.size); clear B3)
    | (have qq := t0; refine box_lawC _ x.cs rfl ?_; intro w1 X1 B1 l1; have nx := nine0 X1.1; have BB : Hid (Below w.heap.size w w1) := B1; clear B1 X1 t0))
  go_ret
  exact ⟨rfl, BB.out⟩
theorem spread2_any (x y : Bk) (w : World) : Calls Try.prog 47 #[.agg x.cs.toArray, .agg y.cs.toArray] w fun e w' => e = .returned (.bool (decide (y.e < x.e))) ∧ Below w.heap.size w w' := by
  have t0 : (0 : Nat) = 0 := rfl
  go_enter Try.func47, Try.ntmps47
  go_wp2_with (first
    | (go_at_call 42; refine (less_any y x _).mono ?_; rintro e w3 ⟨rfl, B3⟩; have BB : Hid (Below w.heap.size w w3) := BB.out.trans (B3.mono BB.out.size); clear B3)
    | (have qq := t1; refine box_lawC _ y.cs rfl ?_; intro w2 X2 B2 l2; have nx := nine0 (X1.out.below B2 l1).1; have ny := nine0 X2.1; have BB : Hid (Below w.heap.size w w2) := BB.out.trans (B2.mono BB.out.size); clear B2 X2 t1)
    | (have qq := t0; refine box_lawC _ x.cs rfl ?_; intro w1 X1_ B1 l1; have X1 : Hid (Vr w1 w.heap.size x.cs) := X1_; have BB : Hid (Below w.heap.size w w1) := B1; clear B1 X1_ t0; have t1 : (0 : Nat) = 0 := rfl))
  go_ret
  exact ⟨rfl, BB.out⟩
theorem held1_any (x : Bk) (n : Int) (c : Nat) (w : World) (hc : w.cell? ⟨c, 0, none⟩ = some (.int .i64 n)) : Calls Try.prog 49 #[.agg x.cs.toArray, pt c] w fun e w' => e = .returned (.bool (x.h && !x.b && decide (x.o = n))) ∧ Below w.heap.size w w' := by
  have t0 : (0 : Nat) = 0 := rfl
  go_enter Try.func49, Try.ntmps49
  go_wp2_with (first
    | (go_at_call 44; refine (heldby_any x n _).mono ?_; rintro e w3 ⟨rfl, B3⟩; have BB : Hid (Below w.heap.size w w3) := BB.out.trans (B3.mono BB.out.size); clear B3)
    | (have qq := t0; refine box_lawC _ x.cs rfl ?_; intro w1 X1 B1 l1; have nx := nine0 X1.1; have BB : Hid (Below w.heap.size w w1) := B1; have hc := (by rw [B1.cell (World.block_lt_of_cell? w _ hc)]; exact hc : w1.cell? ⟨c, 0, none⟩ = some (.int .i64 n)); clear B1 X1 t0))
  go_ret
  exact ⟨rfl, BB.out⟩
theorem leaks1_any (x : Bk) (n : Int) (c : Nat) (w : World) (hc : w.cell? ⟨c, 0, none⟩ = some (.int .i64 n)) : Calls Try.prog 51 #[.agg x.cs.toArray, pt c] w fun e w' => e = .returned (.bool (x.k && (decide (x.o = n) || decide (x.o = -1)))) ∧ Below w.heap.size w w' := by
  cases hk : x.k with
  | false =>
    have t0 : (0 : Nat) = 0 := rfl
    go_enter Try.func51, Try.ntmps51
    go_wp2_with (first
      | (have qq := t0; refine box_lawC _ x.cs rfl ?_; intro w1 X1 B1 l1; have nx := nine0 X1.1; have BB : Hid (Below w.heap.size w w1) := B1; have hc := (by rw [B1.cell (World.block_lt_of_cell? w _ hc)]; exact hc : w1.cell? ⟨c, 0, none⟩ = some (.int .i64 n)); clear B1 X1 t0))
    go_ret
    exact ⟨rfl, BB.out⟩
  | true =>
    by_cases ho : x.o = n
    · have h1 : (x.o == n) = true := beq_iff_eq.2 ho
      have h2 : decide (x.o = n) = true := decide_eq_true ho
      have t0 : (0 : Nat) = 0 := rfl
      go_enter Try.func51, Try.ntmps51
      go_wp2_with (first
        | (have qq := t0; refine box_lawC _ x.cs rfl ?_; intro w1 X1 B1 l1; have nx := nine0 X1.1; have BB : Hid (Below w.heap.size w w1) := B1; have hc := (by rw [B1.cell (World.block_lt_of_cell? w _ hc)]; exact hc : w1.cell? ⟨c, 0, none⟩ = some (.int .i64 n)); clear B1 X1 t0))
      go_ret
      exact ⟨rfl, BB.out⟩
    · have h1 : (x.o == n) = false := beq_eq_false_iff_ne.2 ho
      have h2 : decide (x.o = n) = false := decide_eq_false ho
      have t0 : (0 : Nat) = 0 := rfl
      go_enter Try.func51, Try.ntmps51
      go_wp2_with (first
        | (have qq := t0; refine box_lawC _ x.cs rfl ?_; intro w1 X1 B1 l1; have nx := nine0 X1.1; have BB : Hid (Below w.heap.size w w1) := B1; have hc := (by rw [B1.cell (World.block_lt_of_cell? w _ hc)]; exact hc : w1.cell? ⟨c, 0, none⟩ = some (.int .i64 n)); clear B1 X1 t0))
      go_ret
      exact ⟨rfl, BB.out⟩
theorem victim1_any (i m : Int) (x : Bk) (n : Int) (c d : Nat) (w : World) (hc : w.cell? ⟨c, 0, none⟩ = some (.int .i64 m)) (hd : w.cell? ⟨d, 0, none⟩ = some (.int .i64 n)) : Calls Try.prog 43 #[.int .i64 i, .agg x.cs.toArray, pt c, pt d] w fun e w' => e = .returned (.bool (decide (i ≠ m) && (x.h && !x.b && decide (x.o = n)))) ∧ Below w.heap.size w w' := by
  by_cases hi : i = m
  · have h1 : (i == m) = true := beq_iff_eq.2 hi
    have h2 : (i != m) = false := by simp [hi]
    have h3 : decide (i ≠ m) = false := by simp [hi]
    rw [h3]
    have t0 : (0 : Nat) = 0 := rfl
    go_enter Try.func43, Try.ntmps43
    go_wp2_with (first
      | (have qq := t0; refine box_lawC _ x.cs rfl ?_; intro w1 X1 B1 l1; have nx := nine0 X1.1; have BB : Hid (Below w.heap.size w w1) := B1; have hc := (by rw [B1.cell (World.block_lt_of_cell? w _ hc)]; exact hc : w1.cell? ⟨c, 0, none⟩ = some (.int .i64 m)); have hd := (by rw [B1.cell (World.block_lt_of_cell? w _ hd)]; exact hd : w1.cell? ⟨d, 0, none⟩ = some (.int .i64 n)); clear B1 X1 t0))
    go_ret
    exact ⟨rfl, BB.out⟩
  · have h1 : (i == m) = false := beq_eq_false_iff_ne.2 hi
    have h2 : (i != m) = true := by simp [hi]
    have h3 : decide (i ≠ m) = true := by simp [hi]
    rw [h3]
    have t0 : (0 : Nat) = 0 := rfl
    go_enter Try.func43, Try.ntmps43
    go_wp2_with (first
      | (go_at_call 44; refine (heldby_any x n _).mono ?_; rintro e w3 ⟨rfl, B3⟩; have BB : Hid (Below w.heap.size w w3) := BB.out.trans (B3.mono BB.out.size); clear B3)
      | (have qq := t0; refine box_lawC _ x.cs rfl ?_; intro w1 X1 B1 l1; have nx := nine0 X1.1; have BB : Hid (Below w.heap.size w w1) := B1; have hc := (by rw [B1.cell (World.block_lt_of_cell? w _ hc)]; exact hc : w1.cell? ⟨c, 0, none⟩ = some (.int .i64 m)); have hd := (by rw [B1.cell (World.block_lt_of_cell? w _ hd)]; exact hd : w1.cell? ⟨d, 0, none⟩ = some (.int .i64 n)); clear B1 X1 t0))
    go_ret
    exact ⟨by rw [Bool.true_and]; rfl, BB.out⟩
end Go.Proofs.Ytnmofigidlmcaaa.le
