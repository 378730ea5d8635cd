/- What pagemap's small functions answer. No claim of its own. -/
import Derived.Test.YtedmmpognhpbdaaJPm
import Derived.Test.YtedmmpognhpbdaaQReg
namespace Go.Proofs.Ytedmmpognhpbdaa.pm
open Go.RowKit Go.Proofs.Ytedmmpognhpbdaa.he
set_option maxRecDepth 20000

theorem isns_any (s : Int) (w : World) (q : Bool) (hq : q = decide (0 ≤ s ∧ s < 4)) : Calls Try.prog 43 #[.int .i64 s] w fun e w' => e = .returned (.bool q) ∧ w' = w := by
  by_cases h0 : 0 ≤ s
  · by_cases h1 : s < 4
    · have e : q = true := by rw [hq]; exact decide_eq_true ⟨h0, h1⟩
      subst e
      clear hq
      go_enter Try.func43, Try.ntmps43
      go_wp2
      go_ret
      exact ⟨rfl, rfl⟩
    · have e : q = false := by rw [hq]; exact decide_eq_false (by omega)
      subst e
      clear hq
      go_enter Try.func43, Try.ntmps43
      go_wp2
      go_ret
      exact ⟨rfl, rfl⟩
  · have e : q = false := by rw [hq]; exact decide_eq_false (by omega)
    subst e
    clear hq
    go_enter Try.func43, Try.ntmps43
    go_wp2
    go_ret
    exact ⟨rfl, rfl⟩
theorem speaks_any (k : Int) (w : World) : Calls Try.prog 54 #[.int .i64 k] w fun e w' => e = .returned (.bool (lk k)) ∧ w' = w := by
  unfold lk
  by_cases h1 : k = 1
  · subst h1
    go_enter Try.func54, Try.ntmps54
    go_wp2
    go_ret
    exact ⟨rfl, rfl⟩
  · have e1 : (k == 1) = false := beq_eq_false_iff_ne.2 h1
    have e2 : decide (k = 1) = false := decide_eq_false h1
    by_cases h2 : k = 2
    · subst h2
      go_enter Try.func54, Try.ntmps54
      go_wp2
      go_ret
      exact ⟨rfl, rfl⟩
    · have e3 : (k == 2) = false := beq_eq_false_iff_ne.2 h2
      have e4 : decide (k = 2) = false := decide_eq_false h2
      rw [e2, e4]
      go_enter Try.func54, Try.ntmps54
      go_wp2
      go_ret
      exact ⟨rfl, rfl⟩
theorem six {w : World} {b q : Nat} {x : Hd} (h : w.rangeAt b q x.cs) : w.cell? ⟨b, q, none⟩ = some (.int .i64 x.k) ∧ w.cell? ⟨b, q + 1, none⟩ = some (.int .i64 x.n) ∧ w.cell? ⟨b, q + 2, none⟩ = some (.int .i64 x.c) ∧ w.cell? ⟨b, q + 3, none⟩ = some (.int .u32 x.l) ∧ w.cell? ⟨b, q + 4, none⟩ = some (.int .u64 x.e) ∧ w.cell? ⟨b, q + 5, none⟩ = some (.int .u64 x.t) :=
  ⟨h 0 _ rfl, h 1 _ rfl, h 2 _ rfl, h 3 _ rfl, h 4 _ rfl, h 5 _ rfl⟩
theorem six0 {w : World} {b : Nat} {x : Hd} (h : w.rangeAt b 0 x.cs) : w.cell? ⟨b, 0, none⟩ = some (.int .i64 x.k) ∧ w.cell? ⟨b, 1, none⟩ = some (.int .i64 x.n) ∧ w.cell? ⟨b, 2, none⟩ = some (.int .i64 x.c) ∧ w.cell? ⟨b, 3, none⟩ = some (.int .u32 x.l) ∧ w.cell? ⟨b, 4, none⟩ = some (.int .u64 x.e) ∧ w.cell? ⟨b, 5, none⟩ = some (.int .u64 x.t) := by
  have := six h
  simpa using this
/-- a spot's kind -/
theorem kind_at {w : World} {b : Nat} {x : Sp} (h : w.rangeAt b 0 x.cs) : w.cell? ⟨b, 2, none⟩ = some (.int .i64 x.h.k) := by simpa using h 2 _ rfl
theorem head_at {w : World} {b q : Nat} {x : Sp} (h : w.rangeAt b q x.cs) : w.rangeAt b (q + 2) x.h.cs := fun j v hv => by
  have hj : j < 6 := (List.getElem?_eq_some_iff.1 hv).1
  rw [Nat.add_assoc]
  refine h (2 + j) v ?_
  rw [← hv]
  rcases (show j = 0 ∨ j = 1 ∨ j = 2 ∨ j = 3 ∨ j = 4 ∨ j = 5 by omega) with rfl | rfl | rfl | rfl | rfl | rfl <;> rfl
theorem order_at {w : World} {b q : Nat} {x : Sp} (h : w.rangeAt b q x.cs) : w.rangeAt b (q + 8) x.o.cs := fun j v hv => by
  have hj : j < 6 := (List.getElem?_eq_some_iff.1 hv).1
  rw [Nat.add_assoc]
  refine h (8 + j) v ?_
  rw [← hv]
  rcases (show j = 0 ∨ j = 1 ∨ j = 2 ∨ j = 3 ∨ j = 4 ∨ j = 5 by omega) with rfl | rfl | rfl | rfl | rfl | rfl <;> rfl
theorem place_at {w : World} {b q : Nat} {x : Sp} (h : w.rangeAt b q x.cs) : w.rangeAt b q (pc x.p) := fun j v hv => by
  have hj : j < 2 := (List.getElem?_eq_some_iff.1 hv).1
  refine h j v ?_
  rw [← hv]
  rcases (show j = 0 ∨ j = 1 by omega) with rfl | rfl <;> rfl
theorem rowy_hd : Rowy 35 6 := ⟨⟨_, Try.underlying35, rfl⟩, by kernel_rfl⟩
theorem isspot_any (x : Sp) (w : World) : Calls Try.prog 45 #[.agg x.cs.toArray] w fun e w' => e = .returned (.bool (lv x)) ∧ Below w.heap.size w w' := by
  have t0 : (0 : Nat) = 0 := rfl
  go_enter Try.func45, Try.ntmps45
  go_wp2_with (first
    | (go_at_call 54; refine (speaks_any _ _).mono ?_; rintro e w3 ⟨rfl, hw⟩; obtain rfl := hw.symm)
    | (have qq := t0; refine box_lawC _ x.cs rfl ?_; intro w1 X1 B1 l1; have nx := kind_at X1.1; have BB : Hid (Below w.heap.size w w1) := B1; clear B1 X1 t0))
  go_ret
  exact ⟨rfl, BB.out⟩
theorem hless_any (x y : Hd) (w : World) : Calls Try.prog 41 #[.agg x.cs.toArray, .agg y.cs.toArray] w fun e w' => e = .returned (.bool (hl x y)) ∧ Below w.heap.size w w' := by
  unfold hl
  by_cases he : x.e = y.e
  · rw [if_pos he]
    have e1 : (x.e == y.e) = true := beq_iff_eq.2 he
    have e2 : (x.e != y.e) = false := by simp [he]
    have t0 : (0 : Nat) = 0 := rfl
    go_enter Try.func41, Try.ntmps41
    go_wp2_with (first
      | (have qq := t1; refine box_lawC _ y.cs rfl ?_; intro w2 X2 B2 l2; have nx := six0 (X1.out.below B2 l1).1; have ny := six0 X2.1; have BB : Hid (Below w.heap.size w w2) := BB.out.trans (B2.mono BB.out.size); clear B2 X2 t1)
      | (have qq := t0; refine box_lawC _ x.cs rfl ?_; intro w1 X1_ B1 l1; have X1 : Hid (Vr w1 w.heap.size x.cs) := X1_; have BB : Hid (Below w.heap.size w w1) := B1; clear B1 X1_ t0; have t1 : (0 : Nat) = 0 := rfl))
    go_ret
    exact ⟨rfl, BB.out⟩
  · rw [if_neg he]
    have e1 : (x.e == y.e) = false := beq_eq_false_iff_ne.2 he
    have e2 : (x.e != y.e) = true := by simp [he]
    have t0 : (0 : Nat) = 0 := rfl
    go_enter Try.func41, Try.ntmps41
    go_wp2_with (first
      | (have qq := t1; refine box_lawC _ y.cs rfl ?_; intro w2 X2 B2 l2; have nx := six0 (X1.out.below B2 l1).1; have ny := six0 X2.1; have BB : Hid (Below w.heap.size w w2) := BB.out.trans (B2.mono BB.out.size); clear B2 X2 t1)
      | (have qq := t0; refine box_lawC _ x.cs rfl ?_; intro w1 X1_ B1 l1; have X1 : Hid (Vr w1 w.heap.size x.cs) := X1_; have BB : Hid (Below w.heap.size w w1) := B1; clear B1 X1_ t0; have t1 : (0 : Nat) = 0 := rfl))
    go_ret
    exact ⟨rfl, BB.out⟩
theorem want_step {ops : Array Oper} {rest : List Oper} {o : Oper} {a : Act} {Q : Exit → Act → World → Prop} {w : World} (hw : Region.wanted o (yielded ops a.tmps) = true) (h : ∀ K : Act → World → Prop, (∀ a w, wpList Try.prog ops Q rest a w → K a w) → o.wp Try.prog a w K Q) : wpList Try.prog ops Q (o :: rest) a w :=
  wpList_step fun K hK => by rw [if_pos hw]; exact h K hK
/-- a load of a whole struct -/
theorem load_law {ops : Array Oper} {rest : List Oper} {o : Oper} {a : Act} {Q : Exit → Act → World → Prop} (w : World) (hw : Region.wanted o (yielded ops a.tmps) = true) (t : TypeId) (x : Operand) (hop : o.op = Op.load t x) (b q : Nat) (cs : List Value) (hx : a.eval x = pq b q) (ht : Rowy t cs.length) (h : w.rangeAt b q cs)
    (hK : wpList Try.prog ops Q rest (a.put o.dst (.agg cs.toArray)) w) : wpList Try.prog ops Q (o :: rest) a w := by
  refine want_step hw fun K hK' => ?_
  unfold Oper.wp execOp
  simp only [hop, hx, Sem.run_bind, Result.andThen_ok, load_cells ht h]
  exact hK' _ _ hK
end Go.Proofs.Ytedmmpognhpbdaa.pm
