/- What the reference's Do answers. No claim of its own. -/
import Derived.Test.YtnmofigidlmcaaaERef
namespace Go.Proofs.Ytnmofigidlmcaaa.le
open Go.RowKit Go.Proofs.Ytnmofigidlmcaaa.he
set_option maxRecDepth 20000

theorem there_set {w : World} {b o n c j : Nat} {v : Value} (h : w.there b o n) (hne : b ≠ c) : (w.setCell ⟨c, j, none⟩ v).there b o n := there_heap h (Below.heap_setCell w ⟨c, j, none⟩ v b hne)
theorem below_set {B : Nat} {a w : World} {c j : Nat} {v : Value} (h : Below B a w) (hc : B ≤ c) : Below B a (w.setCell ⟨c, j, none⟩ v) := h.setCell (p := ⟨c, j, none⟩) hc v
set_option maxHeartbeats 1000000 in
theorem rdo1 (x : Bk) (s : Int) (w : World) : Calls Try.prog 38 #[.agg x.cs.toArray, .int .i64 1, .int .i64 s] w fun e w' => e = .returned (.agg (Bk.cs { x with o := s, h := true, c := false, u := 0, l := 0 }).toArray) ∧ Below w.heap.size w w' := by
  have t0 : (0 : Nat) = 0 := rfl
  go_enter Try.func38, Try.ntmps38
  go_wp2_with (first
    | (have qq := t2; (with_reducible refine at_store ?_); refine store_lawC _ (Bk.cs { x with o := s, h := true, c := false, u := 0, l := 0 }) w1.heap.size 0 rfl rfl (by (repeat (refine there_set ?_ (Nat.ne_of_gt l1))); exact V2.out.2) size_rblk (Bk.one _) ?_; intro w6 E6 R6 T6 B6; have HR : Hid (w6.rangeAt w1.heap.size 0 (Bk.cs { x with o := s, h := true, c := false, u := 0, l := 0 })) := R6; have BB : Hid (Below w.heap.size w w6) := Below.trans (by (repeat (refine below_set ?_ (Nat.le_refl _))); exact BB.out) (B6.mono (Nat.le_of_lt l1)); clear E6 R6 T6 B6 t2)
    | (have qq := t1; (with_reducible refine at_alloc ?_); refine new_lawC _ b0.cs zero_rblk ?_; intro w2 X2 B2 l2; have V2 : Hid (Vr w2 w1.heap.size b0.cs) := X2; have V1 : Hid (Vr w2 w.heap.size x.cs) := V1.out.below B2 l1; have BB : Hid (Below w.heap.size w w2) := BB.out.trans (B2.mono BB.out.size); have nx := nine0 V1.out.1; have z0 := V1.out.free 0 (show (0 : Nat) < 9 by decide); have z1 := V1.out.free 1 (show (1 : Nat) < 9 by decide); have z2 := V1.out.free 2 (show (2 : Nat) < 9 by decide); have z4 := V1.out.free 4 (show (4 : Nat) < 9 by decide); have z5 := V1.out.free 5 (show (5 : Nat) < 9 by decide); have z6 := V1.out.free 6 (show (6 : Nat) < 9 by decide); have z7 := V1.out.free 7 (show (7 : Nat) < 9 by decide); have z8 := V1.out.free 8 (show (8 : Nat) < 9 by decide); clear X2 B2 t1; have t2 : (0 : Nat) = 0 := rfl)
    | (have qq := t0; refine box_lawC _ x.cs rfl ?_; intro w1 X1 B1 l1; have V1 : Hid (Vr w1 w.heap.size x.cs) := X1; have BB : Hid (Below w.heap.size w w1) := B1; clear X1 B1 t0; have t1 : (0 : Nat) = 0 := rfl))
  exact bodyPost_ret (v := .agg (Bk.cs { x with o := s, h := true, c := false, u := 0, l := 0 }).toArray) (results_c rfl _ _ w1.heap.size _ rowy_rblk rfl HR.out) rfl ⟨rfl, BB.out⟩
set_option maxHeartbeats 1000000 in
theorem rdo2 (x : Bk) (s : Int) (w : World) : Calls Try.prog 38 #[.agg x.cs.toArray, .int .i64 2, .int .i64 s] w fun e w' => e = .returned (.agg (Bk.cs { x with h := false, l := 0 }).toArray) ∧ Below w.heap.size w w' := by
  have t0 : (0 : Nat) = 0 := rfl
  go_enter Try.func38, Try.ntmps38
  go_wp2_with (first
    | (have qq := t2; (with_reducible refine at_store ?_); refine store_lawC _ (Bk.cs { x with h := false, l := 0 }) w1.heap.size 0 rfl rfl (by (repeat (refine there_set ?_ (Nat.ne_of_gt l1))); exact V2.out.2) size_rblk (Bk.one _) ?_; intro w6 E6 R6 T6 B6; have HR : Hid (w6.rangeAt w1.heap.size 0 (Bk.cs { x with h := false, l := 0 })) := R6; have BB : Hid (Below w.heap.size w w6) := Below.trans (by (repeat (refine below_set ?_ (Nat.le_refl _))); exact BB.out) (B6.mono (Nat.le_of_lt l1)); clear E6 R6 T6 B6 t2)
    | (have qq := t1; (with_reducible refine at_alloc ?_); refine new_lawC _ b0.cs zero_rblk ?_; intro w2 X2 B2 l2; have V2 : Hid (Vr w2 w1.heap.size b0.cs) := X2; have V1 : Hid (Vr w2 w.heap.size x.cs) := V1.out.below B2 l1; have BB : Hid (Below w.heap.size w w2) := BB.out.trans (B2.mono BB.out.size); have nx := nine0 V1.out.1; have z0 := V1.out.free 0 (show (0 : Nat) < 9 by decide); have z1 := V1.out.free 1 (show (1 : Nat) < 9 by decide); have z2 := V1.out.free 2 (show (2 : Nat) < 9 by decide); have z4 := V1.out.free 4 (show (4 : Nat) < 9 by decide); have z5 := V1.out.free 5 (show (5 : Nat) < 9 by decide); have z6 := V1.out.free 6 (show (6 : Nat) < 9 by decide); have z7 := V1.out.free 7 (show (7 : Nat) < 9 by decide); have z8 := V1.out.free 8 (show (8 : Nat) < 9 by decide); clear X2 B2 t1; have t2 : (0 : Nat) = 0 := rfl)
    | (have qq := t0; refine box_lawC _ x.cs rfl ?_; intro w1 X1 B1 l1; have V1 : Hid (Vr w1 w.heap.size x.cs) := X1; have BB : Hid (Below w.heap.size w w1) := B1; clear X1 B1 t0; have t1 : (0 : Nat) = 0 := rfl))
  exact bodyPost_ret (v := .agg (Bk.cs { x with h := false, l := 0 }).toArray) (results_c rfl _ _ w1.heap.size _ rowy_rblk rfl HR.out) rfl ⟨rfl, BB.out⟩
set_option maxHeartbeats 1000000 in
theorem rdo3 (x : Bk) (s : Int) (w : World) (h0 : 0 ≤ x.e) (h1 : x.e ≤ 1000000000) : Calls Try.prog 38 #[.agg x.cs.toArray, .int .i64 3, .int .i64 s] w fun e w' => e = .returned (.agg (Bk.cs ⟨-2, 0, 0, x.e + 1, false, true, x.b, false, false⟩).toArray) ∧ Below w.heap.size w w' := by
  have e1 : IntKind.i64.wrap (x.e + 1) = x.e + 1 := by rw [IntKind.wrap_i64]; omega
  have t0 : (0 : Nat) = 0 := rfl
  go_enter Try.func38, Try.ntmps38
  go_wp2_with (first
    | (have qq := t3; (with_reducible refine at_store ?_); refine store_lawC _ (Bk.cs ⟨-2, 0, 0, x.e + 1, false, true, x.b, false, false⟩) w1.heap.size 0 rfl rfl (V2.out.2) size_rblk (Bk.one _) ?_; intro w6 E6 R6 T6 B6; have HR : Hid (w6.rangeAt w1.heap.size 0 (Bk.cs ⟨-2, 0, 0, x.e + 1, false, true, x.b, false, false⟩)) := R6; have BB : Hid (Below w.heap.size w w6) := BB.out.trans (B6.mono (Nat.le_of_lt l1)); clear E6 R6 T6 B6 t3)
    | (have qq := t2; (with_reducible refine at_store ?_); refine store_lawC _ (Bk.cs ⟨-2, 0, 0, x.e + 1, false, true, x.b, false, false⟩) w.heap.size 0 rfl rfl (V1.out.2) size_rblk (Bk.one _) ?_; intro w5 E5 R5 T5 B5; have V2 : Hid (Vr w5 w1.heap.size b0.cs) := V2.out.heap (by rw [E5.out]; exact heap_cells _ _ _ _ _ (Nat.ne_of_gt l1)); have BB : Hid (Below w.heap.size w w5) := BB.out.trans (B5.mono (Nat.le_refl _)); clear nx; have nx := nine0 R5; clear E5 R5 T5 B5 t2; have t3 : (0 : Nat) = 0 := rfl)
    | (have qq := t1; (with_reducible refine at_alloc ?_); refine new_lawC _ b0.cs zero_rblk ?_; intro w2 X2 B2 l2; have V2 : Hid (Vr w2 w1.heap.size b0.cs) := X2; have V1 : Hid (Vr w2 w.heap.size x.cs) := V1.out.below B2 l1; have BB : Hid (Below w.heap.size w w2) := BB.out.trans (B2.mono BB.out.size); have nx := nine0 V1.out.1; have z0 := V1.out.free 0 (show (0 : Nat) < 9 by decide); have z1 := V1.out.free 1 (show (1 : Nat) < 9 by decide); have z2 := V1.out.free 2 (show (2 : Nat) < 9 by decide); have z4 := V1.out.free 4 (show (4 : Nat) < 9 by decide); have z5 := V1.out.free 5 (show (5 : Nat) < 9 by decide); have z6 := V1.out.free 6 (show (6 : Nat) < 9 by decide); have z7 := V1.out.free 7 (show (7 : Nat) < 9 by decide); have z8 := V1.out.free 8 (show (8 : Nat) < 9 by decide); clear X2 B2 t1; have t2 : (0 : Nat) = 0 := rfl)
    | (have qq := t0; refine box_lawC _ x.cs rfl ?_; intro w1 X1 B1 l1; have V1 : Hid (Vr w1 w.heap.size x.cs) := X1; have BB : Hid (Below w.heap.size w w1) := B1; clear X1 B1 t0; have t1 : (0 : Nat) = 0 := rfl))
  exact bodyPost_ret (v := .agg (Bk.cs ⟨-2, 0, 0, x.e + 1, false, true, x.b, false, false⟩).toArray) (results_c rfl _ _ w1.heap.size _ rowy_rblk rfl HR.out) rfl ⟨rfl, BB.out⟩
set_option maxHeartbeats 1000000 in
theorem rdo4 (x : Bk) (s : Int) (w : World) : Calls Try.prog 38 #[.agg x.cs.toArray, .int .i64 4, .int .i64 s] w fun e w' => e = .returned (.agg (Bk.cs { x with b := true }).toArray) ∧ Below w.heap.size w w' := by
  have t0 : (0 : Nat) = 0 := rfl
  go_enter Try.func38, Try.ntmps38
  go_wp2_with (first
    | (have qq := t2; (with_reducible refine at_store ?_); refine store_lawC _ (Bk.cs { x with b := true }) w1.heap.size 0 rfl rfl (by (repeat (refine there_set ?_ (Nat.ne_of_gt l1))); exact V2.out.2) size_rblk (Bk.one _) ?_; intro w6 E6 R6 T6 B6; have HR : Hid (w6.rangeAt w1.heap.size 0 (Bk.cs { x with b := true })) := R6; have BB : Hid (Below w.heap.size w w6) := Below.trans (by (repeat (refine below_set ?_ (Nat.le_refl _))); exact BB.out) (B6.mono (Nat.le_of_lt l1)); clear E6 R6 T6 B6 t2)
    | (have qq := t1; (with_reducible refine at_alloc ?_); refine new_lawC _ b0.cs zero_rblk ?_; intro w2 X2 B2 l2; have V2 : Hid (Vr w2 w1.heap.size b0.cs) := X2; have V1 : Hid (Vr w2 w.heap.size x.cs) := V1.out.below B2 l1; have BB : Hid (Below w.heap.size w w2) := BB.out.trans (B2.mono BB.out.size); have nx := nine0 V1.out.1; have z0 := V1.out.free 0 (show (0 : Nat) < 9 by decide); have z1 := V1.out.free 1 (show (1 : Nat) < 9 by decide); have z2 := V1.out.free 2 (show (2 : Nat) < 9 by decide); have z4 := V1.out.free 4 (show (4 : Nat) < 9 by decide); have z5 := V1.out.free 5 (show (5 : Nat) < 9 by decide); have z6 := V1.out.free 6 (show (6 : Nat) < 9 by decide); have z7 := V1.out.free 7 (show (7 : Nat) < 9 by decide); have z8 := V1.out.free 8 (show (8 : Nat) < 9 by decide); clear X2 B2 t1; have t2 : (0 : Nat) = 0 := rfl)
    | (have qq := t0; refine box_lawC _ x.cs rfl ?_; intro w1 X1 B1 l1; have V1 : Hid (Vr w1 w.heap.size x.cs) := X1; have BB : Hid (Below w.heap.size w w1) := B1; clear X1 B1 t0; have t1 : (0 : Nat) = 0 := rfl))
  exact bodyPost_ret (v := .agg (Bk.cs { x with b := true }).toArray) (results_c rfl _ _ w1.heap.size _ rowy_rblk rfl HR.out) rfl ⟨rfl, BB.out⟩
set_option maxHeartbeats 1000000 in
theorem rdo5a (x : Bk) (s : Int) (w : World) (hs : s = 1) : Calls Try.prog 38 #[.agg x.cs.toArray, .int .i64 5, .int .i64 s] w fun e w' => e = .returned (.agg (Bk.cs { x with b := true, c := false, h := false, g := true, k := false }).toArray) ∧ Below w.heap.size w w' := by
  subst hs
  have t0 : (0 : Nat) = 0 := rfl
  go_enter Try.func38, Try.ntmps38
  go_wp2_with (first
    | (have qq := t2; (with_reducible refine at_store ?_); refine store_lawC _ (Bk.cs { x with b := true, c := false, h := false, g := true, k := false }) w1.heap.size 0 rfl rfl (by (repeat (refine there_set ?_ (Nat.ne_of_gt l1))); exact V2.out.2) size_rblk (Bk.one _) ?_; intro w6 E6 R6 T6 B6; have HR : Hid (w6.rangeAt w1.heap.size 0 (Bk.cs { x with b := true, c := false, h := false, g := true, k := false })) := R6; have BB : Hid (Below w.heap.size w w6) := Below.trans (by (repeat (refine below_set ?_ (Nat.le_refl _))); exact BB.out) (B6.mono (Nat.le_of_lt l1)); clear E6 R6 T6 B6 t2)
    | (have qq := t1; (with_reducible refine at_alloc ?_); refine new_lawC _ b0.cs zero_rblk ?_; intro w2 X2 B2 l2; have V2 : Hid (Vr w2 w1.heap.size b0.cs) := X2; have V1 : Hid (Vr w2 w.heap.size x.cs) := V1.out.below B2 l1; have BB : Hid (Below w.heap.size w w2) := BB.out.trans (B2.mono BB.out.size); have nx := nine0 V1.out.1; have z0 := V1.out.free 0 (show (0 : Nat) < 9 by decide); have z1 := V1.out.free 1 (show (1 : Nat) < 9 by decide); have z2 := V1.out.free 2 (show (2 : Nat) < 9 by decide); have z4 := V1.out.free 4 (show (4 : Nat) < 9 by decide); have z5 := V1.out.free 5 (show (5 : Nat) < 9 by decide); have z6 := V1.out.free 6 (show (6 : Nat) < 9 by decide); have z7 := V1.out.free 7 (show (7 : Nat) < 9 by decide); have z8 := V1.out.free 8 (show (8 : Nat) < 9 by decide); clear X2 B2 t1; have t2 : (0 : Nat) = 0 := rfl)
    | (have qq := t0; refine box_lawC _ x.cs rfl ?_; intro w1 X1 B1 l1; have V1 : Hid (Vr w1 w.heap.size x.cs) := X1; have BB : Hid (Below w.heap.size w w1) := B1; clear X1 B1 t0; have t1 : (0 : Nat) = 0 := rfl))
  exact bodyPost_ret (v := .agg (Bk.cs { x with b := true, c := false, h := false, g := true, k := false }).toArray) (results_c rfl _ _ w1.heap.size _ rowy_rblk rfl HR.out) rfl ⟨rfl, BB.out⟩
set_option maxHeartbeats 1000000 in
theorem rdo5b (x : Bk) (s : Int) (w : World) (hs : s ≠ 1) : Calls Try.prog 38 #[.agg x.cs.toArray, .int .i64 5, .int .i64 s] w fun e w' => e = .returned (.agg (Bk.cs { x with b := true, c := false, h := false, g := false, k := true }).toArray) ∧ Below w.heap.size w w' := by
  have e1 : (s == 1) = false := beq_eq_false_iff_ne.2 hs
  have e2 : (s != 1) = true := bne_iff_ne.2 hs
  have t0 : (0 : Nat) = 0 := rfl
  go_enter Try.func38, Try.ntmps38
  go_wp2_with (first
    | (have qq := t2; (with_reducible refine at_store ?_); refine store_lawC _ (Bk.cs { x with b := true, c := false, h := false, g := false, k := true }) w1.heap.size 0 rfl rfl (by (repeat (refine there_set ?_ (Nat.ne_of_gt l1))); exact V2.out.2) size_rblk (Bk.one _) ?_; intro w6 E6 R6 T6 B6; have HR : Hid (w6.rangeAt w1.heap.size 0 (Bk.cs { x with b := true, c := false, h := false, g := false, k := true })) := R6; have BB : Hid (Below w.heap.size w w6) := Below.trans (by (repeat (refine below_set ?_ (Nat.le_refl _))); exact BB.out) (B6.mono (Nat.le_of_lt l1)); clear E6 R6 T6 B6 t2)
    | (have qq := t1; (with_reducible refine at_alloc ?_); refine new_lawC _ b0.cs zero_rblk ?_; intro w2 X2 B2 l2; have V2 : Hid (Vr w2 w1.heap.size b0.cs) := X2; have V1 : Hid (Vr w2 w.heap.size x.cs) := V1.out.below B2 l1; have BB : Hid (Below w.heap.size w w2) := BB.out.trans (B2.mono BB.out.size); have nx := nine0 V1.out.1; have z0 := V1.out.free 0 (show (0 : Nat) < 9 by decide); have z1 := V1.out.free 1 (show (1 : Nat) < 9 by decide); have z2 := V1.out.free 2 (show (2 : Nat) < 9 by decide); have z4 := V1.out.free 4 (show (4 : Nat) < 9 by decide); have z5 := V1.out.free 5 (show (5 : Nat) < 9 by decide); have z6 := V1.out.free 6 (show (6 : Nat) < 9 by decide); have z7 := V1.out.free 7 (show (7 : Nat) < 9 by decide); have z8 := V1.out.free 8 (show (8 : Nat) < 9 by decide); clear X2 B2 t1; have t2 : (0 : Nat) = 0 := rfl)
    | (have qq := t0; refine box_lawC _ x.cs rfl ?_; intro w1 X1 B1 l1; have V1 : Hid (Vr w1 w.heap.size x.cs) := X1; have BB : Hid (Below w.heap.size w w1) := B1; clear X1 B1 t0; have t1 : (0 : Nat) = 0 := rfl))
  exact bodyPost_ret (v := .agg (Bk.cs { x with b := true, c := false, h := false, g := false, k := true }).toArray) (results_c rfl _ _ w1.heap.size _ rowy_rblk rfl HR.out) rfl ⟨rfl, BB.out⟩
set_option maxHeartbeats 1000000 in
theorem rdo6 (x : Bk) (s : Int) (w : World) (h0 : 0 ≤ x.u) (h1 : x.u ≤ 1000000000) : Calls Try.prog 38 #[.agg x.cs.toArray, .int .i64 6, .int .i64 s] w fun e w' => e = .returned (.agg (Bk.cs { x with u := x.u + 1 }).toArray) ∧ Below w.heap.size w w' := by
  have e1 : IntKind.i64.wrap (x.u + 1) = x.u + 1 := by rw [IntKind.wrap_i64]; omega
  have t0 : (0 : Nat) = 0 := rfl
  go_enter Try.func38, Try.ntmps38
  go_wp2_with (first
    | (have qq := t2; (with_reducible refine at_store ?_); refine store_lawC _ (Bk.cs { x with u := x.u + 1 }) w1.heap.size 0 rfl rfl (by (repeat (refine there_set ?_ (Nat.ne_of_gt l1))); exact V2.out.2) size_rblk (Bk.one _) ?_; intro w6 E6 R6 T6 B6; have HR : Hid (w6.rangeAt w1.heap.size 0 (Bk.cs { x with u := x.u + 1 })) := R6; have BB : Hid (Below w.heap.size w w6) := Below.trans (by (repeat (refine below_set ?_ (Nat.le_refl _))); exact BB.out) (B6.mono (Nat.le_of_lt l1)); clear E6 R6 T6 B6 t2)
    | (have qq := t1; (with_reducible refine at_alloc ?_); refine new_lawC _ b0.cs zero_rblk ?_; intro w2 X2 B2 l2; have V2 : Hid (Vr w2 w1.heap.size b0.cs) := X2; have V1 : Hid (Vr w2 w.heap.size x.cs) := V1.out.below B2 l1; have BB : Hid (Below w.heap.size w w2) := BB.out.trans (B2.mono BB.out.size); have nx := nine0 V1.out.1; have z0 := V1.out.free 0 (show (0 : Nat) < 9 by decide); have z1 := V1.out.free 1 (show (1 : Nat) < 9 by decide); have z2 := V1.out.free 2 (show (2 : Nat) < 9 by decide); have z4 := V1.out.free 4 (show (4 : Nat) < 9 by decide); have z5 := V1.out.free 5 (show (5 : Nat) < 9 by decide); have z6 := V1.out.free 6 (show (6 : Nat) < 9 by decide); have z7 := V1.out.free 7 (show (7 : Nat) < 9 by decide); have z8 := V1.out.free 8 (show (8 : Nat) < 9 by decide); clear X2 B2 t1; have t2 : (0 : Nat) = 0 := rfl)
    | (have qq := t0; refine box_lawC _ x.cs rfl ?_; intro w1 X1 B1 l1; have V1 : Hid (Vr w1 w.heap.size x.cs) := X1; have BB : Hid (Below w.heap.size w w1) := B1; clear X1 B1 t0; have t1 : (0 : Nat) = 0 := rfl))
  exact bodyPost_ret (v := .agg (Bk.cs { x with u := x.u + 1 }).toArray) (results_c rfl _ _ w1.heap.size _ rowy_rblk rfl HR.out) rfl ⟨rfl, BB.out⟩
set_option maxHeartbeats 1000000 in
theorem rdo7a (x : Bk) (s : Int) (w : World) (h0 : 0 ≤ x.l) (h1 : x.l ≤ 1000000000) (hs : s < -x.l) : Calls Try.prog 38 #[.agg x.cs.toArray, .int .i64 7, .int .i64 s] w fun e w' => e = .returned (.agg (Bk.cs { x with l := 0 }).toArray) ∧ Below w.heap.size w w' := by
  have e1 : IntKind.i64.wrap (0 - x.l) = -x.l := by rw [IntKind.wrap_i64]; omega
  have e1' : IntKind.i64.wrap (-x.l) = -x.l := by rw [IntKind.wrap_i64]; omega
  have t0 : (0 : Nat) = 0 := rfl
  go_enter Try.func38, Try.ntmps38
  go_wp2_with (first
    | (have qq := t2; (with_reducible refine at_store ?_); refine store_lawC _ (Bk.cs { x with l := 0 }) w1.heap.size 0 rfl rfl (by (repeat (refine there_set ?_ (Nat.ne_of_gt l1))); exact V2.out.2) size_rblk (Bk.one _) ?_; intro w6 E6 R6 T6 B6; have HR : Hid (w6.rangeAt w1.heap.size 0 (Bk.cs { x with l := 0 })) := R6; have BB : Hid (Below w.heap.size w w6) := Below.trans (by (repeat (refine below_set ?_ (Nat.le_refl _))); exact BB.out) (B6.mono (Nat.le_of_lt l1)); clear E6 R6 T6 B6 t2)
    | (have qq := t1; (with_reducible refine at_alloc ?_); refine new_lawC _ b0.cs zero_rblk ?_; intro w2 X2 B2 l2; have V2 : Hid (Vr w2 w1.heap.size b0.cs) := X2; have V1 : Hid (Vr w2 w.heap.size x.cs) := V1.out.below B2 l1; have BB : Hid (Below w.heap.size w w2) := BB.out.trans (B2.mono BB.out.size); have nx := nine0 V1.out.1; have z0 := V1.out.free 0 (show (0 : Nat) < 9 by decide); have z1 := V1.out.free 1 (show (1 : Nat) < 9 by decide); have z2 := V1.out.free 2 (show (2 : Nat) < 9 by decide); have z4 := V1.out.free 4 (show (4 : Nat) < 9 by decide); have z5 := V1.out.free 5 (show (5 : Nat) < 9 by decide); have z6 := V1.out.free 6 (show (6 : Nat) < 9 by decide); have z7 := V1.out.free 7 (show (7 : Nat) < 9 by decide); have z8 := V1.out.free 8 (show (8 : Nat) < 9 by decide); clear X2 B2 t1; have t2 : (0 : Nat) = 0 := rfl)
    | (have qq := t0; refine box_lawC _ x.cs rfl ?_; intro w1 X1 B1 l1; have V1 : Hid (Vr w1 w.heap.size x.cs) := X1; have BB : Hid (Below w.heap.size w w1) := B1; clear X1 B1 t0; have t1 : (0 : Nat) = 0 := rfl))
  exact bodyPost_ret (v := .agg (Bk.cs { x with l := 0 }).toArray) (results_c rfl _ _ w1.heap.size _ rowy_rblk rfl HR.out) rfl ⟨rfl, BB.out⟩
set_option maxHeartbeats 1000000 in
theorem rdo7b (x : Bk) (s : Int) (w : World) (h0 : 0 ≤ x.l) (h1 : x.l ≤ 1000000000) (hs : ¬ s < -x.l) (h2 : s ≤ 1000000) : Calls Try.prog 38 #[.agg x.cs.toArray, .int .i64 7, .int .i64 s] w fun e w' => e = .returned (.agg (Bk.cs { x with l := x.l + s }).toArray) ∧ Below w.heap.size w w' := by
  have e1 : IntKind.i64.wrap (0 - x.l) = -x.l := by rw [IntKind.wrap_i64]; omega
  have e1' : IntKind.i64.wrap (-x.l) = -x.l := by rw [IntKind.wrap_i64]; omega
  have e2 : IntKind.i64.wrap (x.l + s) = x.l + s := by rw [IntKind.wrap_i64]; omega
  have t0 : (0 : Nat) = 0 := rfl
  go_enter Try.func38, Try.ntmps38
  go_wp2_with (first
    | (have qq := t2; (with_reducible refine at_store ?_); refine store_lawC _ (Bk.cs { x with l := x.l + s }) w1.heap.size 0 rfl rfl (by (repeat (refine there_set ?_ (Nat.ne_of_gt l1))); exact V2.out.2) size_rblk (Bk.one _) ?_; intro w6 E6 R6 T6 B6; have HR : Hid (w6.rangeAt w1.heap.size 0 (Bk.cs { x with l := x.l + s })) := R6; have BB : Hid (Below w.heap.size w w6) := Below.trans (by (repeat (refine below_set ?_ (Nat.le_refl _))); exact BB.out) (B6.mono (Nat.le_of_lt l1)); clear E6 R6 T6 B6 t2)
    | (have qq := t1; (with_reducible refine at_alloc ?_); refine new_lawC _ b0.cs zero_rblk ?_; intro w2 X2 B2 l2; have V2 : Hid (Vr w2 w1.heap.size b0.cs) := X2; have V1 : Hid (Vr w2 w.heap.size x.cs) := V1.out.below B2 l1; have BB : Hid (Below w.heap.size w w2) := BB.out.trans (B2.mono BB.out.size); have nx := nine0 V1.out.1; have z0 := V1.out.free 0 (show (0 : Nat) < 9 by decide); have z1 := V1.out.free 1 (show (1 : Nat) < 9 by decide); have z2 := V1.out.free 2 (show (2 : Nat) < 9 by decide); have z4 := V1.out.free 4 (show (4 : Nat) < 9 by decide); have z5 := V1.out.free 5 (show (5 : Nat) < 9 by decide); have z6 := V1.out.free 6 (show (6 : Nat) < 9 by decide); have z7 := V1.out.free 7 (show (7 : Nat) < 9 by decide); have z8 := V1.out.free 8 (show (8 : Nat) < 9 by decide); clear X2 B2 t1; have t2 : (0 : Nat) = 0 := rfl)
    | (have qq := t0; refine box_lawC _ x.cs rfl ?_; intro w1 X1 B1 l1; have V1 : Hid (Vr w1 w.heap.size x.cs) := X1; have BB : Hid (Below w.heap.size w w1) := B1; clear X1 B1 t0; have t1 : (0 : Nat) = 0 := rfl))
  exact bodyPost_ret (v := .agg (Bk.cs { x with l := x.l + s }).toArray) (results_c rfl _ _ w1.heap.size _ rowy_rblk rfl HR.out) rfl ⟨rfl, BB.out⟩
theorem rdo_any (x : Bk) (kd s : Int) (w : World) (h1 : 1 ≤ kd) (h7 : kd ≤ 7) (hs : Sm x) (hu : kd = 7 → s ≤ 1000000) : Calls Try.prog 38 #[.agg x.cs.toArray, .int .i64 kd, .int .i64 s] w fun e w' => e = .returned (.agg (doB kd s x).cs.toArray) ∧ Below w.heap.size w w' := by
  have : kd = 1 ∨ kd = 2 ∨ kd = 3 ∨ kd = 4 ∨ kd = 5 ∨ kd = 6 ∨ kd = 7 := by omega
  rcases this with rfl | rfl | rfl | rfl | rfl | rfl | rfl
  · exact rdo1 x s w
  · exact rdo2 x s w
  · exact rdo3 x s w hs.2.2.2.2.1 hs.2.2.2.2.2
  · exact rdo4 x s w
  · show Calls _ _ _ _ fun e w' => e = .returned (.agg (Bk.cs { x with b := true, c := false, h := false, g := decide (s = 1), k := !decide (s = 1) }).toArray) ∧ _
    by_cases q : s = 1
    · rw [decide_eq_true q]; exact rdo5a x s w q
    · rw [decide_eq_false q]; exact rdo5b x s w q
  · exact rdo6 x s w hs.1 hs.2.1
  · show Calls _ _ _ _ fun e w' => e = .returned (.agg (Bk.cs { x with l := if s < -x.l then 0 else x.l + s }).toArray) ∧ _
    by_cases q : s < -x.l
    · rw [if_pos q]; exact rdo7a x s w hs.2.2.1 hs.2.2.2.1 q
    · rw [if_neg q]; exact rdo7b x s w hs.2.2.1 hs.2.2.2.1 q (hu rfl)
end Go.Proofs.Ytnmofigidlmcaaa.le
