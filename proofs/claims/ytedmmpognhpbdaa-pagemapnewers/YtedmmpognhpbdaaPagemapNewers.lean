/- Newer tells whether a spot is newer than another one, just as the document says: never both ways round, and one way at least if their heads are unlike in epoch or counter. No condition. -/
import Derived.Test.YtedmmpognhpbdaaJRfS
namespace Go.Proofs.Ytedmmpognhpbdaa.pagemapNewers
open Go.ChangeShapes Go.WideShapes Go.ChangeAt Go.RowKit
set_option maxRecDepth 20000

open Go.Proofs.Ytedmmpognhpbdaa.pm Go.Proofs.Ytedmmpognhpbdaa.he

theorem hl_asym (a b : Hd) : hl a b = true → hl b a = false := by
  unfold hl
  by_cases h : a.e = b.e
  · rw [if_pos h, if_pos h.symm]; simp; omega
  · rw [if_neg h, if_neg (Ne.symm h)]; simp; omega
theorem nw_asym (x y : Sp) : nw x y = true → nw y x = false := by
  unfold nw
  cases h1 : hl y.h x.h with
  | true =>
    have h2 := hl_asym _ _ h1
    rw [h2]
    simp
  | false =>
    cases h2 : hl x.h y.h with
    | true => simp
    | false =>
      simp only [Bool.false_or, Bool.not_false, Bool.true_and]
      exact hl_asym _ _
theorem nw_total (x y : Sp) (h : ¬ (x.h.e = y.h.e ∧ x.h.t = y.h.t)) : nw x y = false → nw y x = true := by
  unfold nw
  intro h1
  have h2 : hl y.h x.h = false := by
    cases q : hl y.h x.h with
    | true => rw [q] at h1; simp at h1
    | false => rfl
  have h3 : hl x.h y.h = true := by
    unfold hl at h2 ⊢
    by_cases he : x.h.e = y.h.e
    · rw [if_pos he]; rw [if_pos he.symm] at h2; simp at h2 ⊢; omega
    · rw [if_neg he]; rw [if_neg (Ne.symm he)] at h2; simp at h2 ⊢; omega
  rw [h3]
  rfl
set_option maxHeartbeats 4000000 in
theorem w0011 (x y : Sp) (w : World) (hp : nw x y = false) (hq : nw y x = false) (he : x.h.e = y.h.e) (ht : x.h.t = y.h.t) : Calls Try.prog 5 #[.agg x.cs.toArray, .agg y.cs.toArray] w fun e w' => e = .returned (.bool true) ∧ Below w.heap.size w w' := by
  have S1 : Hid (∀ W, Calls Try.prog 16 #[.agg x.cs.toArray, .agg y.cs.toArray] W fun e w' => e = .returned (.bool false) ∧ Below W.heap.size W w') := fun W => by rw [← hp]; exact newer_any x y W
  have S2 : Hid (∀ W, Calls Try.prog 16 #[.agg y.cs.toArray, .agg x.cs.toArray] W fun e w' => e = .returned (.bool false) ∧ Below W.heap.size W w') := fun W => by rw [← hq]; exact newer_any y x W
  have S3 : Hid (∀ W, Calls Try.prog 17 #[.agg x.cs.toArray, .agg y.cs.toArray] W fun e w' => e = .returned (.bool false) ∧ Below W.heap.size W w') := fun W => by rw [← hp]; exact rnewer_any x y W
  have e1 : (x.h.e != y.h.e) = false := by simp [he]
  have e3 : (x.h.e == y.h.e) = true := beq_iff_eq.2 he
  have e2 : (x.h.t != y.h.t) = false := by simp [ht]
  have e4 : (x.h.t == y.h.t) = true := beq_iff_eq.2 ht
  clear hp hq he ht
  have t0 : (0 : Nat) = 0 := rfl
  go_enter Try.func5, Try.ntmps5
  go_wp2_with (first
    | (have qq := t7; go_at_call 16; refine (S2.out _).mono ?_; rintro e w4 ⟨rfl, B9⟩; have VX : Hid (Vr w4 w.heap.size x.cs) := VX.out.below B9 (range_lt VX.out.1 (Nat.succ_pos _)); have VY : Hid (Vr w4 w1.heap.size y.cs) := VY.out.below B9 (range_lt VY.out.1 (Nat.succ_pos _)); have BB : Hid (Below w.heap.size w w4) := BB.out.trans (B9.mono BB.out.size); clear B9 t7)
    | (have qq := t4; go_at_call 16; refine (S1.out _).mono ?_; rintro e w3 ⟨rfl, B9⟩; have VX : Hid (Vr w3 w.heap.size x.cs) := VX.out.below B9 (range_lt VX.out.1 (Nat.succ_pos _)); have VY : Hid (Vr w3 w1.heap.size y.cs) := VY.out.below B9 (range_lt VY.out.1 (Nat.succ_pos _)); have BB : Hid (Below w.heap.size w w3) := BB.out.trans (B9.mono BB.out.size); have nx := cells0 VX.out.1; have ny := cells0 VY.out.1; clear B9 t4; have t7 : (0 : Nat) = 0 := rfl)
    | (have qq := t1; refine box_lawC _ y.cs rfl ?_; intro w2 X9 B9 l9; have VX : Hid (Vr w2 w.heap.size x.cs) := VX.out.below B9 (range_lt VX.out.1 (Nat.succ_pos _)); have VY : Hid (Vr w2 w1.heap.size y.cs) := X9; have BB : Hid (Below w.heap.size w w2) := BB.out.trans (B9.mono BB.out.size); have nx := cells0 VX.out.1; have ny := cells0 VY.out.1; clear B9 X9 l9 t1; have t4 : (0 : Nat) = 0 := rfl)
    | (have qq := t0; refine box_lawC _ x.cs rfl ?_; intro w1 X9 B9 l9; have VX : Hid (Vr w1 w.heap.size x.cs) := X9; have BB : Hid (Below w.heap.size w w1) := B9; clear B9 X9 l9 t0; have t1 : (0 : Nat) = 0 := rfl))
  have VX : Hid (Vr w4.drew w.heap.size x.cs) := VX.out.drewN 1
  have VY : Hid (Vr w4.drew w1.heap.size y.cs) := VY.out.drewN 1
  have BB : Hid (Below w.heap.size w w4.drew) := below_dr BB.out 1
  refine wp_region_held_drew (S := fun w' => w'.rangeAt w.heap.size 0 x.cs ∧ w'.rangeAt w1.heap.size 0 y.cs) (by kernel_rfl) ⟨VX.out.1, VY.out.1⟩ (fun hS => ?_)
  obtain ⟨z1, hx0⟩ : ∃ x, x = w4.drew := ⟨_, rfl⟩
  rw [← hx0] at hS VX VY BB ⊢
  clear hx0
  refine take_lawH 0 (some 14) (.bool false) rfl rfl (by kernel_rfl) (by kernel_rfl) (by kernel_rfl) (fun _ _ _ h => h) (Or.inl ⟨by rfl, fun w' hw' => by rfl⟩) hS ?_
  simp only [Act.put, List.setIfInBounds_toArray, List.set_cons_zero, List.set_cons_succ]
  refine take_lawH 1 (some 15) (.agg x.cs.toArray) rfl rfl (by kernel_rfl) (by kernel_rfl) (by kernel_rfl) (fun _ _ _ h => h) (Or.inl ⟨by rfl, fun w' hw' => by exact exec_loadN 37 (.tmp 2) rfl _ rfl _ _ (load_cells rowy_spot hw'.1)⟩) hS ?_
  simp only [Act.put, List.setIfInBounds_toArray, List.set_cons_zero, List.set_cons_succ]
  refine take_lawH 3 (some 17) (.agg y.cs.toArray) rfl rfl (by kernel_rfl) (by kernel_rfl) (by kernel_rfl) (fun _ _ _ h => h) (Or.inl ⟨by rfl, fun w' hw' => by exact exec_loadN 37 (.tmp 3) rfl _ rfl _ _ (load_cells rowy_spot hw'.2)⟩) hS ?_
  simp only [Act.put, List.setIfInBounds_toArray, List.set_cons_zero, List.set_cons_succ]
  refine wpAnyH_ready (rs := [2]) (by kernel_rfl) (by simp) ?_
  refine AllReadyH.cons rfl (fun K hK => ?_) AllReadyH.nil
  refine step_callG z1 rfl (some 16) rfl 18 #[.tmp 15] _ rfl (fun _ _ => rfl) #[.agg x.cs.toArray] (by simp only [List.map_toArray, List.map_cons, List.map_nil]; rfl) (fun v w' => v = .agg x.cs.toArray ∧ Below z1.heap.size z1 w') ((of_any x z1).mono fun e w' ⟨h1, h2⟩ => ⟨_, h1, rfl, h2⟩) ?_
  rintro v9 z2 ⟨rfl, B9⟩
  have VX : Hid (Vr z2 w.heap.size x.cs) := VX.out.below B9 (range_lt VX.out.1 (Nat.succ_pos _))
  have VY : Hid (Vr z2 w1.heap.size y.cs) := VY.out.below B9 (range_lt VY.out.1 (Nat.succ_pos _))
  have BB : Hid (Below w.heap.size w z2) := BB.out.trans (B9.mono BB.out.size)
  have hS : z2.rangeAt w.heap.size 0 x.cs ∧ z2.rangeAt w1.heap.size 0 y.cs := ⟨VX.out.1, VY.out.1⟩
  clear B9
  refine hK.out _ _ hS (fun _ => ?_)
  simp only [Act.put, List.setIfInBounds_toArray, List.set_cons_zero, List.set_cons_succ]
  clear hK K
  refine wpAnyH_ready (rs := [4]) (by kernel_rfl) (by simp) ?_
  refine AllReadyH.cons rfl (fun K hK => ?_) AllReadyH.nil
  refine step_callG z2 rfl (some 18) rfl 18 #[.tmp 17] _ rfl (fun _ _ => rfl) #[.agg y.cs.toArray] (by simp only [List.map_toArray, List.map_cons, List.map_nil]; rfl) (fun v w' => v = .agg y.cs.toArray ∧ Below z2.heap.size z2 w') ((of_any y z2).mono fun e w' ⟨h1, h2⟩ => ⟨_, h1, rfl, h2⟩) ?_
  rintro v9 z3 ⟨rfl, B9⟩
  have VX : Hid (Vr z3 w.heap.size x.cs) := VX.out.below B9 (range_lt VX.out.1 (Nat.succ_pos _))
  have VY : Hid (Vr z3 w1.heap.size y.cs) := VY.out.below B9 (range_lt VY.out.1 (Nat.succ_pos _))
  have BB : Hid (Below w.heap.size w z3) := BB.out.trans (B9.mono BB.out.size)
  have hS : z3.rangeAt w.heap.size 0 x.cs ∧ z3.rangeAt w1.heap.size 0 y.cs := ⟨VX.out.1, VY.out.1⟩
  clear B9
  refine hK.out _ _ hS (fun _ => ?_)
  simp only [Act.put, List.setIfInBounds_toArray, List.set_cons_zero, List.set_cons_succ]
  clear hK K
  refine wpAnyH_ready (rs := [5]) (by kernel_rfl) (by simp) ?_
  refine AllReadyH.cons rfl (fun K hK => ?_) AllReadyH.nil
  refine step_callG z3 rfl (some 19) rfl 17 #[.tmp 16, .tmp 18] _ rfl (fun _ _ => rfl) #[.agg x.cs.toArray, .agg y.cs.toArray] (by simp only [List.map_toArray, List.map_cons, List.map_nil]; rfl) (fun v w' => v = .bool false ∧ Below z3.heap.size z3 w') ((S3.out z3).mono fun e w' ⟨h1, h2⟩ => ⟨_, h1, rfl, h2⟩) ?_
  rintro v9 z4 ⟨rfl, B9⟩
  have VX : Hid (Vr z4 w.heap.size x.cs) := VX.out.below B9 (range_lt VX.out.1 (Nat.succ_pos _))
  have VY : Hid (Vr z4 w1.heap.size y.cs) := VY.out.below B9 (range_lt VY.out.1 (Nat.succ_pos _))
  have BB : Hid (Below w.heap.size w z4) := BB.out.trans (B9.mono BB.out.size)
  have hS : z4.rangeAt w.heap.size 0 x.cs ∧ z4.rangeAt w1.heap.size 0 y.cs := ⟨VX.out.1, VY.out.1⟩
  clear B9
  refine hK.out _ _ hS (fun _ => ?_)
  simp only [Act.put, List.setIfInBounds_toArray, List.set_cons_zero, List.set_cons_succ]
  clear hK K
  refine take_lawH 6 (some 20) (.bool false) rfl rfl (by kernel_rfl) (by kernel_rfl) (by kernel_rfl) (fun _ _ _ h => h) (Or.inl ⟨by rfl, fun w' hw' => by go_simp⟩) hS ?_
  simp only [Act.put, List.setIfInBounds_toArray, List.set_cons_zero, List.set_cons_succ]
  refine take_lawH 7 (some 21) (.bool false) rfl rfl (by kernel_rfl) (by kernel_rfl) (by kernel_rfl) (fun _ _ _ h => h) (Or.inl ⟨by rfl, fun w' hw' => by rfl⟩) hS ?_
  simp only [Act.put, List.setIfInBounds_toArray, List.set_cons_zero, List.set_cons_succ]
  refine take_lawH 8 (some 22) (.bool false) rfl rfl (by kernel_rfl) (by kernel_rfl) (by kernel_rfl) (fun _ _ _ h => h) (Or.inl ⟨by rfl, fun w' hw' => by rfl⟩) hS ?_
  simp only [Act.put, List.setIfInBounds_toArray, List.set_cons_zero, List.set_cons_succ]
  refine take_lawH 9 (some 23) (.bool false) rfl rfl (by kernel_rfl) (by kernel_rfl) (by kernel_rfl) (fun _ _ _ h => h) (Or.inl ⟨by rfl, fun w' hw' => by rfl⟩) hS ?_
  simp only [Act.put, List.setIfInBounds_toArray, List.set_cons_zero, List.set_cons_succ]
  refine take_lawH 10 (some 24) (undef) rfl rfl (by kernel_rfl) (by kernel_rfl) (by kernel_rfl) (fun _ _ _ h => h) (Or.inr ⟨by rfl, rfl⟩) hS ?_
  simp only [Act.put, List.setIfInBounds_toArray, List.set_cons_zero, List.set_cons_succ]
  refine take_lawH 11 (some 25) (.bool false) rfl rfl (by kernel_rfl) (by kernel_rfl) (by kernel_rfl) (fun _ _ _ h => h) (Or.inl ⟨by rfl, fun w' hw' => by rfl⟩) hS ?_
  simp only [Act.put, List.setIfInBounds_toArray, List.set_cons_zero, List.set_cons_succ]
  refine take_lawH 12 (some 26) (.bool false) rfl rfl (by kernel_rfl) (by kernel_rfl) (by kernel_rfl) (fun _ _ _ h => h) (Or.inl ⟨by rfl, fun w' hw' => by rfl⟩) hS ?_
  simp only [Act.put, List.setIfInBounds_toArray, List.set_cons_zero, List.set_cons_succ]
  refine wpAnyH_done (by kernel_rfl) ?_ _
  have nx := cells0 VX.out.1
  have ny := cells0 VY.out.1
  go_wp2_with (go_at_call 14; refine (awake_any _).mono ?_; rintro e9 w9 ⟨rfl, B9⟩; have BB : Hid (Below w.heap.size w w9) := BB.out.trans (B9.mono BB.out.size); clear B9)
  go_ret
  exact ⟨rfl, BB.out⟩
set_option maxHeartbeats 4000000 in
theorem w0100 (x y : Sp) (w : World) (hp : nw x y = false) (hq : nw y x = true) (he : ¬ x.h.e = y.h.e) : Calls Try.prog 5 #[.agg x.cs.toArray, .agg y.cs.toArray] w fun e w' => e = .returned (.bool true) ∧ Below w.heap.size w w' := by
  have S1 : Hid (∀ W, Calls Try.prog 16 #[.agg x.cs.toArray, .agg y.cs.toArray] W fun e w' => e = .returned (.bool false) ∧ Below W.heap.size W w') := fun W => by rw [← hp]; exact newer_any x y W
  have S2 : Hid (∀ W, Calls Try.prog 16 #[.agg y.cs.toArray, .agg x.cs.toArray] W fun e w' => e = .returned (.bool true) ∧ Below W.heap.size W w') := fun W => by rw [← hq]; exact newer_any y x W
  have S3 : Hid (∀ W, Calls Try.prog 17 #[.agg x.cs.toArray, .agg y.cs.toArray] W fun e w' => e = .returned (.bool false) ∧ Below W.heap.size W w') := fun W => by rw [← hp]; exact rnewer_any x y W
  have e1 : (x.h.e != y.h.e) = true := by simp [he]
  have e3 : (x.h.e == y.h.e) = false := beq_eq_false_iff_ne.2 he
  clear hp hq he
  have t0 : (0 : Nat) = 0 := rfl
  go_enter Try.func5, Try.ntmps5
  go_wp2_with (first
    | (have qq := t7; go_at_call 16; refine (S2.out _).mono ?_; rintro e w4 ⟨rfl, B9⟩; have VX : Hid (Vr w4 w.heap.size x.cs) := VX.out.below B9 (range_lt VX.out.1 (Nat.succ_pos _)); have VY : Hid (Vr w4 w1.heap.size y.cs) := VY.out.below B9 (range_lt VY.out.1 (Nat.succ_pos _)); have BB : Hid (Below w.heap.size w w4) := BB.out.trans (B9.mono BB.out.size); clear B9 t7)
    | (have qq := t4; go_at_call 16; refine (S1.out _).mono ?_; rintro e w3 ⟨rfl, B9⟩; have VX : Hid (Vr w3 w.heap.size x.cs) := VX.out.below B9 (range_lt VX.out.1 (Nat.succ_pos _)); have VY : Hid (Vr w3 w1.heap.size y.cs) := VY.out.below B9 (range_lt VY.out.1 (Nat.succ_pos _)); have BB : Hid (Below w.heap.size w w3) := BB.out.trans (B9.mono BB.out.size); have nx := cells0 VX.out.1; have ny := cells0 VY.out.1; clear B9 t4; have t7 : (0 : Nat) = 0 := rfl)
    | (have qq := t1; refine box_lawC _ y.cs rfl ?_; intro w2 X9 B9 l9; have VX : Hid (Vr w2 w.heap.size x.cs) := VX.out.below B9 (range_lt VX.out.1 (Nat.succ_pos _)); have VY : Hid (Vr w2 w1.heap.size y.cs) := X9; have BB : Hid (Below w.heap.size w w2) := BB.out.trans (B9.mono BB.out.size); have nx := cells0 VX.out.1; have ny := cells0 VY.out.1; clear B9 X9 l9 t1; have t4 : (0 : Nat) = 0 := rfl)
    | (have qq := t0; refine box_lawC _ x.cs rfl ?_; intro w1 X9 B9 l9; have VX : Hid (Vr w1 w.heap.size x.cs) := X9; have BB : Hid (Below w.heap.size w w1) := B9; clear B9 X9 l9 t0; have t1 : (0 : Nat) = 0 := rfl))
  have VX : Hid (Vr w4.drew w.heap.size x.cs) := VX.out.drewN 1
  have VY : Hid (Vr w4.drew w1.heap.size y.cs) := VY.out.drewN 1
  have BB : Hid (Below w.heap.size w w4.drew) := below_dr BB.out 1
  refine wp_region_held_drew (S := fun w' => w'.rangeAt w.heap.size 0 x.cs ∧ w'.rangeAt w1.heap.size 0 y.cs) (by kernel_rfl) ⟨VX.out.1, VY.out.1⟩ (fun hS => ?_)
  obtain ⟨z1, hx0⟩ : ∃ x, x = w4.drew := ⟨_, rfl⟩
  rw [← hx0] at hS VX VY BB ⊢
  clear hx0
  refine take_lawH 0 (some 14) (.bool false) rfl rfl (by kernel_rfl) (by kernel_rfl) (by kernel_rfl) (fun _ _ _ h => h) (Or.inl ⟨by rfl, fun w' hw' => by rfl⟩) hS ?_
  simp only [Act.put, List.setIfInBounds_toArray, List.set_cons_zero, List.set_cons_succ]
  refine take_lawH 1 (some 15) (.agg x.cs.toArray) rfl rfl (by kernel_rfl) (by kernel_rfl) (by kernel_rfl) (fun _ _ _ h => h) (Or.inl ⟨by rfl, fun w' hw' => by exact exec_loadN 37 (.tmp 2) rfl _ rfl _ _ (load_cells rowy_spot hw'.1)⟩) hS ?_
  simp only [Act.put, List.setIfInBounds_toArray, List.set_cons_zero, List.set_cons_succ]
  refine take_lawH 3 (some 17) (.agg y.cs.toArray) rfl rfl (by kernel_rfl) (by kernel_rfl) (by kernel_rfl) (fun _ _ _ h => h) (Or.inl ⟨by rfl, fun w' hw' => by exact exec_loadN 37 (.tmp 3) rfl _ rfl _ _ (load_cells rowy_spot hw'.2)⟩) hS ?_
  simp only [Act.put, List.setIfInBounds_toArray, List.set_cons_zero, List.set_cons_succ]
  refine wpAnyH_ready (rs := [2]) (by kernel_rfl) (by simp) ?_
  refine AllReadyH.cons rfl (fun K hK => ?_) AllReadyH.nil
  refine step_callG z1 rfl (some 16) rfl 18 #[.tmp 15] _ rfl (fun _ _ => rfl) #[.agg x.cs.toArray] (by simp only [List.map_toArray, List.map_cons, List.map_nil]; rfl) (fun v w' => v = .agg x.cs.toArray ∧ Below z1.heap.size z1 w') ((of_any x z1).mono fun e w' ⟨h1, h2⟩ => ⟨_, h1, rfl, h2⟩) ?_
  rintro v9 z2 ⟨rfl, B9⟩
  have VX : Hid (Vr z2 w.heap.size x.cs) := VX.out.below B9 (range_lt VX.out.1 (Nat.succ_pos _))
  have VY : Hid (Vr z2 w1.heap.size y.cs) := VY.out.below B9 (range_lt VY.out.1 (Nat.succ_pos _))
  have BB : Hid (Below w.heap.size w z2) := BB.out.trans (B9.mono BB.out.size)
  have hS : z2.rangeAt w.heap.size 0 x.cs ∧ z2.rangeAt w1.heap.size 0 y.cs := ⟨VX.out.1, VY.out.1⟩
  clear B9
  refine hK.out _ _ hS (fun _ => ?_)
  simp only [Act.put, List.setIfInBounds_toArray, List.set_cons_zero, List.set_cons_succ]
  clear hK K
  refine wpAnyH_ready (rs := [4]) (by kernel_rfl) (by simp) ?_
  refine AllReadyH.cons rfl (fun K hK => ?_) AllReadyH.nil
  refine step_callG z2 rfl (some 18) rfl 18 #[.tmp 17] _ rfl (fun _ _ => rfl) #[.agg y.cs.toArray] (by simp only [List.map_toArray, List.map_cons, List.map_nil]; rfl) (fun v w' => v = .agg y.cs.toArray ∧ Below z2.heap.size z2 w') ((of_any y z2).mono fun e w' ⟨h1, h2⟩ => ⟨_, h1, rfl, h2⟩) ?_
  rintro v9 z3 ⟨rfl, B9⟩
  have VX : Hid (Vr z3 w.heap.size x.cs) := VX.out.below B9 (range_lt VX.out.1 (Nat.succ_pos _))
  have VY : Hid (Vr z3 w1.heap.size y.cs) := VY.out.below B9 (range_lt VY.out.1 (Nat.succ_pos _))
  have BB : Hid (Below w.heap.size w z3) := BB.out.trans (B9.mono BB.out.size)
  have hS : z3.rangeAt w.heap.size 0 x.cs ∧ z3.rangeAt w1.heap.size 0 y.cs := ⟨VX.out.1, VY.out.1⟩
  clear B9
  refine hK.out _ _ hS (fun _ => ?_)
  simp only [Act.put, List.setIfInBounds_toArray, List.set_cons_zero, List.set_cons_succ]
  clear hK K
  refine wpAnyH_ready (rs := [5]) (by kernel_rfl) (by simp) ?_
  refine AllReadyH.cons rfl (fun K hK => ?_) AllReadyH.nil
  refine step_callG z3 rfl (some 19) rfl 17 #[.tmp 16, .tmp 18] _ rfl (fun _ _ => rfl) #[.agg x.cs.toArray, .agg y.cs.toArray] (by simp only [List.map_toArray, List.map_cons, List.map_nil]; rfl) (fun v w' => v = .bool false ∧ Below z3.heap.size z3 w') ((S3.out z3).mono fun e w' ⟨h1, h2⟩ => ⟨_, h1, rfl, h2⟩) ?_
  rintro v9 z4 ⟨rfl, B9⟩
  have VX : Hid (Vr z4 w.heap.size x.cs) := VX.out.below B9 (range_lt VX.out.1 (Nat.succ_pos _))
  have VY : Hid (Vr z4 w1.heap.size y.cs) := VY.out.below B9 (range_lt VY.out.1 (Nat.succ_pos _))
  have BB : Hid (Below w.heap.size w z4) := BB.out.trans (B9.mono BB.out.size)
  have hS : z4.rangeAt w.heap.size 0 x.cs ∧ z4.rangeAt w1.heap.size 0 y.cs := ⟨VX.out.1, VY.out.1⟩
  clear B9
  refine hK.out _ _ hS (fun _ => ?_)
  simp only [Act.put, List.setIfInBounds_toArray, List.set_cons_zero, List.set_cons_succ]
  clear hK K
  refine take_lawH 6 (some 20) (.bool false) rfl rfl (by kernel_rfl) (by kernel_rfl) (by kernel_rfl) (fun _ _ _ h => h) (Or.inl ⟨by rfl, fun w' hw' => by go_simp⟩) hS ?_
  simp only [Act.put, List.setIfInBounds_toArray, List.set_cons_zero, List.set_cons_succ]
  refine take_lawH 7 (some 21) (.bool false) rfl rfl (by kernel_rfl) (by kernel_rfl) (by kernel_rfl) (fun _ _ _ h => h) (Or.inl ⟨by rfl, fun w' hw' => by rfl⟩) hS ?_
  simp only [Act.put, List.setIfInBounds_toArray, List.set_cons_zero, List.set_cons_succ]
  refine take_lawH 8 (some 22) (.bool false) rfl rfl (by kernel_rfl) (by kernel_rfl) (by kernel_rfl) (fun _ _ _ h => h) (Or.inl ⟨by rfl, fun w' hw' => by rfl⟩) hS ?_
  simp only [Act.put, List.setIfInBounds_toArray, List.set_cons_zero, List.set_cons_succ]
  refine take_lawH 9 (some 23) (.bool false) rfl rfl (by kernel_rfl) (by kernel_rfl) (by kernel_rfl) (fun _ _ _ h => h) (Or.inl ⟨by rfl, fun w' hw' => by rfl⟩) hS ?_
  simp only [Act.put, List.setIfInBounds_toArray, List.set_cons_zero, List.set_cons_succ]
  refine take_lawH 10 (some 24) (undef) rfl rfl (by kernel_rfl) (by kernel_rfl) (by kernel_rfl) (fun _ _ _ h => h) (Or.inr ⟨by rfl, rfl⟩) hS ?_
  simp only [Act.put, List.setIfInBounds_toArray, List.set_cons_zero, List.set_cons_succ]
  refine take_lawH 11 (some 25) (.bool false) rfl rfl (by kernel_rfl) (by kernel_rfl) (by kernel_rfl) (fun _ _ _ h => h) (Or.inl ⟨by rfl, fun w' hw' => by rfl⟩) hS ?_
  simp only [Act.put, List.setIfInBounds_toArray, List.set_cons_zero, List.set_cons_succ]
  refine take_lawH 12 (some 26) (.bool false) rfl rfl (by kernel_rfl) (by kernel_rfl) (by kernel_rfl) (fun _ _ _ h => h) (Or.inl ⟨by rfl, fun w' hw' => by rfl⟩) hS ?_
  simp only [Act.put, List.setIfInBounds_toArray, List.set_cons_zero, List.set_cons_succ]
  refine wpAnyH_done (by kernel_rfl) ?_ _
  have nx := cells0 VX.out.1
  have ny := cells0 VY.out.1
  go_wp2_with (go_at_call 14; refine (awake_any _).mono ?_; rintro e9 w9 ⟨rfl, B9⟩; have BB : Hid (Below w.heap.size w w9) := BB.out.trans (B9.mono BB.out.size); clear B9)
  go_ret
  exact ⟨rfl, BB.out⟩
set_option maxHeartbeats 4000000 in
theorem w0110 (x y : Sp) (w : World) (hp : nw x y = false) (hq : nw y x = true) (he : x.h.e = y.h.e) (ht : ¬ x.h.t = y.h.t) : Calls Try.prog 5 #[.agg x.cs.toArray, .agg y.cs.toArray] w fun e w' => e = .returned (.bool true) ∧ Below w.heap.size w w' := by
  have S1 : Hid (∀ W, Calls Try.prog 16 #[.agg x.cs.toArray, .agg y.cs.toArray] W fun e w' => e = .returned (.bool false) ∧ Below W.heap.size W w') := fun W => by rw [← hp]; exact newer_any x y W
  have S2 : Hid (∀ W, Calls Try.prog 16 #[.agg y.cs.toArray, .agg x.cs.toArray] W fun e w' => e = .returned (.bool true) ∧ Below W.heap.size W w') := fun W => by rw [← hq]; exact newer_any y x W
  have S3 : Hid (∀ W, Calls Try.prog 17 #[.agg x.cs.toArray, .agg y.cs.toArray] W fun e w' => e = .returned (.bool false) ∧ Below W.heap.size W w') := fun W => by rw [← hp]; exact rnewer_any x y W
  have e1 : (x.h.e != y.h.e) = false := by simp [he]
  have e3 : (x.h.e == y.h.e) = true := beq_iff_eq.2 he
  have e2 : (x.h.t != y.h.t) = true := by simp [ht]
  have e4 : (x.h.t == y.h.t) = false := beq_eq_false_iff_ne.2 ht
  clear hp hq he ht
  have t0 : (0 : Nat) = 0 := rfl
  go_enter Try.func5, Try.ntmps5
  go_wp2_with (first
    | (have qq := t7; go_at_call 16; refine (S2.out _).mono ?_; rintro e w4 ⟨rfl, B9⟩; have VX : Hid (Vr w4 w.heap.size x.cs) := VX.out.below B9 (range_lt VX.out.1 (Nat.succ_pos _)); have VY : Hid (Vr w4 w1.heap.size y.cs) := VY.out.below B9 (range_lt VY.out.1 (Nat.succ_pos _)); have BB : Hid (Below w.heap.size w w4) := BB.out.trans (B9.mono BB.out.size); clear B9 t7)
    | (have qq := t4; go_at_call 16; refine (S1.out _).mono ?_; rintro e w3 ⟨rfl, B9⟩; have VX : Hid (Vr w3 w.heap.size x.cs) := VX.out.below B9 (range_lt VX.out.1 (Nat.succ_pos _)); have VY : Hid (Vr w3 w1.heap.size y.cs) := VY.out.below B9 (range_lt VY.out.1 (Nat.succ_pos _)); have BB : Hid (Below w.heap.size w w3) := BB.out.trans (B9.mono BB.out.size); have nx := cells0 VX.out.1; have ny := cells0 VY.out.1; clear B9 t4; have t7 : (0 : Nat) = 0 := rfl)
    | (have qq := t1; refine box_lawC _ y.cs rfl ?_; intro w2 X9 B9 l9; have VX : Hid (Vr w2 w.heap.size x.cs) := VX.out.below B9 (range_lt VX.out.1 (Nat.succ_pos _)); have VY : Hid (Vr w2 w1.heap.size y.cs) := X9; have BB : Hid (Below w.heap.size w w2) := BB.out.trans (B9.mono BB.out.size); have nx := cells0 VX.out.1; have ny := cells0 VY.out.1; clear B9 X9 l9 t1; have t4 : (0 : Nat) = 0 := rfl)
    | (have qq := t0; refine box_lawC _ x.cs rfl ?_; intro w1 X9 B9 l9; have VX : Hid (Vr w1 w.heap.size x.cs) := X9; have BB : Hid (Below w.heap.size w w1) := B9; clear B9 X9 l9 t0; have t1 : (0 : Nat) = 0 := rfl))
  have VX : Hid (Vr w4.drew w.heap.size x.cs) := VX.out.drewN 1
  have VY : Hid (Vr w4.drew w1.heap.size y.cs) := VY.out.drewN 1
  have BB : Hid (Below w.heap.size w w4.drew) := below_dr BB.out 1
  refine wp_region_held_drew (S := fun w' => w'.rangeAt w.heap.size 0 x.cs ∧ w'.rangeAt w1.heap.size 0 y.cs) (by kernel_rfl) ⟨VX.out.1, VY.out.1⟩ (fun hS => ?_)
  obtain ⟨z1, hx0⟩ : ∃ x, x = w4.drew := ⟨_, rfl⟩
  rw [← hx0] at hS VX VY BB ⊢
  clear hx0
  refine take_lawH 0 (some 14) (.bool false) rfl rfl (by kernel_rfl) (by kernel_rfl) (by kernel_rfl) (fun _ _ _ h => h) (Or.inl ⟨by rfl, fun w' hw' => by rfl⟩) hS ?_
  simp only [Act.put, List.setIfInBounds_toArray, List.set_cons_zero, List.set_cons_succ]
  refine take_lawH 1 (some 15) (.agg x.cs.toArray) rfl rfl (by kernel_rfl) (by kernel_rfl) (by kernel_rfl) (fun _ _ _ h => h) (Or.inl ⟨by rfl, fun w' hw' => by exact exec_loadN 37 (.tmp 2) rfl _ rfl _ _ (load_cells rowy_spot hw'.1)⟩) hS ?_
  simp only [Act.put, List.setIfInBounds_toArray, List.set_cons_zero, List.set_cons_succ]
  refine take_lawH 3 (some 17) (.agg y.cs.toArray) rfl rfl (by kernel_rfl) (by kernel_rfl) (by kernel_rfl) (fun _ _ _ h => h) (Or.inl ⟨by rfl, fun w' hw' => by exact exec_loadN 37 (.tmp 3) rfl _ rfl _ _ (load_cells rowy_spot hw'.2)⟩) hS ?_
  simp only [Act.put, List.setIfInBounds_toArray, List.set_cons_zero, List.set_cons_succ]
  refine wpAnyH_ready (rs := [2]) (by kernel_rfl) (by simp) ?_
  refine AllReadyH.cons rfl (fun K hK => ?_) AllReadyH.nil
  refine step_callG z1 rfl (some 16) rfl 18 #[.tmp 15] _ rfl (fun _ _ => rfl) #[.agg x.cs.toArray] (by simp only [List.map_toArray, List.map_cons, List.map_nil]; rfl) (fun v w' => v = .agg x.cs.toArray ∧ Below z1.heap.size z1 w') ((of_any x z1).mono fun e w' ⟨h1, h2⟩ => ⟨_, h1, rfl, h2⟩) ?_
  rintro v9 z2 ⟨rfl, B9⟩
  have VX : Hid (Vr z2 w.heap.size x.cs) := VX.out.below B9 (range_lt VX.out.1 (Nat.succ_pos _))
  have VY : Hid (Vr z2 w1.heap.size y.cs) := VY.out.below B9 (range_lt VY.out.1 (Nat.succ_pos _))
  have BB : Hid (Below w.heap.size w z2) := BB.out.trans (B9.mono BB.out.size)
  have hS : z2.rangeAt w.heap.size 0 x.cs ∧ z2.rangeAt w1.heap.size 0 y.cs := ⟨VX.out.1, VY.out.1⟩
  clear B9
  refine hK.out _ _ hS (fun _ => ?_)
  simp only [Act.put, List.setIfInBounds_toArray, List.set_cons_zero, List.set_cons_succ]
  clear hK K
  refine wpAnyH_ready (rs := [4]) (by kernel_rfl) (by simp) ?_
  refine AllReadyH.cons rfl (fun K hK => ?_) AllReadyH.nil
  refine step_callG z2 rfl (some 18) rfl 18 #[.tmp 17] _ rfl (fun _ _ => rfl) #[.agg y.cs.toArray] (by simp only [List.map_toArray, List.map_cons, List.map_nil]; rfl) (fun v w' => v = .agg y.cs.toArray ∧ Below z2.heap.size z2 w') ((of_any y z2).mono fun e w' ⟨h1, h2⟩ => ⟨_, h1, rfl, h2⟩) ?_
  rintro v9 z3 ⟨rfl, B9⟩
  have VX : Hid (Vr z3 w.heap.size x.cs) := VX.out.below B9 (range_lt VX.out.1 (Nat.succ_pos _))
  have VY : Hid (Vr z3 w1.heap.size y.cs) := VY.out.below B9 (range_lt VY.out.1 (Nat.succ_pos _))
  have BB : Hid (Below w.heap.size w z3) := BB.out.trans (B9.mono BB.out.size)
  have hS : z3.rangeAt w.heap.size 0 x.cs ∧ z3.rangeAt w1.heap.size 0 y.cs := ⟨VX.out.1, VY.out.1⟩
  clear B9
  refine hK.out _ _ hS (fun _ => ?_)
  simp only [Act.put, List.setIfInBounds_toArray, List.set_cons_zero, List.set_cons_succ]
  clear hK K
  refine wpAnyH_ready (rs := [5]) (by kernel_rfl) (by simp) ?_
  refine AllReadyH.cons rfl (fun K hK => ?_) AllReadyH.nil
  refine step_callG z3 rfl (some 19) rfl 17 #[.tmp 16, .tmp 18] _ rfl (fun _ _ => rfl) #[.agg x.cs.toArray, .agg y.cs.toArray] (by simp only [List.map_toArray, List.map_cons, List.map_nil]; rfl) (fun v w' => v = .bool false ∧ Below z3.heap.size z3 w') ((S3.out z3).mono fun e w' ⟨h1, h2⟩ => ⟨_, h1, rfl, h2⟩) ?_
  rintro v9 z4 ⟨rfl, B9⟩
  have VX : Hid (Vr z4 w.heap.size x.cs) := VX.out.below B9 (range_lt VX.out.1 (Nat.succ_pos _))
  have VY : Hid (Vr z4 w1.heap.size y.cs) := VY.out.below B9 (range_lt VY.out.1 (Nat.succ_pos _))
  have BB : Hid (Below w.heap.size w z4) := BB.out.trans (B9.mono BB.out.size)
  have hS : z4.rangeAt w.heap.size 0 x.cs ∧ z4.rangeAt w1.heap.size 0 y.cs := ⟨VX.out.1, VY.out.1⟩
  clear B9
  refine hK.out _ _ hS (fun _ => ?_)
  simp only [Act.put, List.setIfInBounds_toArray, List.set_cons_zero, List.set_cons_succ]
  clear hK K
  refine take_lawH 6 (some 20) (.bool false) rfl rfl (by kernel_rfl) (by kernel_rfl) (by kernel_rfl) (fun _ _ _ h => h) (Or.inl ⟨by rfl, fun w' hw' => by go_simp⟩) hS ?_
  simp only [Act.put, List.setIfInBounds_toArray, List.set_cons_zero, List.set_cons_succ]
  refine take_lawH 7 (some 21) (.bool false) rfl rfl (by kernel_rfl) (by kernel_rfl) (by kernel_rfl) (fun _ _ _ h => h) (Or.inl ⟨by rfl, fun w' hw' => by rfl⟩) hS ?_
  simp only [Act.put, List.setIfInBounds_toArray, List.set_cons_zero, List.set_cons_succ]
  refine take_lawH 8 (some 22) (.bool false) rfl rfl (by kernel_rfl) (by kernel_rfl) (by kernel_rfl) (fun _ _ _ h => h) (Or.inl ⟨by rfl, fun w' hw' => by rfl⟩) hS ?_
  simp only [Act.put, List.setIfInBounds_toArray, List.set_cons_zero, List.set_cons_succ]
  refine take_lawH 9 (some 23) (.bool false) rfl rfl (by kernel_rfl) (by kernel_rfl) (by kernel_rfl) (fun _ _ _ h => h) (Or.inl ⟨by rfl, fun w' hw' => by rfl⟩) hS ?_
  simp only [Act.put, List.setIfInBounds_toArray, List.set_cons_zero, List.set_cons_succ]
  refine take_lawH 10 (some 24) (undef) rfl rfl (by kernel_rfl) (by kernel_rfl) (by kernel_rfl) (fun _ _ _ h => h) (Or.inr ⟨by rfl, rfl⟩) hS ?_
  simp only [Act.put, List.setIfInBounds_toArray, List.set_cons_zero, List.set_cons_succ]
  refine take_lawH 11 (some 25) (.bool false) rfl rfl (by kernel_rfl) (by kernel_rfl) (by kernel_rfl) (fun _ _ _ h => h) (Or.inl ⟨by rfl, fun w' hw' => by rfl⟩) hS ?_
  simp only [Act.put, List.setIfInBounds_toArray, List.set_cons_zero, List.set_cons_succ]
  refine take_lawH 12 (some 26) (.bool false) rfl rfl (by kernel_rfl) (by kernel_rfl) (by kernel_rfl) (fun _ _ _ h => h) (Or.inl ⟨by rfl, fun w' hw' => by rfl⟩) hS ?_
  simp only [Act.put, List.setIfInBounds_toArray, List.set_cons_zero, List.set_cons_succ]
  refine wpAnyH_done (by kernel_rfl) ?_ _
  have nx := cells0 VX.out.1
  have ny := cells0 VY.out.1
  go_wp2_with (go_at_call 14; refine (awake_any _).mono ?_; rintro e9 w9 ⟨rfl, B9⟩; have BB : Hid (Below w.heap.size w w9) := BB.out.trans (B9.mono BB.out.size); clear B9)
  go_ret
  exact ⟨rfl, BB.out⟩
set_option maxHeartbeats 4000000 in
theorem w0111 (x y : Sp) (w : World) (hp : nw x y = false) (hq : nw y x = true) (he : x.h.e = y.h.e) (ht : x.h.t = y.h.t) : Calls Try.prog 5 #[.agg x.cs.toArray, .agg y.cs.toArray] w fun e w' => e = .returned (.bool true) ∧ Below w.heap.size w w' := by
  have S1 : Hid (∀ W, Calls Try.prog 16 #[.agg x.cs.toArray, .agg y.cs.toArray] W fun e w' => e = .returned (.bool false) ∧ Below W.heap.size W w') := fun W => by rw [← hp]; exact newer_any x y W
  have S2 : Hid (∀ W, Calls Try.prog 16 #[.agg y.cs.toArray, .agg x.cs.toArray] W fun e w' => e = .returned (.bool true) ∧ Below W.heap.size W w') := fun W => by rw [← hq]; exact newer_any y x W
  have S3 : Hid (∀ W, Calls Try.prog 17 #[.agg x.cs.toArray, .agg y.cs.toArray] W fun e w' => e = .returned (.bool false) ∧ Below W.heap.size W w') := fun W => by rw [← hp]; exact rnewer_any x y W
  have e1 : (x.h.e != y.h.e) = false := by simp [he]
  have e3 : (x.h.e == y.h.e) = true := beq_iff_eq.2 he
  have e2 : (x.h.t != y.h.t) = false := by simp [ht]
  have e4 : (x.h.t == y.h.t) = true := beq_iff_eq.2 ht
  clear hp hq he ht
  have t0 : (0 : Nat) = 0 := rfl
  go_enter Try.func5, Try.ntmps5
  go_wp2_with (first
    | (have qq := t7; go_at_call 16; refine (S2.out _).mono ?_; rintro e w4 ⟨rfl, B9⟩; have VX : Hid (Vr w4 w.heap.size x.cs) := VX.out.below B9 (range_lt VX.out.1 (Nat.succ_pos _)); have VY : Hid (Vr w4 w1.heap.size y.cs) := VY.out.below B9 (range_lt VY.out.1 (Nat.succ_pos _)); have BB : Hid (Below w.heap.size w w4) := BB.out.trans (B9.mono BB.out.size); clear B9 t7)
    | (have qq := t4; go_at_call 16; refine (S1.out _).mono ?_; rintro e w3 ⟨rfl, B9⟩; have VX : Hid (Vr w3 w.heap.size x.cs) := VX.out.below B9 (range_lt VX.out.1 (Nat.succ_pos _)); have VY : Hid (Vr w3 w1.heap.size y.cs) := VY.out.below B9 (range_lt VY.out.1 (Nat.succ_pos _)); have BB : Hid (Below w.heap.size w w3) := BB.out.trans (B9.mono BB.out.size); have nx := cells0 VX.out.1; have ny := cells0 VY.out.1; clear B9 t4; have t7 : (0 : Nat) = 0 := rfl)
    | (have qq := t1; refine box_lawC _ y.cs rfl ?_; intro w2 X9 B9 l9; have VX : Hid (Vr w2 w.heap.size x.cs) := VX.out.below B9 (range_lt VX.out.1 (Nat.succ_pos _)); have VY : Hid (Vr w2 w1.heap.size y.cs) := X9; have BB : Hid (Below w.heap.size w w2) := BB.out.trans (B9.mono BB.out.size); have nx := cells0 VX.out.1; have ny := cells0 VY.out.1; clear B9 X9 l9 t1; have t4 : (0 : Nat) = 0 := rfl)
    | (have qq := t0; refine box_lawC _ x.cs rfl ?_; intro w1 X9 B9 l9; have VX : Hid (Vr w1 w.heap.size x.cs) := X9; have BB : Hid (Below w.heap.size w w1) := B9; clear B9 X9 l9 t0; have t1 : (0 : Nat) = 0 := rfl))
  have VX : Hid (Vr w4.drew w.heap.size x.cs) := VX.out.drewN 1
  have VY : Hid (Vr w4.drew w1.heap.size y.cs) := VY.out.drewN 1
  have BB : Hid (Below w.heap.size w w4.drew) := below_dr BB.out 1
  refine wp_region_held_drew (S := fun w' => w'.rangeAt w.heap.size 0 x.cs ∧ w'.rangeAt w1.heap.size 0 y.cs) (by kernel_rfl) ⟨VX.out.1, VY.out.1⟩ (fun hS => ?_)
  obtain ⟨z1, hx0⟩ : ∃ x, x = w4.drew := ⟨_, rfl⟩
  rw [← hx0] at hS VX VY BB ⊢
  clear hx0
  refine take_lawH 0 (some 14) (.bool false) rfl rfl (by kernel_rfl) (by kernel_rfl) (by kernel_rfl) (fun _ _ _ h => h) (Or.inl ⟨by rfl, fun w' hw' => by rfl⟩) hS ?_
  simp only [Act.put, List.setIfInBounds_toArray, List.set_cons_zero, List.set_cons_succ]
  refine take_lawH 1 (some 15) (.agg x.cs.toArray) rfl rfl (by kernel_rfl) (by kernel_rfl) (by kernel_rfl) (fun _ _ _ h => h) (Or.inl ⟨by rfl, fun w' hw' => by exact exec_loadN 37 (.tmp 2) rfl _ rfl _ _ (load_cells rowy_spot hw'.1)⟩) hS ?_
  simp only [Act.put, List.setIfInBounds_toArray, List.set_cons_zero, List.set_cons_succ]
  refine take_lawH 3 (some 17) (.agg y.cs.toArray) rfl rfl (by kernel_rfl) (by kernel_rfl) (by kernel_rfl) (fun _ _ _ h => h) (Or.inl ⟨by rfl, fun w' hw' => by exact exec_loadN 37 (.tmp 3) rfl _ rfl _ _ (load_cells rowy_spot hw'.2)⟩) hS ?_
  simp only [Act.put, List.setIfInBounds_toArray, List.set_cons_zero, List.set_cons_succ]
  refine wpAnyH_ready (rs := [2]) (by kernel_rfl) (by simp) ?_
  refine AllReadyH.cons rfl (fun K hK => ?_) AllReadyH.nil
  refine step_callG z1 rfl (some 16) rfl 18 #[.tmp 15] _ rfl (fun _ _ => rfl) #[.agg x.cs.toArray] (by simp only [List.map_toArray, List.map_cons, List.map_nil]; rfl) (fun v w' => v = .agg x.cs.toArray ∧ Below z1.heap.size z1 w') ((of_any x z1).mono fun e w' ⟨h1, h2⟩ => ⟨_, h1, rfl, h2⟩) ?_
  rintro v9 z2 ⟨rfl, B9⟩
  have VX : Hid (Vr z2 w.heap.size x.cs) := VX.out.below B9 (range_lt VX.out.1 (Nat.succ_pos _))
  have VY : Hid (Vr z2 w1.heap.size y.cs) := VY.out.below B9 (range_lt VY.out.1 (Nat.succ_pos _))
  have BB : Hid (Below w.heap.size w z2) := BB.out.trans (B9.mono BB.out.size)
  have hS : z2.rangeAt w.heap.size 0 x.cs ∧ z2.rangeAt w1.heap.size 0 y.cs := ⟨VX.out.1, VY.out.1⟩
  clear B9
  refine hK.out _ _ hS (fun _ => ?_)
  simp only [Act.put, List.setIfInBounds_toArray, List.set_cons_zero, List.set_cons_succ]
  clear hK K
  refine wpAnyH_ready (rs := [4]) (by kernel_rfl) (by simp) ?_
  refine AllReadyH.cons rfl (fun K hK => ?_) AllReadyH.nil
  refine step_callG z2 rfl (some 18) rfl 18 #[.tmp 17] _ rfl (fun _ _ => rfl) #[.agg y.cs.toArray] (by simp only [List.map_toArray, List.map_cons, List.map_nil]; rfl) (fun v w' => v = .agg y.cs.toArray ∧ Below z2.heap.size z2 w') ((of_any y z2).mono fun e w' ⟨h1, h2⟩ => ⟨_, h1, rfl, h2⟩) ?_
  rintro v9 z3 ⟨rfl, B9⟩
  have VX : Hid (Vr z3 w.heap.size x.cs) := VX.out.below B9 (range_lt VX.out.1 (Nat.succ_pos _))
  have VY : Hid (Vr z3 w1.heap.size y.cs) := VY.out.below B9 (range_lt VY.out.1 (Nat.succ_pos _))
  have BB : Hid (Below w.heap.size w z3) := BB.out.trans (B9.mono BB.out.size)
  have hS : z3.rangeAt w.heap.size 0 x.cs ∧ z3.rangeAt w1.heap.size 0 y.cs := ⟨VX.out.1, VY.out.1⟩
  clear B9
  refine hK.out _ _ hS (fun _ => ?_)
  simp only [Act.put, List.setIfInBounds_toArray, List.set_cons_zero, List.set_cons_succ]
  clear hK K
  refine wpAnyH_ready (rs := [5]) (by kernel_rfl) (by simp) ?_
  refine AllReadyH.cons rfl (fun K hK => ?_) AllReadyH.nil
  refine step_callG z3 rfl (some 19) rfl 17 #[.tmp 16, .tmp 18] _ rfl (fun _ _ => rfl) #[.agg x.cs.toArray, .agg y.cs.toArray] (by simp only [List.map_toArray, List.map_cons, List.map_nil]; rfl) (fun v w' => v = .bool false ∧ Below z3.heap.size z3 w') ((S3.out z3).mono fun e w' ⟨h1, h2⟩ => ⟨_, h1, rfl, h2⟩) ?_
  rintro v9 z4 ⟨rfl, B9⟩
  have VX : Hid (Vr z4 w.heap.size x.cs) := VX.out.below B9 (range_lt VX.out.1 (Nat.succ_pos _))
  have VY : Hid (Vr z4 w1.heap.size y.cs) := VY.out.below B9 (range_lt VY.out.1 (Nat.succ_pos _))
  have BB : Hid (Below w.heap.size w z4) := BB.out.trans (B9.mono BB.out.size)
  have hS : z4.rangeAt w.heap.size 0 x.cs ∧ z4.rangeAt w1.heap.size 0 y.cs := ⟨VX.out.1, VY.out.1⟩
  clear B9
  refine hK.out _ _ hS (fun _ => ?_)
  simp only [Act.put, List.setIfInBounds_toArray, List.set_cons_zero, List.set_cons_succ]
  clear hK K
  refine take_lawH 6 (some 20) (.bool false) rfl rfl (by kernel_rfl) (by kernel_rfl) (by kernel_rfl) (fun _ _ _ h => h) (Or.inl ⟨by rfl, fun w' hw' => by go_simp⟩) hS ?_
  simp only [Act.put, List.setIfInBounds_toArray, List.set_cons_zero, List.set_cons_succ]
  refine take_lawH 7 (some 21) (.bool false) rfl rfl (by kernel_rfl) (by kernel_rfl) (by kernel_rfl) (fun _ _ _ h => h) (Or.inl ⟨by rfl, fun w' hw' => by rfl⟩) hS ?_
  simp only [Act.put, List.setIfInBounds_toArray, List.set_cons_zero, List.set_cons_succ]
  refine take_lawH 8 (some 22) (.bool false) rfl rfl (by kernel_rfl) (by kernel_rfl) (by kernel_rfl) (fun _ _ _ h => h) (Or.inl ⟨by rfl, fun w' hw' => by rfl⟩) hS ?_
  simp only [Act.put, List.setIfInBounds_toArray, List.set_cons_zero, List.set_cons_succ]
  refine take_lawH 9 (some 23) (.bool false) rfl rfl (by kernel_rfl) (by kernel_rfl) (by kernel_rfl) (fun _ _ _ h => h) (Or.inl ⟨by rfl, fun w' hw' => by rfl⟩) hS ?_
  simp only [Act.put, List.setIfInBounds_toArray, List.set_cons_zero, List.set_cons_succ]
  refine take_lawH 10 (some 24) (undef) rfl rfl (by kernel_rfl) (by kernel_rfl) (by kernel_rfl) (fun _ _ _ h => h) (Or.inr ⟨by rfl, rfl⟩) hS ?_
  simp only [Act.put, List.setIfInBounds_toArray, List.set_cons_zero, List.set_cons_succ]
  refine take_lawH 11 (some 25) (.bool false) rfl rfl (by kernel_rfl) (by kernel_rfl) (by kernel_rfl) (fun _ _ _ h => h) (Or.inl ⟨by rfl, fun w' hw' => by rfl⟩) hS ?_
  simp only [Act.put, List.setIfInBounds_toArray, List.set_cons_zero, List.set_cons_succ]
  refine take_lawH 12 (some 26) (.bool false) rfl rfl (by kernel_rfl) (by kernel_rfl) (by kernel_rfl) (fun _ _ _ h => h) (Or.inl ⟨by rfl, fun w' hw' => by rfl⟩) hS ?_
  simp only [Act.put, List.setIfInBounds_toArray, List.set_cons_zero, List.set_cons_succ]
  refine wpAnyH_done (by kernel_rfl) ?_ _
  have nx := cells0 VX.out.1
  have ny := cells0 VY.out.1
  go_wp2_with (go_at_call 14; refine (awake_any _).mono ?_; rintro e9 w9 ⟨rfl, B9⟩; have BB : Hid (Below w.heap.size w w9) := BB.out.trans (B9.mono BB.out.size); clear B9)
  go_ret
  exact ⟨rfl, BB.out⟩
set_option maxHeartbeats 4000000 in
theorem w1000 (x y : Sp) (w : World) (hp : nw x y = true) (hq : nw y x = false) (he : ¬ x.h.e = y.h.e) : Calls Try.prog 5 #[.agg x.cs.toArray, .agg y.cs.toArray] w fun e w' => e = .returned (.bool true) ∧ Below w.heap.size w w' := by
  have S1 : Hid (∀ W, Calls Try.prog 16 #[.agg x.cs.toArray, .agg y.cs.toArray] W fun e w' => e = .returned (.bool true) ∧ Below W.heap.size W w') := fun W => by rw [← hp]; exact newer_any x y W
  have S2 : Hid (∀ W, Calls Try.prog 16 #[.agg y.cs.toArray, .agg x.cs.toArray] W fun e w' => e = .returned (.bool false) ∧ Below W.heap.size W w') := fun W => by rw [← hq]; exact newer_any y x W
  have S3 : Hid (∀ W, Calls Try.prog 17 #[.agg x.cs.toArray, .agg y.cs.toArray] W fun e w' => e = .returned (.bool true) ∧ Below W.heap.size W w') := fun W => by rw [← hp]; exact rnewer_any x y W
  have e1 : (x.h.e != y.h.e) = true := by simp [he]
  have e3 : (x.h.e == y.h.e) = false := beq_eq_false_iff_ne.2 he
  clear hp hq he
  have t0 : (0 : Nat) = 0 := rfl
  go_enter Try.func5, Try.ntmps5
  go_wp2_with (first
    | (have qq := t7; go_at_call 16; refine (S2.out _).mono ?_; rintro e w4 ⟨rfl, B9⟩; have VX : Hid (Vr w4 w.heap.size x.cs) := VX.out.below B9 (range_lt VX.out.1 (Nat.succ_pos _)); have VY : Hid (Vr w4 w1.heap.size y.cs) := VY.out.below B9 (range_lt VY.out.1 (Nat.succ_pos _)); have BB : Hid (Below w.heap.size w w4) := BB.out.trans (B9.mono BB.out.size); clear B9 t7)
    | (have qq := t4; go_at_call 16; refine (S1.out _).mono ?_; rintro e w3 ⟨rfl, B9⟩; have VX : Hid (Vr w3 w.heap.size x.cs) := VX.out.below B9 (range_lt VX.out.1 (Nat.succ_pos _)); have VY : Hid (Vr w3 w1.heap.size y.cs) := VY.out.below B9 (range_lt VY.out.1 (Nat.succ_pos _)); have BB : Hid (Below w.heap.size w w3) := BB.out.trans (B9.mono BB.out.size); have nx := cells0 VX.out.1; have ny := cells0 VY.out.1; clear B9 t4; have t7 : (0 : Nat) = 0 := rfl)
    | (have qq := t1; refine box_lawC _ y.cs rfl ?_; intro w2 X9 B9 l9; have VX : Hid (Vr w2 w.heap.size x.cs) := VX.out.below B9 (range_lt VX.out.1 (Nat.succ_pos _)); have VY : Hid (Vr w2 w1.heap.size y.cs) := X9; have BB : Hid (Below w.heap.size w w2) := BB.out.trans (B9.mono BB.out.size); have nx := cells0 VX.out.1; have ny := cells0 VY.out.1; clear B9 X9 l9 t1; have t4 : (0 : Nat) = 0 := rfl)
    | (have qq := t0; refine box_lawC _ x.cs rfl ?_; intro w1 X9 B9 l9; have VX : Hid (Vr w1 w.heap.size x.cs) := X9; have BB : Hid (Below w.heap.size w w1) := B9; clear B9 X9 l9 t0; have t1 : (0 : Nat) = 0 := rfl))
  have VX : Hid (Vr w4.drew w.heap.size x.cs) := VX.out.drewN 1
  have VY : Hid (Vr w4.drew w1.heap.size y.cs) := VY.out.drewN 1
  have BB : Hid (Below w.heap.size w w4.drew) := below_dr BB.out 1
  refine wp_region_held_drew (S := fun w' => w'.rangeAt w.heap.size 0 x.cs ∧ w'.rangeAt w1.heap.size 0 y.cs) (by kernel_rfl) ⟨VX.out.1, VY.out.1⟩ (fun hS => ?_)
  obtain ⟨z1, hx0⟩ : ∃ x, x = w4.drew := ⟨_, rfl⟩
  rw [← hx0] at hS VX VY BB ⊢
  clear hx0
  refine take_lawH 0 (some 14) (.bool true) rfl rfl (by kernel_rfl) (by kernel_rfl) (by kernel_rfl) (fun _ _ _ h => h) (Or.inl ⟨by rfl, fun w' hw' => by rfl⟩) hS ?_
  simp only [Act.put, List.setIfInBounds_toArray, List.set_cons_zero, List.set_cons_succ]
  refine take_lawH 1 (some 15) (.agg x.cs.toArray) rfl rfl (by kernel_rfl) (by kernel_rfl) (by kernel_rfl) (fun _ _ _ h => h) (Or.inl ⟨by rfl, fun w' hw' => by exact exec_loadN 37 (.tmp 2) rfl _ rfl _ _ (load_cells rowy_spot hw'.1)⟩) hS ?_
  simp only [Act.put, List.setIfInBounds_toArray, List.set_cons_zero, List.set_cons_succ]
  refine take_lawH 3 (some 17) (.agg y.cs.toArray) rfl rfl (by kernel_rfl) (by kernel_rfl) (by kernel_rfl) (fun _ _ _ h => h) (Or.inl ⟨by rfl, fun w' hw' => by exact exec_loadN 37 (.tmp 3) rfl _ rfl _ _ (load_cells rowy_spot hw'.2)⟩) hS ?_
  simp only [Act.put, List.setIfInBounds_toArray, List.set_cons_zero, List.set_cons_succ]
  refine wpAnyH_ready (rs := [2]) (by kernel_rfl) (by simp) ?_
  refine AllReadyH.cons rfl (fun K hK => ?_) AllReadyH.nil
  refine step_callG z1 rfl (some 16) rfl 18 #[.tmp 15] _ rfl (fun _ _ => rfl) #[.agg x.cs.toArray] (by simp only [List.map_toArray, List.map_cons, List.map_nil]; rfl) (fun v w' => v = .agg x.cs.toArray ∧ Below z1.heap.size z1 w') ((of_any x z1).mono fun e w' ⟨h1, h2⟩ => ⟨_, h1, rfl, h2⟩) ?_
  rintro v9 z2 ⟨rfl, B9⟩
  have VX : Hid (Vr z2 w.heap.size x.cs) := VX.out.below B9 (range_lt VX.out.1 (Nat.succ_pos _))
  have VY : Hid (Vr z2 w1.heap.size y.cs) := VY.out.below B9 (range_lt VY.out.1 (Nat.succ_pos _))
  have BB : Hid (Below w.heap.size w z2) := BB.out.trans (B9.mono BB.out.size)
  have hS : z2.rangeAt w.heap.size 0 x.cs ∧ z2.rangeAt w1.heap.size 0 y.cs := ⟨VX.out.1, VY.out.1⟩
  clear B9
  refine hK.out _ _ hS (fun _ => ?_)
  simp only [Act.put, List.setIfInBounds_toArray, List.set_cons_zero, List.set_cons_succ]
  clear hK K
  refine wpAnyH_ready (rs := [4]) (by kernel_rfl) (by simp) ?_
  refine AllReadyH.cons rfl (fun K hK => ?_) AllReadyH.nil
  refine step_callG z2 rfl (some 18) rfl 18 #[.tmp 17] _ rfl (fun _ _ => rfl) #[.agg y.cs.toArray] (by simp only [List.map_toArray, List.map_cons, List.map_nil]; rfl) (fun v w' => v = .agg y.cs.toArray ∧ Below z2.heap.size z2 w') ((of_any y z2).mono fun e w' ⟨h1, h2⟩ => ⟨_, h1, rfl, h2⟩) ?_
  rintro v9 z3 ⟨rfl, B9⟩
  have VX : Hid (Vr z3 w.heap.size x.cs) := VX.out.below B9 (range_lt VX.out.1 (Nat.succ_pos _))
  have VY : Hid (Vr z3 w1.heap.size y.cs) := VY.out.below B9 (range_lt VY.out.1 (Nat.succ_pos _))
  have BB : Hid (Below w.heap.size w z3) := BB.out.trans (B9.mono BB.out.size)
  have hS : z3.rangeAt w.heap.size 0 x.cs ∧ z3.rangeAt w1.heap.size 0 y.cs := ⟨VX.out.1, VY.out.1⟩
  clear B9
  refine hK.out _ _ hS (fun _ => ?_)
  simp only [Act.put, List.setIfInBounds_toArray, List.set_cons_zero, List.set_cons_succ]
  clear hK K
  refine wpAnyH_ready (rs := [5]) (by kernel_rfl) (by simp) ?_
  refine AllReadyH.cons rfl (fun K hK => ?_) AllReadyH.nil
  refine step_callG z3 rfl (some 19) rfl 17 #[.tmp 16, .tmp 18] _ rfl (fun _ _ => rfl) #[.agg x.cs.toArray, .agg y.cs.toArray] (by simp only [List.map_toArray, List.map_cons, List.map_nil]; rfl) (fun v w' => v = .bool true ∧ Below z3.heap.size z3 w') ((S3.out z3).mono fun e w' ⟨h1, h2⟩ => ⟨_, h1, rfl, h2⟩) ?_
  rintro v9 z4 ⟨rfl, B9⟩
  have VX : Hid (Vr z4 w.heap.size x.cs) := VX.out.below B9 (range_lt VX.out.1 (Nat.succ_pos _))
  have VY : Hid (Vr z4 w1.heap.size y.cs) := VY.out.below B9 (range_lt VY.out.1 (Nat.succ_pos _))
  have BB : Hid (Below w.heap.size w z4) := BB.out.trans (B9.mono BB.out.size)
  have hS : z4.rangeAt w.heap.size 0 x.cs ∧ z4.rangeAt w1.heap.size 0 y.cs := ⟨VX.out.1, VY.out.1⟩
  clear B9
  refine hK.out _ _ hS (fun _ => ?_)
  simp only [Act.put, List.setIfInBounds_toArray, List.set_cons_zero, List.set_cons_succ]
  clear hK K
  refine take_lawH 6 (some 20) (.bool false) rfl rfl (by kernel_rfl) (by kernel_rfl) (by kernel_rfl) (fun _ _ _ h => h) (Or.inl ⟨by rfl, fun w' hw' => by go_simp⟩) hS ?_
  simp only [Act.put, List.setIfInBounds_toArray, List.set_cons_zero, List.set_cons_succ]
  refine take_lawH 7 (some 21) (.bool false) rfl rfl (by kernel_rfl) (by kernel_rfl) (by kernel_rfl) (fun _ _ _ h => h) (Or.inl ⟨by rfl, fun w' hw' => by rfl⟩) hS ?_
  simp only [Act.put, List.setIfInBounds_toArray, List.set_cons_zero, List.set_cons_succ]
  refine take_lawH 8 (some 22) (.bool true) rfl rfl (by kernel_rfl) (by kernel_rfl) (by kernel_rfl) (fun _ _ _ h => h) (Or.inl ⟨by rfl, fun w' hw' => by rfl⟩) hS ?_
  simp only [Act.put, List.setIfInBounds_toArray, List.set_cons_zero, List.set_cons_succ]
  refine take_lawH 9 (some 23) (.bool true) rfl rfl (by kernel_rfl) (by kernel_rfl) (by kernel_rfl) (fun _ _ _ h => h) (Or.inl ⟨by rfl, fun w' hw' => by rfl⟩) hS ?_
  simp only [Act.put, List.setIfInBounds_toArray, List.set_cons_zero, List.set_cons_succ]
  refine take_lawH 10 (some 24) (.bool false) rfl rfl (by kernel_rfl) (by kernel_rfl) (by kernel_rfl) (fun _ _ _ h => h) (Or.inl ⟨by rfl, fun w' hw' => by rfl⟩) hS ?_
  simp only [Act.put, List.setIfInBounds_toArray, List.set_cons_zero, List.set_cons_succ]
  refine take_lawH 11 (some 25) (.bool false) rfl rfl (by kernel_rfl) (by kernel_rfl) (by kernel_rfl) (fun _ _ _ h => h) (Or.inl ⟨by rfl, fun w' hw' => by rfl⟩) hS ?_
  simp only [Act.put, List.setIfInBounds_toArray, List.set_cons_zero, List.set_cons_succ]
  refine take_lawH 12 (some 26) (.bool false) rfl rfl (by kernel_rfl) (by kernel_rfl) (by kernel_rfl) (fun _ _ _ h => h) (Or.inl ⟨by rfl, fun w' hw' => by rfl⟩) hS ?_
  simp only [Act.put, List.setIfInBounds_toArray, List.set_cons_zero, List.set_cons_succ]
  refine wpAnyH_done (by kernel_rfl) ?_ _
  have nx := cells0 VX.out.1
  have ny := cells0 VY.out.1
  go_wp2_with (go_at_call 14; refine (awake_any _).mono ?_; rintro e9 w9 ⟨rfl, B9⟩; have BB : Hid (Below w.heap.size w w9) := BB.out.trans (B9.mono BB.out.size); clear B9)
  go_ret
  exact ⟨rfl, BB.out⟩
set_option maxHeartbeats 4000000 in
theorem w1010 (x y : Sp) (w : World) (hp : nw x y = true) (hq : nw y x = false) (he : x.h.e = y.h.e) (ht : ¬ x.h.t = y.h.t) : Calls Try.prog 5 #[.agg x.cs.toArray, .agg y.cs.toArray] w fun e w' => e = .returned (.bool true) ∧ Below w.heap.size w w' := by
  have S1 : Hid (∀ W, Calls Try.prog 16 #[.agg x.cs.toArray, .agg y.cs.toArray] W fun e w' => e = .returned (.bool true) ∧ Below W.heap.size W w') := fun W => by rw [← hp]; exact newer_any x y W
  have S2 : Hid (∀ W, Calls Try.prog 16 #[.agg y.cs.toArray, .agg x.cs.toArray] W fun e w' => e = .returned (.bool false) ∧ Below W.heap.size W w') := fun W => by rw [← hq]; exact newer_any y x W
  have S3 : Hid (∀ W, Calls Try.prog 17 #[.agg x.cs.toArray, .agg y.cs.toArray] W fun e w' => e = .returned (.bool true) ∧ Below W.heap.size W w') := fun W => by rw [← hp]; exact rnewer_any x y W
  have e1 : (x.h.e != y.h.e) = false := by simp [he]
  have e3 : (x.h.e == y.h.e) = true := beq_iff_eq.2 he
  have e2 : (x.h.t != y.h.t) = true := by simp [ht]
  have e4 : (x.h.t == y.h.t) = false := beq_eq_false_iff_ne.2 ht
  clear hp hq he ht
  have t0 : (0 : Nat) = 0 := rfl
  go_enter Try.func5, Try.ntmps5
  go_wp2_with (first
    | (have qq := t7; go_at_call 16; refine (S2.out _).mono ?_; rintro e w4 ⟨rfl, B9⟩; have VX : Hid (Vr w4 w.heap.size x.cs) := VX.out.below B9 (range_lt VX.out.1 (Nat.succ_pos _)); have VY : Hid (Vr w4 w1.heap.size y.cs) := VY.out.below B9 (range_lt VY.out.1 (Nat.succ_pos _)); have BB : Hid (Below w.heap.size w w4) := BB.out.trans (B9.mono BB.out.size); clear B9 t7)
    | (have qq := t4; go_at_call 16; refine (S1.out _).mono ?_; rintro e w3 ⟨rfl, B9⟩; have VX : Hid (Vr w3 w.heap.size x.cs) := VX.out.below B9 (range_lt VX.out.1 (Nat.succ_pos _)); have VY : Hid (Vr w3 w1.heap.size y.cs) := VY.out.below B9 (range_lt VY.out.1 (Nat.succ_pos _)); have BB : Hid (Below w.heap.size w w3) := BB.out.trans (B9.mono BB.out.size); have nx := cells0 VX.out.1; have ny := cells0 VY.out.1; clear B9 t4; have t7 : (0 : Nat) = 0 := rfl)
    | (have qq := t1; refine box_lawC _ y.cs rfl ?_; intro w2 X9 B9 l9; have VX : Hid (Vr w2 w.heap.size x.cs) := VX.out.below B9 (range_lt VX.out.1 (Nat.succ_pos _)); have VY : Hid (Vr w2 w1.heap.size y.cs) := X9; have BB : Hid (Below w.heap.size w w2) := BB.out.trans (B9.mono BB.out.size); have nx := cells0 VX.out.1; have ny := cells0 VY.out.1; clear B9 X9 l9 t1; have t4 : (0 : Nat) = 0 := rfl)
    | (have qq := t0; refine box_lawC _ x.cs rfl ?_; intro w1 X9 B9 l9; have VX : Hid (Vr w1 w.heap.size x.cs) := X9; have BB : Hid (Below w.heap.size w w1) := B9; clear B9 X9 l9 t0; have t1 : (0 : Nat) = 0 := rfl))
  have VX : Hid (Vr w4.drew w.heap.size x.cs) := VX.out.drewN 1
  have VY : Hid (Vr w4.drew w1.heap.size y.cs) := VY.out.drewN 1
  have BB : Hid (Below w.heap.size w w4.drew) := below_dr BB.out 1
  refine wp_region_held_drew (S := fun w' => w'.rangeAt w.heap.size 0 x.cs ∧ w'.rangeAt w1.heap.size 0 y.cs) (by kernel_rfl) ⟨VX.out.1, VY.out.1⟩ (fun hS => ?_)
  obtain ⟨z1, hx0⟩ : ∃ x, x = w4.drew := ⟨_, rfl⟩
  rw [← hx0] at hS VX VY BB ⊢
  clear hx0
  refine take_lawH 0 (some 14) (.bool true) rfl rfl (by kernel_rfl) (by kernel_rfl) (by kernel_rfl) (fun _ _ _ h => h) (Or.inl ⟨by rfl, fun w' hw' => by rfl⟩) hS ?_
  simp only [Act.put, List.setIfInBounds_toArray, List.set_cons_zero, List.set_cons_succ]
  refine take_lawH 1 (some 15) (.agg x.cs.toArray) rfl rfl (by kernel_rfl) (by kernel_rfl) (by kernel_rfl) (fun _ _ _ h => h) (Or.inl ⟨by rfl, fun w' hw' => by exact exec_loadN 37 (.tmp 2) rfl _ rfl _ _ (load_cells rowy_spot hw'.1)⟩) hS ?_
  simp only [Act.put, List.setIfInBounds_toArray, List.set_cons_zero, List.set_cons_succ]
  refine take_lawH 3 (some 17) (.agg y.cs.toArray) rfl rfl (by kernel_rfl) (by kernel_rfl) (by kernel_rfl) (fun _ _ _ h => h) (Or.inl ⟨by rfl, fun w' hw' => by exact exec_loadN 37 (.tmp 3) rfl _ rfl _ _ (load_cells rowy_spot hw'.2)⟩) hS ?_
  simp only [Act.put, List.setIfInBounds_toArray, List.set_cons_zero, List.set_cons_succ]
  refine wpAnyH_ready (rs := [2]) (by kernel_rfl) (by simp) ?_
  refine AllReadyH.cons rfl (fun K hK => ?_) AllReadyH.nil
  refine step_callG z1 rfl (some 16) rfl 18 #[.tmp 15] _ rfl (fun _ _ => rfl) #[.agg x.cs.toArray] (by simp only [List.map_toArray, List.map_cons, List.map_nil]; rfl) (fun v w' => v = .agg x.cs.toArray ∧ Below z1.heap.size z1 w') ((of_any x z1).mono fun e w' ⟨h1, h2⟩ => ⟨_, h1, rfl, h2⟩) ?_
  rintro v9 z2 ⟨rfl, B9⟩
  have VX : Hid (Vr z2 w.heap.size x.cs) := VX.out.below B9 (range_lt VX.out.1 (Nat.succ_pos _))
  have VY : Hid (Vr z2 w1.heap.size y.cs) := VY.out.below B9 (range_lt VY.out.1 (Nat.succ_pos _))
  have BB : Hid (Below w.heap.size w z2) := BB.out.trans (B9.mono BB.out.size)
  have hS : z2.rangeAt w.heap.size 0 x.cs ∧ z2.rangeAt w1.heap.size 0 y.cs := ⟨VX.out.1, VY.out.1⟩
  clear B9
  refine hK.out _ _ hS (fun _ => ?_)
  simp only [Act.put, List.setIfInBounds_toArray, List.set_cons_zero, List.set_cons_succ]
  clear hK K
  refine wpAnyH_ready (rs := [4]) (by kernel_rfl) (by simp) ?_
  refine AllReadyH.cons rfl (fun K hK => ?_) AllReadyH.nil
  refine step_callG z2 rfl (some 18) rfl 18 #[.tmp 17] _ rfl (fun _ _ => rfl) #[.agg y.cs.toArray] (by simp only [List.map_toArray, List.map_cons, List.map_nil]; rfl) (fun v w' => v = .agg y.cs.toArray ∧ Below z2.heap.size z2 w') ((of_any y z2).mono fun e w' ⟨h1, h2⟩ => ⟨_, h1, rfl, h2⟩) ?_
  rintro v9 z3 ⟨rfl, B9⟩
  have VX : Hid (Vr z3 w.heap.size x.cs) := VX.out.below B9 (range_lt VX.out.1 (Nat.succ_pos _))
  have VY : Hid (Vr z3 w1.heap.size y.cs) := VY.out.below B9 (range_lt VY.out.1 (Nat.succ_pos _))
  have BB : Hid (Below w.heap.size w z3) := BB.out.trans (B9.mono BB.out.size)
  have hS : z3.rangeAt w.heap.size 0 x.cs ∧ z3.rangeAt w1.heap.size 0 y.cs := ⟨VX.out.1, VY.out.1⟩
  clear B9
  refine hK.out _ _ hS (fun _ => ?_)
  simp only [Act.put, List.setIfInBounds_toArray, List.set_cons_zero, List.set_cons_succ]
  clear hK K
  refine wpAnyH_ready (rs := [5]) (by kernel_rfl) (by simp) ?_
  refine AllReadyH.cons rfl (fun K hK => ?_) AllReadyH.nil
  refine step_callG z3 rfl (some 19) rfl 17 #[.tmp 16, .tmp 18] _ rfl (fun _ _ => rfl) #[.agg x.cs.toArray, .agg y.cs.toArray] (by simp only [List.map_toArray, List.map_cons, List.map_nil]; rfl) (fun v w' => v = .bool true ∧ Below z3.heap.size z3 w') ((S3.out z3).mono fun e w' ⟨h1, h2⟩ => ⟨_, h1, rfl, h2⟩) ?_
  rintro v9 z4 ⟨rfl, B9⟩
  have VX : Hid (Vr z4 w.heap.size x.cs) := VX.out.below B9 (range_lt VX.out.1 (Nat.succ_pos _))
  have VY : Hid (Vr z4 w1.heap.size y.cs) := VY.out.below B9 (range_lt VY.out.1 (Nat.succ_pos _))
  have BB : Hid (Below w.heap.size w z4) := BB.out.trans (B9.mono BB.out.size)
  have hS : z4.rangeAt w.heap.size 0 x.cs ∧ z4.rangeAt w1.heap.size 0 y.cs := ⟨VX.out.1, VY.out.1⟩
  clear B9
  refine hK.out _ _ hS (fun _ => ?_)
  simp only [Act.put, List.setIfInBounds_toArray, List.set_cons_zero, List.set_cons_succ]
  clear hK K
  refine take_lawH 6 (some 20) (.bool false) rfl rfl (by kernel_rfl) (by kernel_rfl) (by kernel_rfl) (fun _ _ _ h => h) (Or.inl ⟨by rfl, fun w' hw' => by go_simp⟩) hS ?_
  simp only [Act.put, List.setIfInBounds_toArray, List.set_cons_zero, List.set_cons_succ]
  refine take_lawH 7 (some 21) (.bool false) rfl rfl (by kernel_rfl) (by kernel_rfl) (by kernel_rfl) (fun _ _ _ h => h) (Or.inl ⟨by rfl, fun w' hw' => by rfl⟩) hS ?_
  simp only [Act.put, List.setIfInBounds_toArray, List.set_cons_zero, List.set_cons_succ]
  refine take_lawH 8 (some 22) (.bool true) rfl rfl (by kernel_rfl) (by kernel_rfl) (by kernel_rfl) (fun _ _ _ h => h) (Or.inl ⟨by rfl, fun w' hw' => by rfl⟩) hS ?_
  simp only [Act.put, List.setIfInBounds_toArray, List.set_cons_zero, List.set_cons_succ]
  refine take_lawH 9 (some 23) (.bool true) rfl rfl (by kernel_rfl) (by kernel_rfl) (by kernel_rfl) (fun _ _ _ h => h) (Or.inl ⟨by rfl, fun w' hw' => by rfl⟩) hS ?_
  simp only [Act.put, List.setIfInBounds_toArray, List.set_cons_zero, List.set_cons_succ]
  refine take_lawH 10 (some 24) (.bool false) rfl rfl (by kernel_rfl) (by kernel_rfl) (by kernel_rfl) (fun _ _ _ h => h) (Or.inl ⟨by rfl, fun w' hw' => by rfl⟩) hS ?_
  simp only [Act.put, List.setIfInBounds_toArray, List.set_cons_zero, List.set_cons_succ]
  refine take_lawH 11 (some 25) (.bool false) rfl rfl (by kernel_rfl) (by kernel_rfl) (by kernel_rfl) (fun _ _ _ h => h) (Or.inl ⟨by rfl, fun w' hw' => by rfl⟩) hS ?_
  simp only [Act.put, List.setIfInBounds_toArray, List.set_cons_zero, List.set_cons_succ]
  refine take_lawH 12 (some 26) (.bool false) rfl rfl (by kernel_rfl) (by kernel_rfl) (by kernel_rfl) (fun _ _ _ h => h) (Or.inl ⟨by rfl, fun w' hw' => by rfl⟩) hS ?_
  simp only [Act.put, List.setIfInBounds_toArray, List.set_cons_zero, List.set_cons_succ]
  refine wpAnyH_done (by kernel_rfl) ?_ _
  have nx := cells0 VX.out.1
  have ny := cells0 VY.out.1
  go_wp2_with (go_at_call 14; refine (awake_any _).mono ?_; rintro e9 w9 ⟨rfl, B9⟩; have BB : Hid (Below w.heap.size w w9) := BB.out.trans (B9.mono BB.out.size); clear B9)
  go_ret
  exact ⟨rfl, BB.out⟩
set_option maxHeartbeats 4000000 in
theorem w1011 (x y : Sp) (w : World) (hp : nw x y = true) (hq : nw y x = false) (he : x.h.e = y.h.e) (ht : x.h.t = y.h.t) : Calls Try.prog 5 #[.agg x.cs.toArray, .agg y.cs.toArray] w fun e w' => e = .returned (.bool true) ∧ Below w.heap.size w w' := by
  have S1 : Hid (∀ W, Calls Try.prog 16 #[.agg x.cs.toArray, .agg y.cs.toArray] W fun e w' => e = .returned (.bool true) ∧ Below W.heap.size W w') := fun W => by rw [← hp]; exact newer_any x y W
  have S2 : Hid (∀ W, Calls Try.prog 16 #[.agg y.cs.toArray, .agg x.cs.toArray] W fun e w' => e = .returned (.bool false) ∧ Below W.heap.size W w') := fun W => by rw [← hq]; exact newer_any y x W
  have S3 : Hid (∀ W, Calls Try.prog 17 #[.agg x.cs.toArray, .agg y.cs.toArray] W fun e w' => e = .returned (.bool true) ∧ Below W.heap.size W w') := fun W => by rw [← hp]; exact rnewer_any x y W
  have e1 : (x.h.e != y.h.e) = false := by simp [he]
  have e3 : (x.h.e == y.h.e) = true := beq_iff_eq.2 he
  have e2 : (x.h.t != y.h.t) = false := by simp [ht]
  have e4 : (x.h.t == y.h.t) = true := beq_iff_eq.2 ht
  clear hp hq he ht
  have t0 : (0 : Nat) = 0 := rfl
  go_enter Try.func5, Try.ntmps5
  go_wp2_with (first
    | (have qq := t7; go_at_call 16; refine (S2.out _).mono ?_; rintro e w4 ⟨rfl, B9⟩; have VX : Hid (Vr w4 w.heap.size x.cs) := VX.out.below B9 (range_lt VX.out.1 (Nat.succ_pos _)); have VY : Hid (Vr w4 w1.heap.size y.cs) := VY.out.below B9 (range_lt VY.out.1 (Nat.succ_pos _)); have BB : Hid (Below w.heap.size w w4) := BB.out.trans (B9.mono BB.out.size); clear B9 t7)
    | (have qq := t4; go_at_call 16; refine (S1.out _).mono ?_; rintro e w3 ⟨rfl, B9⟩; have VX : Hid (Vr w3 w.heap.size x.cs) := VX.out.below B9 (range_lt VX.out.1 (Nat.succ_pos _)); have VY : Hid (Vr w3 w1.heap.size y.cs) := VY.out.below B9 (range_lt VY.out.1 (Nat.succ_pos _)); have BB : Hid (Below w.heap.size w w3) := BB.out.trans (B9.mono BB.out.size); have nx := cells0 VX.out.1; have ny := cells0 VY.out.1; clear B9 t4; have t7 : (0 : Nat) = 0 := rfl)
    | (have qq := t1; refine box_lawC _ y.cs rfl ?_; intro w2 X9 B9 l9; have VX : Hid (Vr w2 w.heap.size x.cs) := VX.out.below B9 (range_lt VX.out.1 (Nat.succ_pos _)); have VY : Hid (Vr w2 w1.heap.size y.cs) := X9; have BB : Hid (Below w.heap.size w w2) := BB.out.trans (B9.mono BB.out.size); have nx := cells0 VX.out.1; have ny := cells0 VY.out.1; clear B9 X9 l9 t1; have t4 : (0 : Nat) = 0 := rfl)
    | (have qq := t0; refine box_lawC _ x.cs rfl ?_; intro w1 X9 B9 l9; have VX : Hid (Vr w1 w.heap.size x.cs) := X9; have BB : Hid (Below w.heap.size w w1) := B9; clear B9 X9 l9 t0; have t1 : (0 : Nat) = 0 := rfl))
  have VX : Hid (Vr w4.drew w.heap.size x.cs) := VX.out.drewN 1
  have VY : Hid (Vr w4.drew w1.heap.size y.cs) := VY.out.drewN 1
  have BB : Hid (Below w.heap.size w w4.drew) := below_dr BB.out 1
  refine wp_region_held_drew (S := fun w' => w'.rangeAt w.heap.size 0 x.cs ∧ w'.rangeAt w1.heap.size 0 y.cs) (by kernel_rfl) ⟨VX.out.1, VY.out.1⟩ (fun hS => ?_)
  obtain ⟨z1, hx0⟩ : ∃ x, x = w4.drew := ⟨_, rfl⟩
  rw [← hx0] at hS VX VY BB ⊢
  clear hx0
  refine take_lawH 0 (some 14) (.bool true) rfl rfl (by kernel_rfl) (by kernel_rfl) (by kernel_rfl) (fun _ _ _ h => h) (Or.inl ⟨by rfl, fun w' hw' => by rfl⟩) hS ?_
  simp only [Act.put, List.setIfInBounds_toArray, List.set_cons_zero, List.set_cons_succ]
  refine take_lawH 1 (some 15) (.agg x.cs.toArray) rfl rfl (by kernel_rfl) (by kernel_rfl) (by kernel_rfl) (fun _ _ _ h => h) (Or.inl ⟨by rfl, fun w' hw' => by exact exec_loadN 37 (.tmp 2) rfl _ rfl _ _ (load_cells rowy_spot hw'.1)⟩) hS ?_
  simp only [Act.put, List.setIfInBounds_toArray, List.set_cons_zero, List.set_cons_succ]
  refine take_lawH 3 (some 17) (.agg y.cs.toArray) rfl rfl (by kernel_rfl) (by kernel_rfl) (by kernel_rfl) (fun _ _ _ h => h) (Or.inl ⟨by rfl, fun w' hw' => by exact exec_loadN 37 (.tmp 3) rfl _ rfl _ _ (load_cells rowy_spot hw'.2)⟩) hS ?_
  simp only [Act.put, List.setIfInBounds_toArray, List.set_cons_zero, List.set_cons_succ]
  refine wpAnyH_ready (rs := [2]) (by kernel_rfl) (by simp) ?_
  refine AllReadyH.cons rfl (fun K hK => ?_) AllReadyH.nil
  refine step_callG z1 rfl (some 16) rfl 18 #[.tmp 15] _ rfl (fun _ _ => rfl) #[.agg x.cs.toArray] (by simp only [List.map_toArray, List.map_cons, List.map_nil]; rfl) (fun v w' => v = .agg x.cs.toArray ∧ Below z1.heap.size z1 w') ((of_any x z1).mono fun e w' ⟨h1, h2⟩ => ⟨_, h1, rfl, h2⟩) ?_
  rintro v9 z2 ⟨rfl, B9⟩
  have VX : Hid (Vr z2 w.heap.size x.cs) := VX.out.below B9 (range_lt VX.out.1 (Nat.succ_pos _))
  have VY : Hid (Vr z2 w1.heap.size y.cs) := VY.out.below B9 (range_lt VY.out.1 (Nat.succ_pos _))
  have BB : Hid (Below w.heap.size w z2) := BB.out.trans (B9.mono BB.out.size)
  have hS : z2.rangeAt w.heap.size 0 x.cs ∧ z2.rangeAt w1.heap.size 0 y.cs := ⟨VX.out.1, VY.out.1⟩
  clear B9
  refine hK.out _ _ hS (fun _ => ?_)
  simp only [Act.put, List.setIfInBounds_toArray, List.set_cons_zero, List.set_cons_succ]
  clear hK K
  refine wpAnyH_ready (rs := [4]) (by kernel_rfl) (by simp) ?_
  refine AllReadyH.cons rfl (fun K hK => ?_) AllReadyH.nil
  refine step_callG z2 rfl (some 18) rfl 18 #[.tmp 17] _ rfl (fun _ _ => rfl) #[.agg y.cs.toArray] (by simp only [List.map_toArray, List.map_cons, List.map_nil]; rfl) (fun v w' => v = .agg y.cs.toArray ∧ Below z2.heap.size z2 w') ((of_any y z2).mono fun e w' ⟨h1, h2⟩ => ⟨_, h1, rfl, h2⟩) ?_
  rintro v9 z3 ⟨rfl, B9⟩
  have VX : Hid (Vr z3 w.heap.size x.cs) := VX.out.below B9 (range_lt VX.out.1 (Nat.succ_pos _))
  have VY : Hid (Vr z3 w1.heap.size y.cs) := VY.out.below B9 (range_lt VY.out.1 (Nat.succ_pos _))
  have BB : Hid (Below w.heap.size w z3) := BB.out.trans (B9.mono BB.out.size)
  have hS : z3.rangeAt w.heap.size 0 x.cs ∧ z3.rangeAt w1.heap.size 0 y.cs := ⟨VX.out.1, VY.out.1⟩
  clear B9
  refine hK.out _ _ hS (fun _ => ?_)
  simp only [Act.put, List.setIfInBounds_toArray, List.set_cons_zero, List.set_cons_succ]
  clear hK K
  refine wpAnyH_ready (rs := [5]) (by kernel_rfl) (by simp) ?_
  refine AllReadyH.cons rfl (fun K hK => ?_) AllReadyH.nil
  refine step_callG z3 rfl (some 19) rfl 17 #[.tmp 16, .tmp 18] _ rfl (fun _ _ => rfl) #[.agg x.cs.toArray, .agg y.cs.toArray] (by simp only [List.map_toArray, List.map_cons, List.map_nil]; rfl) (fun v w' => v = .bool true ∧ Below z3.heap.size z3 w') ((S3.out z3).mono fun e w' ⟨h1, h2⟩ => ⟨_, h1, rfl, h2⟩) ?_
  rintro v9 z4 ⟨rfl, B9⟩
  have VX : Hid (Vr z4 w.heap.size x.cs) := VX.out.below B9 (range_lt VX.out.1 (Nat.succ_pos _))
  have VY : Hid (Vr z4 w1.heap.size y.cs) := VY.out.below B9 (range_lt VY.out.1 (Nat.succ_pos _))
  have BB : Hid (Below w.heap.size w z4) := BB.out.trans (B9.mono BB.out.size)
  have hS : z4.rangeAt w.heap.size 0 x.cs ∧ z4.rangeAt w1.heap.size 0 y.cs := ⟨VX.out.1, VY.out.1⟩
  clear B9
  refine hK.out _ _ hS (fun _ => ?_)
  simp only [Act.put, List.setIfInBounds_toArray, List.set_cons_zero, List.set_cons_succ]
  clear hK K
  refine take_lawH 6 (some 20) (.bool false) rfl rfl (by kernel_rfl) (by kernel_rfl) (by kernel_rfl) (fun _ _ _ h => h) (Or.inl ⟨by rfl, fun w' hw' => by go_simp⟩) hS ?_
  simp only [Act.put, List.setIfInBounds_toArray, List.set_cons_zero, List.set_cons_succ]
  refine take_lawH 7 (some 21) (.bool false) rfl rfl (by kernel_rfl) (by kernel_rfl) (by kernel_rfl) (fun _ _ _ h => h) (Or.inl ⟨by rfl, fun w' hw' => by rfl⟩) hS ?_
  simp only [Act.put, List.setIfInBounds_toArray, List.set_cons_zero, List.set_cons_succ]
  refine take_lawH 8 (some 22) (.bool true) rfl rfl (by kernel_rfl) (by kernel_rfl) (by kernel_rfl) (fun _ _ _ h => h) (Or.inl ⟨by rfl, fun w' hw' => by rfl⟩) hS ?_
  simp only [Act.put, List.setIfInBounds_toArray, List.set_cons_zero, List.set_cons_succ]
  refine take_lawH 9 (some 23) (.bool true) rfl rfl (by kernel_rfl) (by kernel_rfl) (by kernel_rfl) (fun _ _ _ h => h) (Or.inl ⟨by rfl, fun w' hw' => by rfl⟩) hS ?_
  simp only [Act.put, List.setIfInBounds_toArray, List.set_cons_zero, List.set_cons_succ]
  refine take_lawH 10 (some 24) (.bool false) rfl rfl (by kernel_rfl) (by kernel_rfl) (by kernel_rfl) (fun _ _ _ h => h) (Or.inl ⟨by rfl, fun w' hw' => by rfl⟩) hS ?_
  simp only [Act.put, List.setIfInBounds_toArray, List.set_cons_zero, List.set_cons_succ]
  refine take_lawH 11 (some 25) (.bool false) rfl rfl (by kernel_rfl) (by kernel_rfl) (by kernel_rfl) (fun _ _ _ h => h) (Or.inl ⟨by rfl, fun w' hw' => by rfl⟩) hS ?_
  simp only [Act.put, List.setIfInBounds_toArray, List.set_cons_zero, List.set_cons_succ]
  refine take_lawH 12 (some 26) (.bool false) rfl rfl (by kernel_rfl) (by kernel_rfl) (by kernel_rfl) (fun _ _ _ h => h) (Or.inl ⟨by rfl, fun w' hw' => by rfl⟩) hS ?_
  simp only [Act.put, List.setIfInBounds_toArray, List.set_cons_zero, List.set_cons_succ]
  refine wpAnyH_done (by kernel_rfl) ?_ _
  have nx := cells0 VX.out.1
  have ny := cells0 VY.out.1
  go_wp2_with (go_at_call 14; refine (awake_any _).mono ?_; rintro e9 w9 ⟨rfl, B9⟩; have BB : Hid (Below w.heap.size w w9) := BB.out.trans (B9.mono BB.out.size); clear B9)
  go_ret
  exact ⟨rfl, BB.out⟩
theorem walk (x y : Sp) (w : World) (_ : Sw x) (_ : Sw y) : Calls Try.prog 5 #[.agg x.cs.toArray, .agg y.cs.toArray] w fun e w' => e = .returned (.bool true) ∧ Below w.heap.size w w' := by
  cases hp : nw x y with
  | false =>
    cases hq : nw y x with
    | false =>
      by_cases h : x.h.e = y.h.e ∧ x.h.t = y.h.t
      · exact w0011 x y w hp hq h.1 h.2
      · have := nw_total x y h hp
        rw [hq] at this
        cases this
    | true =>
      by_cases he : x.h.e = y.h.e
      · by_cases ht : x.h.t = y.h.t
        · exact w0111 x y w hp hq he ht
        · exact w0110 x y w hp hq he ht
      · exact w0100 x y w hp hq he
  | true =>
    have hq := nw_asym x y hp
    by_cases he : x.h.e = y.h.e
    · by_cases ht : x.h.t = y.h.t
      · exact w1011 x y w hp hq he ht
      · exact w1010 x y w hp hq he ht
    · exact w1000 x y w hp hq he

theorem params : ∀ t ∈ Try.f5.params.toList, Try.prog.readableRec t = true ∧ t < Try.prog.types.size := by
  rw [Try.params5]
  intro t ht
  simp at ht
  subst ht
  exact ⟨by kernel_rfl, of_decide_eq_true (by kernel_rfl)⟩

theorem contract (H : Type) (enc : TypeId × Value → H) (W : World) (base : Nat) (args : Array Value) (ds gs : List (DataW H)) (before : List MemPlace)
    (hval : ∀ (j : Nat) t v, Try.f5.params[j]? = some t → args[j]? = some v → Value.okWide Try.prog W .any base t v)
    (hW : DataW.Whole enc Try.prog Try.f5.params.toList Rows.pagemapNewersSpec.vars false W args.toList ds gs before) :
    Calls Try.prog 5 args W fun e W' => ∃ v, e = .returned v ∧ Rows.pagemapNewersSpec.post enc Try.prog Try.f5 false true false false W args v W' := by
  have hW' := hW
  obtain ⟨p, q, hA0, hV, rfl, hfz, hnd⟩ := hW
  have hA : DataW.TrodAll enc Try.prog W 0 (fun _ => true) true Try.f5.params.toList args.toList ds p := hA0
  rw [Try.params5] at hA hval
  obtain ⟨v0, v1, d0, d1, p0, p1, rfl, rfl, rfl, h0, h1⟩ := trodAll_two hA
  obtain ⟨rfl, rfl⟩ := trodVars_none hV
  obtain ⟨sx0, rfl, wx0⟩ := pm.spot_open (hval 0 37 v0 rfl rfl) h0
  obtain ⟨sx1, rfl, wx1⟩ := pm.spot_open (hval 1 37 v1 rfl rfl) h1
  clear hA0
  refine (walk sx0 sx1 W wx0 wx1).mono fun e W' ⟨he, hg⟩ => ?_
  subst he
  exact ⟨_, rfl, post_law rfl (by kernel_rfl) params rfl rfl rfl hW' hg⟩

theorem laid_met (os : Os) : laidMet Try.prog Rows.pagemapNewersRow.laid ((World.holding Try.prog os ⟨#[], #[], []⟩).forCall (fun _ _ => 0) ⟨#[], #[.agg #[.int .i64 0, .int .i64 0, .int .i64 0, .int .i64 0, .int .i64 0, .int .u32 0, .int .u64 0, .int .u64 0, .int .i64 0, .int .i64 0, .int .i64 0, .int .u32 0, .int .u64 0, .int .u64 0], .agg #[.int .i64 0, .int .i64 0, .int .i64 0, .int .i64 0, .int .i64 0, .int .u32 0, .int .u64 0, .int .u64 0, .int .i64 0, .int .i64 0, .int .i64 0, .int .u32 0, .int .u64 0, .int .u64 0]], []⟩).memory :=
  laidMet_of_run' 8 (by kernel_rfl) (by kernel_rfl)
theorem reads (os : Os) {H : Type} (enc : TypeId × Value → H) : ∃ places, DataW.whole enc Try.prog ((World.holding Try.prog os ⟨#[], #[], []⟩).forCall (fun _ _ => 0) ⟨#[], #[.agg #[.int .i64 0, .int .i64 0, .int .i64 0, .int .i64 0, .int .i64 0, .int .u32 0, .int .u64 0, .int .u64 0, .int .i64 0, .int .i64 0, .int .i64 0, .int .u32 0, .int .u64 0, .int .u64 0], .agg #[.int .i64 0, .int .i64 0, .int .i64 0, .int .i64 0, .int .i64 0, .int .u32 0, .int .u64 0, .int .u64 0, .int .i64 0, .int .i64 0, .int .i64 0, .int .u32 0, .int .u64 0, .int .u64 0]], []⟩).memory Try.f5.params.toList Rows.pagemapNewersSpec.vars false #[Value.agg #[.int .i64 0, .int .i64 0, .int .i64 0, .int .i64 0, .int .i64 0, .int .u32 0, .int .u64 0, .int .u64 0, .int .i64 0, .int .i64 0, .int .i64 0, .int .u32 0, .int .u64 0, .int .u64 0], Value.agg #[.int .i64 0, .int .i64 0, .int .i64 0, .int .i64 0, .int .i64 0, .int .u32 0, .int .u64 0, .int .u64 0, .int .i64 0, .int .i64 0, .int .i64 0, .int .u32 0, .int .u64 0, .int .u64 0]].toList 8 = some ([.agg [.agg [.lit (.int .i64 0), .lit (.int .i64 0)], .agg [.lit (.int .i64 0), .lit (.int .i64 0), .lit (.int .i64 0), .lit (.int .u32 0), .lit (.int .u64 0), .lit (.int .u64 0)], .agg [.lit (.int .i64 0), .lit (.int .i64 0), .lit (.int .i64 0), .lit (.int .u32 0), .lit (.int .u64 0), .lit (.int .u64 0)]], .agg [.agg [.lit (.int .i64 0), .lit (.int .i64 0)], .agg [.lit (.int .i64 0), .lit (.int .i64 0), .lit (.int .i64 0), .lit (.int .u32 0), .lit (.int .u64 0), .lit (.int .u64 0)], .agg [.lit (.int .i64 0), .lit (.int .i64 0), .lit (.int .i64 0), .lit (.int .u32 0), .lit (.int .u64 0), .lit (.int .u64 0)]]], [], places) :=
  ⟨[], by kernel_rfl⟩

set_option maxRecDepth 100000 in
theorem lifted (os : Os) (started : os.Started) (H : Type) (enc : TypeId × Value → H) (F : Stop.Interp) :
    ReturnsInHanded {} Try.checked os 5 .any ((OpenSpec.ofChange Rows.pagemapNewersSpec).preRow enc Try.prog Try.f5 Rows.pagemapNewersRow.domain false Rows.pagemapNewersRow.laid) (((OpenSpec.ofChange Rows.pagemapNewersSpec).at F).post enc Try.prog Try.f5 false true false false) := by
  obtain ⟨places, hx⟩ := reads os enc
  refine returnsInHanded_of_row (C := Try.checked) (s := OpenSpec.ofChange Rows.pagemapNewersSpec) own started (by kernel_rfl) Try.func5
    (witness_row_at (enc := enc) (C := Try.checked) false (World.holding Try.prog os ⟨#[], #[], []⟩) #[.agg #[.int .i64 0, .int .i64 0, .int .i64 0, .int .i64 0, .int .i64 0, .int .u32 0, .int .u64 0, .int .u64 0, .int .i64 0, .int .i64 0, .int .i64 0, .int .u32 0, .int .u64 0, .int .u64 0], .agg #[.int .i64 0, .int .i64 0, .int .i64 0, .int .i64 0, .int .i64 0, .int .u32 0, .int .u64 0, .int .u64 0, .int .i64 0, .int .i64 0, .int .i64 0, .int .u32 0, .int .u64 0, .int .u64 0]] rfl (by kernel_rfl) (by kernel_rfl) (by kernel_rfl)
      (OpenSpec.preRow_of_cond 8 hx (by kernel_rfl) (fun k hk => by cases hk) (by kernel_rfl) (laid_met os))) ?_
  intro W base args ds gs before hval hW _ _ _ _ _ _
  exact contract H enc W base args ds gs before hval hW

theorem said : Rows.PagemapNewersSaid :=
  OpenClaim.holds_of_cond 5 Try.f5 rfl rfl rfl rfl rfl rfl rfl ⟨rfl, rfl, rfl, rfl, rfl⟩ rfl rfl rfl rfl rfl (by kernel_rfl) Try.func5 (by kernel_rfl)
    (of_decide_eq_true (by kernel_rfl)) (by unfold Func.isWrapper; first | (rw [if_pos (by decide +kernel)]; kernel_rfl) | (rw [if_neg (by decide +kernel)]; exact ⟨rfl, rfl⟩))
    (fun os started H enc _ F => by rw [OpenClaim.pre_eq_preRow]; exact lifted os started H enc F)
end Go.Proofs.Ytedmmpognhpbdaa.pagemapNewers

namespace Go.Proofs.Ytedmmpognhpbdaa
theorem pagemapNewers_said : Rows.PagemapNewersSaid := pagemapNewers.said
#print axioms pagemapNewers_said
end Go.Proofs.Ytedmmpognhpbdaa
