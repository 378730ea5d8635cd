/- That no record with a salt is the same as that of noughts, by the reference. No claim of its own. -/
import Derived.Test.YtmbfccclghnaeaaDoorPackQ
namespace Go.Proofs.YtmbfccclghnaeaaDoor.re
open Go.RowKit Go.Proofs.YtmbfccclghnaeaaDoor.fa Go.Proofs.YtmbfccclghnaeaaDoor.he Go.Proofs.YtmbfccclghnaeaaDoor.so
set_option maxRecDepth 20000

set_option maxHeartbeats 4000000 in
theorem sz_g (g p b : Int) (a c : Value) (al cl : List Int) (S : Nat → Sc) (w : World) (hA : Byt w a al) (hC : Byt w c cl) (h_g : g ≠ 0) :
    Calls Tryd.prog 14 #[.agg (rv g p a b c S).toArray, .agg rv0.toArray] w fun x w' => x = .returned (.bool false) ∧ Below w.heap.size w w' := by
  have n_g : (g == 0) = false := beq_eq_false_iff_ne.2 h_g
  clear h_g
  obtain ⟨ao, ca, rfl⟩ := form hA
  obtain ⟨co, cc, rfl⟩ := form hC
  clear hA hC
  have t0 : (0 : Nat) = 0 := rfl
  go_enter Tryd.func14, Tryd.ntmps14
  go_wp2_with (first
    | (have q1 := t1; refine box_lawC _ rv0 rfl ?_; intro w2 X9 B9 l9; have HB0 : Hid (Vr w2 w.heap.size (rv g p (.slice ao al.length ca) b (.slice co cl.length cc) S)) := HB0.out.below B9 (range_lt HB0.out.1 (Nat.succ_pos _)); have HB1 : Hid (Vr w2 w1.heap.size rv0) := X9; have BB : Hid (Below w.heap.size w w2) := BB.out.trans (B9.mono BB.out.size); have hb0_0 := HB0.out.cell 0 _ rfl; have hb0_1 := HB0.out.cell 1 _ rfl; have hb0_2 := HB0.out.cell 2 _ rfl; have hb0_3 := HB0.out.cell 3 _ rfl; have hb0_4 := HB0.out.cell 4 _ rfl; have hb1_0 := HB1.out.cell 0 _ rfl; have hb1_1 := HB1.out.cell 1 _ rfl; have hb1_2 := HB1.out.cell 2 _ rfl; have hb1_3 := HB1.out.cell 3 _ rfl; have hb1_4 := HB1.out.cell 4 _ rfl; clear X9 B9 l9; clear t1; have t2 : (1 : Nat) = 1 := rfl)
    | (have q0 := t0; refine box_lawC _ (rv g p (.slice ao al.length ca) b (.slice co cl.length cc) S) rfl ?_; intro w1 X9 B9 l9; have HB0 : Hid (Vr w1 w.heap.size (rv g p (.slice ao al.length ca) b (.slice co cl.length cc) S)) := X9; have BB : Hid (Below w.heap.size w w1) := B9; clear X9 B9 l9; clear t0; have t1 : (1 : Nat) = 1 := rfl))
  (try clear hb0_0 hb0_1 hb0_2 hb0_3 hb0_4 hb1_0 hb1_1 hb1_2 hb1_3 hb1_4)
  go_loopw [6, 5] (fun i z wr => ∃ k : Nat, k ≤ 4 ∧ i = .int .i64 (k : Int) ∧ z = .bool false ∧ Below w.heap.size w wr) (fun i _ _ => 4 - (intOf i).toNat)
  case atStart => exact ⟨0, Nat.zero_le _, rfl, rfl, BB.out⟩
  case round =>
    clear HB0 HB1 BB
    obtain ⟨k, hk4, rfl, rfl, hBl⟩ := hrel
    have BB : Hid (Below w.heap.size w wr) := hBl
    clear hBl
    by_cases hk : k < 4
    · have ki : (k : Int) < 4 := by omega
      go_wp2
      refine wp_region_held_drew (S := fun w' => Below wr.heap.size wr w') (by kernel_rfl) (Below.refl _ _).drew (fun hS => ?_)
      obtain ⟨x1, hx0⟩ : ∃ x, x = wr.drew := ⟨_, rfl⟩
      rw [← hx0] at hS  ⊢
      clear hx0
      refine take_lawH 0 (some 44) (.bool false) rfl rfl (by kernel_rfl) (by kernel_rfl) (by kernel_rfl) (fun _ _ _ h => h) (Or.inl ⟨by rfl, fun w' hw' => by rfl⟩) hS ?_
      simp only [Act.put, List.setIfInBounds_toArray, List.set_cons_zero, List.set_cons_succ]
      refine take_lawH 1 (some 45) (.bool false) rfl rfl (by kernel_rfl) (by kernel_rfl) (by kernel_rfl) (fun _ _ _ h => h) (Or.inl ⟨by rfl, fun w' hw' => by rfl⟩) hS ?_
      simp only [Act.put, List.setIfInBounds_toArray, List.set_cons_zero, List.set_cons_succ]
      refine take_lawH 2 (some 46) (undef) rfl rfl (by kernel_rfl) (by kernel_rfl) (by kernel_rfl) (fun _ _ _ h => h) (Or.inr ⟨by rfl, rfl⟩) hS ?_
      simp only [Act.put, List.setIfInBounds_toArray, List.set_cons_zero, List.set_cons_succ]
      refine take_lawH 3 (some 47) (undef) rfl rfl (by kernel_rfl) (by kernel_rfl) (by kernel_rfl) (fun _ _ _ h => h) (Or.inr ⟨by rfl, rfl⟩) hS ?_
      simp only [Act.put, List.setIfInBounds_toArray, List.set_cons_zero, List.set_cons_succ]
      refine take_lawH 4 (some 48) (undef) rfl rfl (by kernel_rfl) (by kernel_rfl) (by kernel_rfl) (fun _ _ _ h => h) (Or.inr ⟨by rfl, rfl⟩) hS ?_
      simp only [Act.put, List.setIfInBounds_toArray, List.set_cons_zero, List.set_cons_succ]
      refine take_lawH 5 (some 49) (undef) rfl rfl (by kernel_rfl) (by kernel_rfl) (by kernel_rfl) (fun _ _ _ h => h) (Or.inr ⟨by rfl, rfl⟩) hS ?_
      simp only [Act.put, List.setIfInBounds_toArray, List.set_cons_zero, List.set_cons_succ]
      refine take_lawH 6 (some 50) (undef) rfl rfl (by kernel_rfl) (by kernel_rfl) (by kernel_rfl) (fun _ _ _ h => h) (Or.inr ⟨by rfl, rfl⟩) hS ?_
      simp only [Act.put, List.setIfInBounds_toArray, List.set_cons_zero, List.set_cons_succ]
      refine take_lawH 7 (some 51) (undef) rfl rfl (by kernel_rfl) (by kernel_rfl) (by kernel_rfl) (fun _ _ _ h => h) (Or.inr ⟨by rfl, rfl⟩) hS ?_
      simp only [Act.put, List.setIfInBounds_toArray, List.set_cons_zero, List.set_cons_succ]
      refine take_lawH 8 (some 52) (undef) rfl rfl (by kernel_rfl) (by kernel_rfl) (by kernel_rfl) (fun _ _ _ h => h) (Or.inr ⟨by rfl, rfl⟩) hS ?_
      simp only [Act.put, List.setIfInBounds_toArray, List.set_cons_zero, List.set_cons_succ]
      refine take_lawH 9 (some 53) (undef) rfl rfl (by kernel_rfl) (by kernel_rfl) (by kernel_rfl) (fun _ _ _ h => h) (Or.inr ⟨by rfl, rfl⟩) hS ?_
      simp only [Act.put, List.setIfInBounds_toArray, List.set_cons_zero, List.set_cons_succ]
      refine take_lawH 10 (some 54) (undef) rfl rfl (by kernel_rfl) (by kernel_rfl) (by kernel_rfl) (fun _ _ _ h => h) (Or.inr ⟨by rfl, rfl⟩) hS ?_
      simp only [Act.put, List.setIfInBounds_toArray, List.set_cons_zero, List.set_cons_succ]
      refine take_lawH 11 (some 55) (.bool false) rfl rfl (by kernel_rfl) (by kernel_rfl) (by kernel_rfl) (fun _ _ _ h => h) (Or.inl ⟨by rfl, fun w' hw' => by rfl⟩) hS ?_
      simp only [Act.put, List.setIfInBounds_toArray, List.set_cons_zero, List.set_cons_succ]
      refine take_lawH 12 (some 5) (.bool false) rfl rfl (by kernel_rfl) (by kernel_rfl) (by kernel_rfl) (fun _ _ _ h => h) (Or.inl ⟨by rfl, fun w' hw' => by rfl⟩) hS ?_
      simp only [Act.put, List.setIfInBounds_toArray, List.set_cons_zero, List.set_cons_succ]
      refine wpAnyH_done (by kernel_rfl) ?_ _
      have BZ : Hid (Below w.heap.size w x1) := BB.out.trans (hS.mono BB.out.size)
      clear hS
      go_wp2
      go_roundw
      case rel => exact ⟨k + 1, by omega, by go_num, rfl, BZ.out⟩
      case measure => simp [intOf]; omega
    · have e4 : k = 4 := by omega
      subst e4
      go_wp2
      go_ret
      exact ⟨rfl, BB.out⟩

set_option maxHeartbeats 4000000 in
theorem sz_p (g p b : Int) (a c : Value) (al cl : List Int) (S : Nat → Sc) (w : World) (hA : Byt w a al) (hC : Byt w c cl) (h_g : g = 0) (h_p : p ≠ 0) :
    Calls Tryd.prog 14 #[.agg (rv g p a b c S).toArray, .agg rv0.toArray] w fun x w' => x = .returned (.bool false) ∧ Below w.heap.size w w' := by
  subst h_g
  have n_p : (p == 0) = false := beq_eq_false_iff_ne.2 h_p
  clear h_p
  obtain ⟨ao, ca, rfl⟩ := form hA
  obtain ⟨co, cc, rfl⟩ := form hC
  clear hA hC
  have t0 : (0 : Nat) = 0 := rfl
  go_enter Tryd.func14, Tryd.ntmps14
  go_wp2_with (first
    | (have q1 := t1; refine box_lawC _ rv0 rfl ?_; intro w2 X9 B9 l9; have HB0 : Hid (Vr w2 w.heap.size (rv 0 p (.slice ao al.length ca) b (.slice co cl.length cc) S)) := HB0.out.below B9 (range_lt HB0.out.1 (Nat.succ_pos _)); have HB1 : Hid (Vr w2 w1.heap.size rv0) := X9; have BB : Hid (Below w.heap.size w w2) := BB.out.trans (B9.mono BB.out.size); have hb0_0 := HB0.out.cell 0 _ rfl; have hb0_1 := HB0.out.cell 1 _ rfl; have hb0_2 := HB0.out.cell 2 _ rfl; have hb0_3 := HB0.out.cell 3 _ rfl; have hb0_4 := HB0.out.cell 4 _ rfl; have hb1_0 := HB1.out.cell 0 _ rfl; have hb1_1 := HB1.out.cell 1 _ rfl; have hb1_2 := HB1.out.cell 2 _ rfl; have hb1_3 := HB1.out.cell 3 _ rfl; have hb1_4 := HB1.out.cell 4 _ rfl; clear X9 B9 l9; clear t1; have t2 : (1 : Nat) = 1 := rfl)
    | (have q0 := t0; refine box_lawC _ (rv 0 p (.slice ao al.length ca) b (.slice co cl.length cc) S) rfl ?_; intro w1 X9 B9 l9; have HB0 : Hid (Vr w1 w.heap.size (rv 0 p (.slice ao al.length ca) b (.slice co cl.length cc) S)) := X9; have BB : Hid (Below w.heap.size w w1) := B9; clear X9 B9 l9; clear t0; have t1 : (1 : Nat) = 1 := rfl))
  (try clear hb0_0 hb0_1 hb0_2 hb0_3 hb0_4 hb1_0 hb1_1 hb1_2 hb1_3 hb1_4)
  go_loopw [6, 5] (fun i z wr => ∃ k : Nat, k ≤ 4 ∧ i = .int .i64 (k : Int) ∧ z = .bool false ∧ Below w.heap.size w wr) (fun i _ _ => 4 - (intOf i).toNat)
  case atStart => exact ⟨0, Nat.zero_le _, rfl, rfl, BB.out⟩
  case round =>
    clear HB0 HB1 BB
    obtain ⟨k, hk4, rfl, rfl, hBl⟩ := hrel
    have BB : Hid (Below w.heap.size w wr) := hBl
    clear hBl
    by_cases hk : k < 4
    · have ki : (k : Int) < 4 := by omega
      go_wp2
      refine wp_region_held_drew (S := fun w' => Below wr.heap.size wr w') (by kernel_rfl) (Below.refl _ _).drew (fun hS => ?_)
      obtain ⟨x1, hx0⟩ : ∃ x, x = wr.drew := ⟨_, rfl⟩
      rw [← hx0] at hS  ⊢
      clear hx0
      refine take_lawH 0 (some 44) (.bool false) rfl rfl (by kernel_rfl) (by kernel_rfl) (by kernel_rfl) (fun _ _ _ h => h) (Or.inl ⟨by rfl, fun w' hw' => by rfl⟩) hS ?_
      simp only [Act.put, List.setIfInBounds_toArray, List.set_cons_zero, List.set_cons_succ]
      refine take_lawH 1 (some 45) (.bool false) rfl rfl (by kernel_rfl) (by kernel_rfl) (by kernel_rfl) (fun _ _ _ h => h) (Or.inl ⟨by rfl, fun w' hw' => by rfl⟩) hS ?_
      simp only [Act.put, List.setIfInBounds_toArray, List.set_cons_zero, List.set_cons_succ]
      refine take_lawH 2 (some 46) (undef) rfl rfl (by kernel_rfl) (by kernel_rfl) (by kernel_rfl) (fun _ _ _ h => h) (Or.inr ⟨by rfl, rfl⟩) hS ?_
      simp only [Act.put, List.setIfInBounds_toArray, List.set_cons_zero, List.set_cons_succ]
      refine take_lawH 3 (some 47) (undef) rfl rfl (by kernel_rfl) (by kernel_rfl) (by kernel_rfl) (fun _ _ _ h => h) (Or.inr ⟨by rfl, rfl⟩) hS ?_
      simp only [Act.put, List.setIfInBounds_toArray, List.set_cons_zero, List.set_cons_succ]
      refine take_lawH 4 (some 48) (undef) rfl rfl (by kernel_rfl) (by kernel_rfl) (by kernel_rfl) (fun _ _ _ h => h) (Or.inr ⟨by rfl, rfl⟩) hS ?_
      simp only [Act.put, List.setIfInBounds_toArray, List.set_cons_zero, List.set_cons_succ]
      refine take_lawH 5 (some 49) (undef) rfl rfl (by kernel_rfl) (by kernel_rfl) (by kernel_rfl) (fun _ _ _ h => h) (Or.inr ⟨by rfl, rfl⟩) hS ?_
      simp only [Act.put, List.setIfInBounds_toArray, List.set_cons_zero, List.set_cons_succ]
      refine take_lawH 6 (some 50) (undef) rfl rfl (by kernel_rfl) (by kernel_rfl) (by kernel_rfl) (fun _ _ _ h => h) (Or.inr ⟨by rfl, rfl⟩) hS ?_
      simp only [Act.put, List.setIfInBounds_toArray, List.set_cons_zero, List.set_cons_succ]
      refine take_lawH 7 (some 51) (undef) rfl rfl (by kernel_rfl) (by kernel_rfl) (by kernel_rfl) (fun _ _ _ h => h) (Or.inr ⟨by rfl, rfl⟩) hS ?_
      simp only [Act.put, List.setIfInBounds_toArray, List.set_cons_zero, List.set_cons_succ]
      refine take_lawH 8 (some 52) (undef) rfl rfl (by kernel_rfl) (by kernel_rfl) (by kernel_rfl) (fun _ _ _ h => h) (Or.inr ⟨by rfl, rfl⟩) hS ?_
      simp only [Act.put, List.setIfInBounds_toArray, List.set_cons_zero, List.set_cons_succ]
      refine take_lawH 9 (some 53) (undef) rfl rfl (by kernel_rfl) (by kernel_rfl) (by kernel_rfl) (fun _ _ _ h => h) (Or.inr ⟨by rfl, rfl⟩) hS ?_
      simp only [Act.put, List.setIfInBounds_toArray, List.set_cons_zero, List.set_cons_succ]
      refine take_lawH 10 (some 54) (undef) rfl rfl (by kernel_rfl) (by kernel_rfl) (by kernel_rfl) (fun _ _ _ h => h) (Or.inr ⟨by rfl, rfl⟩) hS ?_
      simp only [Act.put, List.setIfInBounds_toArray, List.set_cons_zero, List.set_cons_succ]
      refine take_lawH 11 (some 55) (.bool false) rfl rfl (by kernel_rfl) (by kernel_rfl) (by kernel_rfl) (fun _ _ _ h => h) (Or.inl ⟨by rfl, fun w' hw' => by rfl⟩) hS ?_
      simp only [Act.put, List.setIfInBounds_toArray, List.set_cons_zero, List.set_cons_succ]
      refine take_lawH 12 (some 5) (.bool false) rfl rfl (by kernel_rfl) (by kernel_rfl) (by kernel_rfl) (fun _ _ _ h => h) (Or.inl ⟨by rfl, fun w' hw' => by rfl⟩) hS ?_
      simp only [Act.put, List.setIfInBounds_toArray, List.set_cons_zero, List.set_cons_succ]
      refine wpAnyH_done (by kernel_rfl) ?_ _
      have BZ : Hid (Below w.heap.size w x1) := BB.out.trans (hS.mono BB.out.size)
      clear hS
      go_wp2
      go_roundw
      case rel => exact ⟨k + 1, by omega, by go_num, rfl, BZ.out⟩
      case measure => simp [intOf]; omega
    · have e4 : k = 4 := by omega
      subst e4
      go_wp2
      go_ret
      exact ⟨rfl, BB.out⟩

set_option maxHeartbeats 4000000 in
theorem sz_b (g p b : Int) (a c : Value) (al cl : List Int) (S : Nat → Sc) (w : World) (hA : Byt w a al) (hC : Byt w c cl) (h_g : g = 0) (h_p : p = 0) (h_b : b ≠ 0) :
    Calls Tryd.prog 14 #[.agg (rv g p a b c S).toArray, .agg rv0.toArray] w fun x w' => x = .returned (.bool false) ∧ Below w.heap.size w w' := by
  subst h_g h_p
  have n_b : (b == 0) = false := beq_eq_false_iff_ne.2 h_b
  clear h_b
  obtain ⟨ao, ca, rfl⟩ := form hA
  obtain ⟨co, cc, rfl⟩ := form hC
  clear hA hC
  have t0 : (0 : Nat) = 0 := rfl
  go_enter Tryd.func14, Tryd.ntmps14
  go_wp2_with (first
    | (have q1 := t1; refine box_lawC _ rv0 rfl ?_; intro w2 X9 B9 l9; have HB0 : Hid (Vr w2 w.heap.size (rv 0 0 (.slice ao al.length ca) b (.slice co cl.length cc) S)) := HB0.out.below B9 (range_lt HB0.out.1 (Nat.succ_pos _)); have HB1 : Hid (Vr w2 w1.heap.size rv0) := X9; have BB : Hid (Below w.heap.size w w2) := BB.out.trans (B9.mono BB.out.size); have hb0_0 := HB0.out.cell 0 _ rfl; have hb0_1 := HB0.out.cell 1 _ rfl; have hb0_2 := HB0.out.cell 2 _ rfl; have hb0_3 := HB0.out.cell 3 _ rfl; have hb0_4 := HB0.out.cell 4 _ rfl; have hb1_0 := HB1.out.cell 0 _ rfl; have hb1_1 := HB1.out.cell 1 _ rfl; have hb1_2 := HB1.out.cell 2 _ rfl; have hb1_3 := HB1.out.cell 3 _ rfl; have hb1_4 := HB1.out.cell 4 _ rfl; clear X9 B9 l9; clear t1; have t2 : (1 : Nat) = 1 := rfl)
    | (have q0 := t0; refine box_lawC _ (rv 0 0 (.slice ao al.length ca) b (.slice co cl.length cc) S) rfl ?_; intro w1 X9 B9 l9; have HB0 : Hid (Vr w1 w.heap.size (rv 0 0 (.slice ao al.length ca) b (.slice co cl.length cc) S)) := X9; have BB : Hid (Below w.heap.size w w1) := B9; clear X9 B9 l9; clear t0; have t1 : (1 : Nat) = 1 := rfl))
  (try clear hb0_0 hb0_1 hb0_2 hb0_3 hb0_4 hb1_0 hb1_1 hb1_2 hb1_3 hb1_4)
  go_loopw [6, 5] (fun i z wr => ∃ k : Nat, k ≤ 4 ∧ i = .int .i64 (k : Int) ∧ z = .bool false ∧ Below w.heap.size w wr) (fun i _ _ => 4 - (intOf i).toNat)
  case atStart => exact ⟨0, Nat.zero_le _, rfl, rfl, BB.out⟩
  case round =>
    clear HB0 HB1 BB
    obtain ⟨k, hk4, rfl, rfl, hBl⟩ := hrel
    have BB : Hid (Below w.heap.size w wr) := hBl
    clear hBl
    by_cases hk : k < 4
    · have ki : (k : Int) < 4 := by omega
      go_wp2
      refine wp_region_held_drew (S := fun w' => Below wr.heap.size wr w') (by kernel_rfl) (Below.refl _ _).drew (fun hS => ?_)
      obtain ⟨x1, hx0⟩ : ∃ x, x = wr.drew := ⟨_, rfl⟩
      rw [← hx0] at hS  ⊢
      clear hx0
      refine take_lawH 0 (some 44) (.bool false) rfl rfl (by kernel_rfl) (by kernel_rfl) (by kernel_rfl) (fun _ _ _ h => h) (Or.inl ⟨by rfl, fun w' hw' => by rfl⟩) hS ?_
      simp only [Act.put, List.setIfInBounds_toArray, List.set_cons_zero, List.set_cons_succ]
      refine take_lawH 1 (some 45) (.bool false) rfl rfl (by kernel_rfl) (by kernel_rfl) (by kernel_rfl) (fun _ _ _ h => h) (Or.inl ⟨by rfl, fun w' hw' => by rfl⟩) hS ?_
      simp only [Act.put, List.setIfInBounds_toArray, List.set_cons_zero, List.set_cons_succ]
      refine take_lawH 2 (some 46) (undef) rfl rfl (by kernel_rfl) (by kernel_rfl) (by kernel_rfl) (fun _ _ _ h => h) (Or.inr ⟨by rfl, rfl⟩) hS ?_
      simp only [Act.put, List.setIfInBounds_toArray, List.set_cons_zero, List.set_cons_succ]
      refine take_lawH 3 (some 47) (undef) rfl rfl (by kernel_rfl) (by kernel_rfl) (by kernel_rfl) (fun _ _ _ h => h) (Or.inr ⟨by rfl, rfl⟩) hS ?_
      simp only [Act.put, List.setIfInBounds_toArray, List.set_cons_zero, List.set_cons_succ]
      refine take_lawH 4 (some 48) (undef) rfl rfl (by kernel_rfl) (by kernel_rfl) (by kernel_rfl) (fun _ _ _ h => h) (Or.inr ⟨by rfl, rfl⟩) hS ?_
      simp only [Act.put, List.setIfInBounds_toArray, List.set_cons_zero, List.set_cons_succ]
      refine take_lawH 5 (some 49) (undef) rfl rfl (by kernel_rfl) (by kernel_rfl) (by kernel_rfl) (fun _ _ _ h => h) (Or.inr ⟨by rfl, rfl⟩) hS ?_
      simp only [Act.put, List.setIfInBounds_toArray, List.set_cons_zero, List.set_cons_succ]
      refine take_lawH 6 (some 50) (undef) rfl rfl (by kernel_rfl) (by kernel_rfl) (by kernel_rfl) (fun _ _ _ h => h) (Or.inr ⟨by rfl, rfl⟩) hS ?_
      simp only [Act.put, List.setIfInBounds_toArray, List.set_cons_zero, List.set_cons_succ]
      refine take_lawH 7 (some 51) (undef) rfl rfl (by kernel_rfl) (by kernel_rfl) (by kernel_rfl) (fun _ _ _ h => h) (Or.inr ⟨by rfl, rfl⟩) hS ?_
      simp only [Act.put, List.setIfInBounds_toArray, List.set_cons_zero, List.set_cons_succ]
      refine take_lawH 8 (some 52) (undef) rfl rfl (by kernel_rfl) (by kernel_rfl) (by kernel_rfl) (fun _ _ _ h => h) (Or.inr ⟨by rfl, rfl⟩) hS ?_
      simp only [Act.put, List.setIfInBounds_toArray, List.set_cons_zero, List.set_cons_succ]
      refine take_lawH 9 (some 53) (undef) rfl rfl (by kernel_rfl) (by kernel_rfl) (by kernel_rfl) (fun _ _ _ h => h) (Or.inr ⟨by rfl, rfl⟩) hS ?_
      simp only [Act.put, List.setIfInBounds_toArray, List.set_cons_zero, List.set_cons_succ]
      refine take_lawH 10 (some 54) (undef) rfl rfl (by kernel_rfl) (by kernel_rfl) (by kernel_rfl) (fun _ _ _ h => h) (Or.inr ⟨by rfl, rfl⟩) hS ?_
      simp only [Act.put, List.setIfInBounds_toArray, List.set_cons_zero, List.set_cons_succ]
      refine take_lawH 11 (some 55) (.bool false) rfl rfl (by kernel_rfl) (by kernel_rfl) (by kernel_rfl) (fun _ _ _ h => h) (Or.inl ⟨by rfl, fun w' hw' => by rfl⟩) hS ?_
      simp only [Act.put, List.setIfInBounds_toArray, List.set_cons_zero, List.set_cons_succ]
      refine take_lawH 12 (some 5) (.bool false) rfl rfl (by kernel_rfl) (by kernel_rfl) (by kernel_rfl) (fun _ _ _ h => h) (Or.inl ⟨by rfl, fun w' hw' => by rfl⟩) hS ?_
      simp only [Act.put, List.setIfInBounds_toArray, List.set_cons_zero, List.set_cons_succ]
      refine wpAnyH_done (by kernel_rfl) ?_ _
      have BZ : Hid (Below w.heap.size w x1) := BB.out.trans (hS.mono BB.out.size)
      clear hS
      go_wp2
      go_roundw
      case rel => exact ⟨k + 1, by omega, by go_num, rfl, BZ.out⟩
      case measure => simp [intOf]; omega
    · have e4 : k = 4 := by omega
      subst e4
      go_wp2
      go_ret
      exact ⟨rfl, BB.out⟩

set_option maxHeartbeats 4000000 in
theorem sz_a (g p b : Int) (a c : Value) (al cl : List Int) (S : Nat → Sc) (w : World) (hA : Byt w a al) (hC : Byt w c cl) (h_g : g = 0) (h_p : p = 0) (h_b : b = 0) (hl : al.length = 16) :
    Calls Tryd.prog 14 #[.agg (rv g p a b c S).toArray, .agg rv0.toArray] w fun x w' => x = .returned (.bool false) ∧ Below w.heap.size w w' := by
  subst h_g h_p h_b
  have SA : Hid (∀ w0, Below w.heap.size w w0 → Calls Tryd.prog 18 #[a, .slice none 0 0] w0 fun x w' => x = .returned (.bool false) ∧ Below w0.heap.size w0 w') := fun w0 q => (same_dec w0 a _ al [] (hA.below q) (Byt.nil w0)).mono fun _ _ ⟨h1, h2⟩ => ⟨by rw [h1, decide_eq_false (fun e => by rw [e] at hl; simp at hl)], h2⟩
  clear hl
  obtain ⟨ao, ca, rfl⟩ := form hA
  obtain ⟨co, cc, rfl⟩ := form hC
  clear hA hC
  have t0 : (0 : Nat) = 0 := rfl
  go_enter Tryd.func14, Tryd.ntmps14
  go_wp2_with (first
    | (have q2 := t2; go_at_call 18; refine (SA.out w2 BB.out).mono ?_; rintro e9 w3 ⟨rfl, B9⟩; have HB0 : Hid (Vr w3 w.heap.size (rv 0 0 (.slice ao al.length ca) 0 (.slice co cl.length cc) S)) := HB0.out.below B9 (range_lt HB0.out.1 (Nat.succ_pos _)); have HB1 : Hid (Vr w3 w1.heap.size rv0) := HB1.out.below B9 (range_lt HB1.out.1 (Nat.succ_pos _)); have BB : Hid (Below w.heap.size w w3) := BB.out.trans (B9.mono BB.out.size); clear hb0_0 hb0_1 hb0_2 hb0_3 hb0_4 hb1_0 hb1_1 hb1_2 hb1_3 hb1_4; have hb0_0 := HB0.out.cell 0 _ rfl; have hb0_1 := HB0.out.cell 1 _ rfl; have hb0_2 := HB0.out.cell 2 _ rfl; have hb0_3 := HB0.out.cell 3 _ rfl; have hb0_4 := HB0.out.cell 4 _ rfl; have hb1_0 := HB1.out.cell 0 _ rfl; have hb1_1 := HB1.out.cell 1 _ rfl; have hb1_2 := HB1.out.cell 2 _ rfl; have hb1_3 := HB1.out.cell 3 _ rfl; have hb1_4 := HB1.out.cell 4 _ rfl; clear B9; clear t2; have t3 : (1 : Nat) = 1 := rfl)
    | (have q1 := t1; refine box_lawC _ rv0 rfl ?_; intro w2 X9 B9 l9; have HB0 : Hid (Vr w2 w.heap.size (rv 0 0 (.slice ao al.length ca) 0 (.slice co cl.length cc) S)) := HB0.out.below B9 (range_lt HB0.out.1 (Nat.succ_pos _)); have HB1 : Hid (Vr w2 w1.heap.size rv0) := X9; have BB : Hid (Below w.heap.size w w2) := BB.out.trans (B9.mono BB.out.size); have hb0_0 := HB0.out.cell 0 _ rfl; have hb0_1 := HB0.out.cell 1 _ rfl; have hb0_2 := HB0.out.cell 2 _ rfl; have hb0_3 := HB0.out.cell 3 _ rfl; have hb0_4 := HB0.out.cell 4 _ rfl; have hb1_0 := HB1.out.cell 0 _ rfl; have hb1_1 := HB1.out.cell 1 _ rfl; have hb1_2 := HB1.out.cell 2 _ rfl; have hb1_3 := HB1.out.cell 3 _ rfl; have hb1_4 := HB1.out.cell 4 _ rfl; clear X9 B9 l9; clear t1; have t2 : (1 : Nat) = 1 := rfl)
    | (have q0 := t0; refine box_lawC _ (rv 0 0 (.slice ao al.length ca) 0 (.slice co cl.length cc) S) rfl ?_; intro w1 X9 B9 l9; have HB0 : Hid (Vr w1 w.heap.size (rv 0 0 (.slice ao al.length ca) 0 (.slice co cl.length cc) S)) := X9; have BB : Hid (Below w.heap.size w w1) := B9; clear X9 B9 l9; clear t0; have t1 : (1 : Nat) = 1 := rfl))
  (try clear hb0_0 hb0_1 hb0_2 hb0_3 hb0_4 hb1_0 hb1_1 hb1_2 hb1_3 hb1_4)
  go_loopw [6, 5] (fun i z wr => ∃ k : Nat, k ≤ 4 ∧ i = .int .i64 (k : Int) ∧ z = .bool false ∧ Below w.heap.size w wr) (fun i _ _ => 4 - (intOf i).toNat)
  case atStart => exact ⟨0, Nat.zero_le _, rfl, rfl, BB.out⟩
  case round =>
    clear HB0 HB1 BB
    obtain ⟨k, hk4, rfl, rfl, hBl⟩ := hrel
    have BB : Hid (Below w.heap.size w wr) := hBl
    clear hBl
    by_cases hk : k < 4
    · have ki : (k : Int) < 4 := by omega
      go_wp2
      refine wp_region_held_drew (S := fun w' => Below wr.heap.size wr w') (by kernel_rfl) (Below.refl _ _).drew (fun hS => ?_)
      obtain ⟨x1, hx0⟩ : ∃ x, x = wr.drew := ⟨_, rfl⟩
      rw [← hx0] at hS  ⊢
      clear hx0
      refine take_lawH 0 (some 44) (.bool false) rfl rfl (by kernel_rfl) (by kernel_rfl) (by kernel_rfl) (fun _ _ _ h => h) (Or.inl ⟨by rfl, fun w' hw' => by rfl⟩) hS ?_
      simp only [Act.put, List.setIfInBounds_toArray, List.set_cons_zero, List.set_cons_succ]
      refine take_lawH 1 (some 45) (.bool false) rfl rfl (by kernel_rfl) (by kernel_rfl) (by kernel_rfl) (fun _ _ _ h => h) (Or.inl ⟨by rfl, fun w' hw' => by rfl⟩) hS ?_
      simp only [Act.put, List.setIfInBounds_toArray, List.set_cons_zero, List.set_cons_succ]
      refine take_lawH 2 (some 46) (undef) rfl rfl (by kernel_rfl) (by kernel_rfl) (by kernel_rfl) (fun _ _ _ h => h) (Or.inr ⟨by rfl, rfl⟩) hS ?_
      simp only [Act.put, List.setIfInBounds_toArray, List.set_cons_zero, List.set_cons_succ]
      refine take_lawH 3 (some 47) (undef) rfl rfl (by kernel_rfl) (by kernel_rfl) (by kernel_rfl) (fun _ _ _ h => h) (Or.inr ⟨by rfl, rfl⟩) hS ?_
      simp only [Act.put, List.setIfInBounds_toArray, List.set_cons_zero, List.set_cons_succ]
      refine take_lawH 4 (some 48) (undef) rfl rfl (by kernel_rfl) (by kernel_rfl) (by kernel_rfl) (fun _ _ _ h => h) (Or.inr ⟨by rfl, rfl⟩) hS ?_
      simp only [Act.put, List.setIfInBounds_toArray, List.set_cons_zero, List.set_cons_succ]
      refine take_lawH 5 (some 49) (undef) rfl rfl (by kernel_rfl) (by kernel_rfl) (by kernel_rfl) (fun _ _ _ h => h) (Or.inr ⟨by rfl, rfl⟩) hS ?_
      simp only [Act.put, List.setIfInBounds_toArray, List.set_cons_zero, List.set_cons_succ]
      refine take_lawH 6 (some 50) (undef) rfl rfl (by kernel_rfl) (by kernel_rfl) (by kernel_rfl) (fun _ _ _ h => h) (Or.inr ⟨by rfl, rfl⟩) hS ?_
      simp only [Act.put, List.setIfInBounds_toArray, List.set_cons_zero, List.set_cons_succ]
      refine take_lawH 7 (some 51) (undef) rfl rfl (by kernel_rfl) (by kernel_rfl) (by kernel_rfl) (fun _ _ _ h => h) (Or.inr ⟨by rfl, rfl⟩) hS ?_
      simp only [Act.put, List.setIfInBounds_toArray, List.set_cons_zero, List.set_cons_succ]
      refine take_lawH 8 (some 52) (undef) rfl rfl (by kernel_rfl) (by kernel_rfl) (by kernel_rfl) (fun _ _ _ h => h) (Or.inr ⟨by rfl, rfl⟩) hS ?_
      simp only [Act.put, List.setIfInBounds_toArray, List.set_cons_zero, List.set_cons_succ]
      refine take_lawH 9 (some 53) (undef) rfl rfl (by kernel_rfl) (by kernel_rfl) (by kernel_rfl) (fun _ _ _ h => h) (Or.inr ⟨by rfl, rfl⟩) hS ?_
      simp only [Act.put, List.setIfInBounds_toArray, List.set_cons_zero, List.set_cons_succ]
      refine take_lawH 10 (some 54) (undef) rfl rfl (by kernel_rfl) (by kernel_rfl) (by kernel_rfl) (fun _ _ _ h => h) (Or.inr ⟨by rfl, rfl⟩) hS ?_
      simp only [Act.put, List.setIfInBounds_toArray, List.set_cons_zero, List.set_cons_succ]
      refine take_lawH 11 (some 55) (.bool false) rfl rfl (by kernel_rfl) (by kernel_rfl) (by kernel_rfl) (fun _ _ _ h => h) (Or.inl ⟨by rfl, fun w' hw' => by rfl⟩) hS ?_
      simp only [Act.put, List.setIfInBounds_toArray, List.set_cons_zero, List.set_cons_succ]
      refine take_lawH 12 (some 5) (.bool false) rfl rfl (by kernel_rfl) (by kernel_rfl) (by kernel_rfl) (fun _ _ _ h => h) (Or.inl ⟨by rfl, fun w' hw' => by rfl⟩) hS ?_
      simp only [Act.put, List.setIfInBounds_toArray, List.set_cons_zero, List.set_cons_succ]
      refine wpAnyH_done (by kernel_rfl) ?_ _
      have BZ : Hid (Below w.heap.size w x1) := BB.out.trans (hS.mono BB.out.size)
      clear hS
      go_wp2
      go_roundw
      case rel => exact ⟨k + 1, by omega, by go_num, rfl, BZ.out⟩
      case measure => simp [intOf]; omega
    · have e4 : k = 4 := by omega
      subst e4
      go_wp2
      go_ret
      exact ⟨rfl, BB.out⟩

theorem rsame_zero (g p b : Int) (a c : Value) (al cl : List Int) (S : Nat → Sc) (w : World) (hA : Byt w a al) (hC : Byt w c cl) (hl : al.length = 16) :
    Calls Tryd.prog 14 #[.agg (rv g p a b c S).toArray, .agg rv0.toArray] w fun x w' => x = .returned (.bool false) ∧ Below w.heap.size w w' := by
  by_cases h1 : g = 0
  · by_cases h2 : p = 0
    · by_cases h3 : b = 0
      · exact sz_a g p b a c al cl S w hA hC h1 h2 h3 hl
      · exact sz_b g p b a c al cl S w hA hC h1 h2 h3
    · exact sz_p g p b a c al cl S w hA hC h1 h2
  · exact sz_g g p b a c al cl S w hA hC h1
/-- the record of noughts is the same as itself -/
theorem rsame_rv0 (w : World) : Calls Tryd.prog 14 #[.agg rv0.toArray, .agg rv0.toArray] w fun x w' => x = .returned (.bool true) ∧ Below w.heap.size w w' :=
  re.rsame_yes 0 0 0 _ _ _ _ [] [] z4 z4 w (Byt.nil w) (Byt.nil w) (Byt.nil w) (Byt.nil w) fun _ _ => ⟨rfl, Byt.nil w, Byt.nil w⟩
theorem of_rv0 (w : World) : Calls Tryd.prog 13 #[.agg rv0.toArray] w fun x w' => x = .returned (.agg rv0.toArray) ∧ Below w.heap.size w w' :=
  re.of_any 0 0 0 _ _ [] [] z4 w (Byt.nil w) (Byt.nil w) slc_z4
end Go.Proofs.YtmbfccclghnaeaaDoor.re
