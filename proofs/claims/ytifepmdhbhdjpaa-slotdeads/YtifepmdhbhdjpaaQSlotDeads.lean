/- Whether any head is dead beneath any slot: as the document says; what is ahead of a dead one is dead. No condition. -/
import Derived.Test.YtifepmdhbhdjpaaRows
import Derived.Test.YtifepmdhbhdjpaaPackN
import Derived.Test.YtifepmdhbhdjpaaPackK
namespace Go.Proofs.Ytifepmdhbhdjpaa.slotDeads
open Go.ChangeShapes Go.WideShapes Go.ChangeAt Go.RowKit Go.Proofs.Ytifepmdhbhdjpaa.so Go.Proofs.Ytifepmdhbhdjpaa.he Go.Proofs.Ytifepmdhbhdjpaa.wr
set_option maxRecDepth 20000


set_option maxHeartbeats 8000000 in
theorem walk_at (u : Bool) (n e t : Int) (v : Value) (xs : List Int) (k n' c l e' t' kk nn cc ll ee tt : Int) (w : World) (hv : Byt w v xs) (hd : true = decide (u = false ∨ e' < e ∨ e' = e ∧ t' ≤ t)) (a0 : ee < e') (hq : true = decide (u = false ∨ ee < e ∨ ee = e ∧ tt ≤ t)) :
    Calls Try.prog 5 #[.agg (sv u n e t v).toArray, .agg (he.hv k n' c l e' t').toArray, .agg (he.hv kk nn cc ll ee tt).toArray] w fun x w' => x = .returned (.bool true) ∧ Below w.heap.size w w' := by
  have SD : Hid (∀ w0, Calls Try.prog 16 #[.agg (sv u n e t v).toArray, .agg (he.hv k n' c l e' t').toArray] w0 fun x w' => x = .returned (.bool true) ∧ Below w0.heap.size w0 w') := fun w0 => dead_any u n e t v k n' c l e' t' w0 true hd
  have SR : Hid (∀ w0, Calls Try.prog 17 #[.agg (sv u n e t v).toArray, .agg (he.hv k n' c l e' t').toArray] w0 fun x w' => x = .returned (.bool true) ∧ Below w0.heap.size w0 w') := fun w0 => rdead_any u n e t v k n' c l e' t' w0 true hd
  have SE : Hid (∀ w0, Calls Try.prog 16 #[.agg (sv u n e t v).toArray, .agg (he.hv kk nn cc ll ee tt).toArray] w0 fun x w' => x = .returned (.bool true) ∧ Below w0.heap.size w0 w') := fun w0 => dead_any u n e t v kk nn cc ll ee tt w0 true hq
  have SO : Hid (∀ w0, Below w.heap.size w w0 → Calls Try.prog 8 #[.agg (sv u n e t v).toArray] w0 fun x w' => x = .returned (.agg (sv u n e t v).toArray) ∧ Below w0.heap.size w0 w') := fun w0 q => so.of_any u n e t v xs w0 (hv.below q)
  obtain ⟨ao, cap, rfl⟩ := form hv
  clear hv hd hq
  have a1 : ¬ ee = e' := by omega
  have a2 : (ee == e') = false := beq_eq_false_iff_ne.2 a1
  have t0 : (0 : Nat) = 0 := rfl
  go_enter Try.func5, Try.ntmps5
  go_wp2_with (first
    | (have q2 := t2; refine box_lawC _ (he.hv kk nn cc ll ee tt) rfl ?_; intro w3 X9 B9 l9; have HB0 : Hid (Vr w3 w.heap.size (sv u n e t (.slice ao xs.length cap))) := HB0.out.below B9 (range_lt HB0.out.1 (Nat.succ_pos _)); have HB1 : Hid (Vr w3 w1.heap.size (he.hv k n' c l e' t')) := HB1.out.below B9 (range_lt HB1.out.1 (Nat.succ_pos _)); have HB2 : Hid (Vr w3 w2.heap.size (he.hv kk nn cc ll ee tt)) := X9; have BB : Hid (Below w.heap.size w w3) := BB.out.trans (B9.mono BB.out.size); have hb0_0 := HB0.out.cell 0 _ rfl; have hb0_1 := HB0.out.cell 1 _ rfl; have hb0_2 := HB0.out.cell 2 _ rfl; have hb0_3 := HB0.out.cell 3 _ rfl; have hb0_4 := HB0.out.cell 4 _ rfl; have hb1_0 := HB1.out.cell 0 _ rfl; have hb1_1 := HB1.out.cell 1 _ rfl; have hb1_2 := HB1.out.cell 2 _ rfl; have hb1_3 := HB1.out.cell 3 _ rfl; have hb1_4 := HB1.out.cell 4 _ rfl; have hb1_5 := HB1.out.cell 5 _ rfl; have hb2_0 := HB2.out.cell 0 _ rfl; have hb2_1 := HB2.out.cell 1 _ rfl; have hb2_2 := HB2.out.cell 2 _ rfl; have hb2_3 := HB2.out.cell 3 _ rfl; have hb2_4 := HB2.out.cell 4 _ rfl; have hb2_5 := HB2.out.cell 5 _ rfl; clear X9 B9 l9; clear t2; have t3 : (1 : Nat) = 1 := rfl)
    | (have q1 := t1; refine box_lawC _ (he.hv k n' c l e' t') rfl ?_; intro w2 X9 B9 l9; have HB0 : Hid (Vr w2 w.heap.size (sv u n e t (.slice ao xs.length cap))) := HB0.out.below B9 (range_lt HB0.out.1 (Nat.succ_pos _)); have HB1 : Hid (Vr w2 w1.heap.size (he.hv k n' c l e' t')) := X9; have BB : Hid (Below w.heap.size w w2) := BB.out.trans (B9.mono BB.out.size); clear X9 B9 l9; clear t1; have t2 : (1 : Nat) = 1 := rfl)
    | (have q0 := t0; refine box_lawC _ (sv u n e t (.slice ao xs.length cap)) rfl ?_; intro w1 X9 B9 l9; have HB0 : Hid (Vr w1 w.heap.size (sv u n e t (.slice ao xs.length cap))) := X9; have BB : Hid (Below w.heap.size w w1) := B9; clear X9 B9 l9; clear t0; have t1 : (1 : Nat) = 1 := rfl))
  refine wp_region_held_drew (S := fun w' => Below w3.heap.size w3 w') (by kernel_rfl) (Below.refl _ _).drew (fun hS => ?_)
  obtain ⟨x1, hx0⟩ : ∃ x, x = w3.drew := ⟨_, rfl⟩
  rw [← hx0] at hS  ⊢
  clear hx0
  refine take_lawH 0 (some 8) (.agg (sv u n e t (.slice ao xs.length cap)).toArray) rfl rfl (by kernel_rfl) (by kernel_rfl) (by kernel_rfl) (fun _ _ _ h => h) (Or.inl ⟨by rfl, fun w' hw' => by exact exec_loadN 29 (.tmp 3) rfl _ rfl _ _ (load_cells rowy_slot (HB0.out.below hw' (range_lt HB0.out.1 (Nat.succ_pos _))).1)⟩) hS ?_
  simp only [Act.put, List.setIfInBounds_toArray, List.set_cons_zero, List.set_cons_succ]
  refine take_lawH 1 (some 9) (.agg (he.hv k n' c l e' t').toArray) rfl rfl (by kernel_rfl) (by kernel_rfl) (by kernel_rfl) (fun _ _ _ h => h) (Or.inl ⟨by rfl, fun w' hw' => by exact exec_loadN 27 (.tmp 4) rfl _ rfl _ _ (load_cells rowy_head (HB1.out.below hw' (range_lt HB1.out.1 (Nat.succ_pos _))).1)⟩) hS ?_
  simp only [Act.put, List.setIfInBounds_toArray, List.set_cons_zero, List.set_cons_succ]
  refine take_lawH 3 (some 11) (.agg (sv u n e t (.slice ao xs.length cap)).toArray) rfl rfl (by kernel_rfl) (by kernel_rfl) (by kernel_rfl) (fun _ _ _ h => h) (Or.inl ⟨by rfl, fun w' hw' => by exact exec_loadN 29 (.tmp 3) rfl _ rfl _ _ (load_cells rowy_slot (HB0.out.below hw' (range_lt HB0.out.1 (Nat.succ_pos _))).1)⟩) hS ?_
  simp only [Act.put, List.setIfInBounds_toArray, List.set_cons_zero, List.set_cons_succ]
  refine take_lawH 5 (some 13) (.agg (he.hv k n' c l e' t').toArray) rfl rfl (by kernel_rfl) (by kernel_rfl) (by kernel_rfl) (fun _ _ _ h => h) (Or.inl ⟨by rfl, fun w' hw' => by exact exec_loadN 27 (.tmp 4) rfl _ rfl _ _ (load_cells rowy_head (HB1.out.below hw' (range_lt HB1.out.1 (Nat.succ_pos _))).1)⟩) hS ?_
  simp only [Act.put, List.setIfInBounds_toArray, List.set_cons_zero, List.set_cons_succ]
  refine wpAnyH_ready (rs := [2]) (by kernel_rfl) (by simp) ?_
  refine AllReadyH.cons rfl (fun K hK => ?_) AllReadyH.nil
  refine he.step_callW _ (by rfl) (some 10) rfl 16 #[.tmp 8, .tmp 9] #[29, 27] rfl (fun q w' => by rfl) #[.agg (sv u n e t (.slice ao xs.length cap)).toArray, .agg (he.hv k n' c l e' t').toArray] (by simp only [List.map_toArray, List.map_cons, List.map_nil]; rfl) (fun u w' => u = .bool true ∧ Below x1.heap.size x1 w') ?_ ?_
  · exact (SD.out x1).mono fun e w' ⟨h1, h2⟩ => ⟨_, h1, rfl, h2⟩
  rintro _ x2 ⟨rfl, hb⟩
  have hS : Below w3.heap.size w3 x2 := hS.trans (hb.mono hS.size)
  clear hb
  refine hK.out _ _ hS (fun _ => ?_)
  simp only [Act.put, List.setIfInBounds_toArray, List.set_cons_zero, List.set_cons_succ]
  clear hK K
  refine wpAnyH_ready (rs := [4]) (by kernel_rfl) (by simp) ?_
  refine AllReadyH.cons rfl (fun K hK => ?_) AllReadyH.nil
  refine he.step_callW _ (by rfl) (some 12) rfl 8 #[.tmp 11] #[29] rfl (fun q w' => by rfl) #[.agg (sv u n e t (.slice ao xs.length cap)).toArray] (by simp only [List.map_toArray, List.map_cons, List.map_nil]; rfl) (fun z9 w' => z9 = .agg (sv u n e t (.slice ao xs.length cap)).toArray ∧ Below x2.heap.size x2 w') ?_ ?_
  · exact (SO.out x2 (BB.out.trans (hS.mono BB.out.size))).mono fun e w' ⟨h1, h2⟩ => ⟨_, h1, rfl, h2⟩
  rintro _ x3 ⟨rfl, hb⟩
  have hS : Below w3.heap.size w3 x3 := hS.trans (hb.mono hS.size)
  clear hb
  refine hK.out _ _ hS (fun _ => ?_)
  simp only [Act.put, List.setIfInBounds_toArray, List.set_cons_zero, List.set_cons_succ]
  clear hK K
  refine wpAnyH_ready (rs := [6]) (by kernel_rfl) (by simp) ?_
  refine AllReadyH.cons rfl (fun K hK => ?_) AllReadyH.nil
  refine he.step_callW _ (by rfl) (some 14) rfl 17 #[.tmp 12, .tmp 13] #[34, 27] rfl (fun q w' => by rfl) #[.agg (sv u n e t (.slice ao xs.length cap)).toArray, .agg (he.hv k n' c l e' t').toArray] (by simp only [List.map_toArray, List.map_cons, List.map_nil]; rfl) (fun u w' => u = .bool true ∧ Below x3.heap.size x3 w') ?_ ?_
  · exact (SR.out x3).mono fun e w' ⟨h1, h2⟩ => ⟨_, h1, rfl, h2⟩
  rintro _ x4 ⟨rfl, hb⟩
  have hS : Below w3.heap.size w3 x4 := hS.trans (hb.mono hS.size)
  clear hb
  refine hK.out _ _ hS (fun _ => ?_)
  simp only [Act.put, List.setIfInBounds_toArray, List.set_cons_zero, List.set_cons_succ]
  clear hK K
  refine take_lawH 7 (some 15) (.bool false) rfl rfl (by kernel_rfl) (by kernel_rfl) (by kernel_rfl) (fun _ _ _ h => h) (Or.inl ⟨by rfl, fun w' hw' => by rfl⟩) hS ?_
  simp only [Act.put, List.setIfInBounds_toArray, List.set_cons_zero, List.set_cons_succ]
  refine wpAnyH_done (by kernel_rfl) ?_ _
  clear hb0_0 hb0_1 hb0_2 hb0_3 hb0_4 hb1_0 hb1_1 hb1_2 hb1_3 hb1_4 hb1_5 hb2_0 hb2_1 hb2_2 hb2_3 hb2_4 hb2_5
  have HB0 : Hid (Vr x4 w.heap.size (sv u n e t (.slice ao xs.length cap))) := HB0.out.below hS (range_lt HB0.out.1 (Nat.succ_pos _))
  have HB1 : Hid (Vr x4 w1.heap.size (he.hv k n' c l e' t')) := HB1.out.below hS (range_lt HB1.out.1 (Nat.succ_pos _))
  have HB2 : Hid (Vr x4 w2.heap.size (he.hv kk nn cc ll ee tt)) := HB2.out.below hS (range_lt HB2.out.1 (Nat.succ_pos _))
  have BB : Hid (Below w.heap.size w x4) := BB.out.trans (hS.mono BB.out.size)
  clear hS
  have hb0_0 := HB0.out.cell 0 _ rfl
  have hb0_1 := HB0.out.cell 1 _ rfl
  have hb0_2 := HB0.out.cell 2 _ rfl
  have hb0_3 := HB0.out.cell 3 _ rfl
  have hb0_4 := HB0.out.cell 4 _ rfl
  have hb1_0 := HB1.out.cell 0 _ rfl
  have hb1_1 := HB1.out.cell 1 _ rfl
  have hb1_2 := HB1.out.cell 2 _ rfl
  have hb1_3 := HB1.out.cell 3 _ rfl
  have hb1_4 := HB1.out.cell 4 _ rfl
  have hb1_5 := HB1.out.cell 5 _ rfl
  have hb2_0 := HB2.out.cell 0 _ rfl
  have hb2_1 := HB2.out.cell 1 _ rfl
  have hb2_2 := HB2.out.cell 2 _ rfl
  have hb2_3 := HB2.out.cell 3 _ rfl
  have hb2_4 := HB2.out.cell 4 _ rfl
  have hb2_5 := HB2.out.cell 5 _ rfl
  have t50 : (1 : Nat) = 1 := rfl
  go_wp2_with (first
    | (have q52 := t52; go_at_call 9; refine (awake_any w92).mono ?_; rintro e9 w93 ⟨rfl, B9⟩; have HB0 : Hid (Vr w93 w.heap.size (sv u n e t (.slice ao xs.length cap))) := HB0.out.below B9 (range_lt HB0.out.1 (Nat.succ_pos _)); have HB1 : Hid (Vr w93 w1.heap.size (he.hv k n' c l e' t')) := HB1.out.below B9 (range_lt HB1.out.1 (Nat.succ_pos _)); have HB2 : Hid (Vr w93 w2.heap.size (he.hv kk nn cc ll ee tt)) := HB2.out.below B9 (range_lt HB2.out.1 (Nat.succ_pos _)); have BB : Hid (Below w.heap.size w w93) := BB.out.trans (B9.mono BB.out.size); clear hb0_0 hb0_1 hb0_2 hb0_3 hb0_4 hb1_0 hb1_1 hb1_2 hb1_3 hb1_4 hb1_5 hb2_0 hb2_1 hb2_2 hb2_3 hb2_4 hb2_5; have hb0_0 := HB0.out.cell 0 _ rfl; have hb0_1 := HB0.out.cell 1 _ rfl; have hb0_2 := HB0.out.cell 2 _ rfl; have hb0_3 := HB0.out.cell 3 _ rfl; have hb0_4 := HB0.out.cell 4 _ rfl; have hb1_0 := HB1.out.cell 0 _ rfl; have hb1_1 := HB1.out.cell 1 _ rfl; have hb1_2 := HB1.out.cell 2 _ rfl; have hb1_3 := HB1.out.cell 3 _ rfl; have hb1_4 := HB1.out.cell 4 _ rfl; have hb1_5 := HB1.out.cell 5 _ rfl; have hb2_0 := HB2.out.cell 0 _ rfl; have hb2_1 := HB2.out.cell 1 _ rfl; have hb2_2 := HB2.out.cell 2 _ rfl; have hb2_3 := HB2.out.cell 3 _ rfl; have hb2_4 := HB2.out.cell 4 _ rfl; have hb2_5 := HB2.out.cell 5 _ rfl; clear B9; clear t52; have t53 : (1 : Nat) = 1 := rfl)
    | (have q51 := t51; go_at_call 16; refine (SE.out w91).mono ?_; rintro e9 w92 ⟨rfl, B9⟩; have HB0 : Hid (Vr w92 w.heap.size (sv u n e t (.slice ao xs.length cap))) := HB0.out.below B9 (range_lt HB0.out.1 (Nat.succ_pos _)); have HB1 : Hid (Vr w92 w1.heap.size (he.hv k n' c l e' t')) := HB1.out.below B9 (range_lt HB1.out.1 (Nat.succ_pos _)); have HB2 : Hid (Vr w92 w2.heap.size (he.hv kk nn cc ll ee tt)) := HB2.out.below B9 (range_lt HB2.out.1 (Nat.succ_pos _)); have BB : Hid (Below w.heap.size w w92) := BB.out.trans (B9.mono BB.out.size); clear hb0_0 hb0_1 hb0_2 hb0_3 hb0_4 hb1_0 hb1_1 hb1_2 hb1_3 hb1_4 hb1_5 hb2_0 hb2_1 hb2_2 hb2_3 hb2_4 hb2_5; have hb0_0 := HB0.out.cell 0 _ rfl; have hb0_1 := HB0.out.cell 1 _ rfl; have hb0_2 := HB0.out.cell 2 _ rfl; have hb0_3 := HB0.out.cell 3 _ rfl; have hb0_4 := HB0.out.cell 4 _ rfl; have hb1_0 := HB1.out.cell 0 _ rfl; have hb1_1 := HB1.out.cell 1 _ rfl; have hb1_2 := HB1.out.cell 2 _ rfl; have hb1_3 := HB1.out.cell 3 _ rfl; have hb1_4 := HB1.out.cell 4 _ rfl; have hb1_5 := HB1.out.cell 5 _ rfl; have hb2_0 := HB2.out.cell 0 _ rfl; have hb2_1 := HB2.out.cell 1 _ rfl; have hb2_2 := HB2.out.cell 2 _ rfl; have hb2_3 := HB2.out.cell 3 _ rfl; have hb2_4 := HB2.out.cell 4 _ rfl; have hb2_5 := HB2.out.cell 5 _ rfl; clear B9; clear t51; have t52 : (1 : Nat) = 1 := rfl)
    | (have q50 := t50; go_at_call 16; refine (SD.out x4).mono ?_; rintro e9 w91 ⟨rfl, B9⟩; have HB0 : Hid (Vr w91 w.heap.size (sv u n e t (.slice ao xs.length cap))) := HB0.out.below B9 (range_lt HB0.out.1 (Nat.succ_pos _)); have HB1 : Hid (Vr w91 w1.heap.size (he.hv k n' c l e' t')) := HB1.out.below B9 (range_lt HB1.out.1 (Nat.succ_pos _)); have HB2 : Hid (Vr w91 w2.heap.size (he.hv kk nn cc ll ee tt)) := HB2.out.below B9 (range_lt HB2.out.1 (Nat.succ_pos _)); have BB : Hid (Below w.heap.size w w91) := BB.out.trans (B9.mono BB.out.size); clear hb0_0 hb0_1 hb0_2 hb0_3 hb0_4 hb1_0 hb1_1 hb1_2 hb1_3 hb1_4 hb1_5 hb2_0 hb2_1 hb2_2 hb2_3 hb2_4 hb2_5; have hb0_0 := HB0.out.cell 0 _ rfl; have hb0_1 := HB0.out.cell 1 _ rfl; have hb0_2 := HB0.out.cell 2 _ rfl; have hb0_3 := HB0.out.cell 3 _ rfl; have hb0_4 := HB0.out.cell 4 _ rfl; have hb1_0 := HB1.out.cell 0 _ rfl; have hb1_1 := HB1.out.cell 1 _ rfl; have hb1_2 := HB1.out.cell 2 _ rfl; have hb1_3 := HB1.out.cell 3 _ rfl; have hb1_4 := HB1.out.cell 4 _ rfl; have hb1_5 := HB1.out.cell 5 _ rfl; have hb2_0 := HB2.out.cell 0 _ rfl; have hb2_1 := HB2.out.cell 1 _ rfl; have hb2_2 := HB2.out.cell 2 _ rfl; have hb2_3 := HB2.out.cell 3 _ rfl; have hb2_4 := HB2.out.cell 4 _ rfl; have hb2_5 := HB2.out.cell 5 _ rfl; clear B9; clear t50; have t51 : (1 : Nat) = 1 := rfl))
  go_ret
  exact ⟨rfl, BB.out⟩

set_option maxHeartbeats 8000000 in
theorem walk_af (u : Bool) (n e t : Int) (v : Value) (xs : List Int) (k n' c l e' t' kk nn cc ll ee tt : Int) (w : World) (hv : Byt w v xs) (hd : false = decide (u = false ∨ e' < e ∨ e' = e ∧ t' ≤ t)) (a0 : ee < e') :
    Calls Try.prog 5 #[.agg (sv u n e t v).toArray, .agg (he.hv k n' c l e' t').toArray, .agg (he.hv kk nn cc ll ee tt).toArray] w fun x w' => x = .returned (.bool true) ∧ Below w.heap.size w w' := by
  have SD : Hid (∀ w0, Calls Try.prog 16 #[.agg (sv u n e t v).toArray, .agg (he.hv k n' c l e' t').toArray] w0 fun x w' => x = .returned (.bool false) ∧ Below w0.heap.size w0 w') := fun w0 => dead_any u n e t v k n' c l e' t' w0 false hd
  have SR : Hid (∀ w0, Calls Try.prog 17 #[.agg (sv u n e t v).toArray, .agg (he.hv k n' c l e' t').toArray] w0 fun x w' => x = .returned (.bool false) ∧ Below w0.heap.size w0 w') := fun w0 => rdead_any u n e t v k n' c l e' t' w0 false hd
  have SO : Hid (∀ w0, Below w.heap.size w w0 → Calls Try.prog 8 #[.agg (sv u n e t v).toArray] w0 fun x w' => x = .returned (.agg (sv u n e t v).toArray) ∧ Below w0.heap.size w0 w') := fun w0 q => so.of_any u n e t v xs w0 (hv.below q)
  obtain ⟨ao, cap, rfl⟩ := form hv
  clear hv hd
  have a1 : ¬ ee = e' := by omega
  have a2 : (ee == e') = false := beq_eq_false_iff_ne.2 a1
  have t0 : (0 : Nat) = 0 := rfl
  go_enter Try.func5, Try.ntmps5
  go_wp2_with (first
    | (have q2 := t2; refine box_lawC _ (he.hv kk nn cc ll ee tt) rfl ?_; intro w3 X9 B9 l9; have HB0 : Hid (Vr w3 w.heap.size (sv u n e t (.slice ao xs.length cap))) := HB0.out.below B9 (range_lt HB0.out.1 (Nat.succ_pos _)); have HB1 : Hid (Vr w3 w1.heap.size (he.hv k n' c l e' t')) := HB1.out.below B9 (range_lt HB1.out.1 (Nat.succ_pos _)); have HB2 : Hid (Vr w3 w2.heap.size (he.hv kk nn cc ll ee tt)) := X9; have BB : Hid (Below w.heap.size w w3) := BB.out.trans (B9.mono BB.out.size); have hb0_0 := HB0.out.cell 0 _ rfl; have hb0_1 := HB0.out.cell 1 _ rfl; have hb0_2 := HB0.out.cell 2 _ rfl; have hb0_3 := HB0.out.cell 3 _ rfl; have hb0_4 := HB0.out.cell 4 _ rfl; have hb1_0 := HB1.out.cell 0 _ rfl; have hb1_1 := HB1.out.cell 1 _ rfl; have hb1_2 := HB1.out.cell 2 _ rfl; have hb1_3 := HB1.out.cell 3 _ rfl; have hb1_4 := HB1.out.cell 4 _ rfl; have hb1_5 := HB1.out.cell 5 _ rfl; have hb2_0 := HB2.out.cell 0 _ rfl; have hb2_1 := HB2.out.cell 1 _ rfl; have hb2_2 := HB2.out.cell 2 _ rfl; have hb2_3 := HB2.out.cell 3 _ rfl; have hb2_4 := HB2.out.cell 4 _ rfl; have hb2_5 := HB2.out.cell 5 _ rfl; clear X9 B9 l9; clear t2; have t3 : (1 : Nat) = 1 := rfl)
    | (have q1 := t1; refine box_lawC _ (he.hv k n' c l e' t') rfl ?_; intro w2 X9 B9 l9; have HB0 : Hid (Vr w2 w.heap.size (sv u n e t (.slice ao xs.length cap))) := HB0.out.below B9 (range_lt HB0.out.1 (Nat.succ_pos _)); have HB1 : Hid (Vr w2 w1.heap.size (he.hv k n' c l e' t')) := X9; have BB : Hid (Below w.heap.size w w2) := BB.out.trans (B9.mono BB.out.size); clear X9 B9 l9; clear t1; have t2 : (1 : Nat) = 1 := rfl)
    | (have q0 := t0; refine box_lawC _ (sv u n e t (.slice ao xs.length cap)) rfl ?_; intro w1 X9 B9 l9; have HB0 : Hid (Vr w1 w.heap.size (sv u n e t (.slice ao xs.length cap))) := X9; have BB : Hid (Below w.heap.size w w1) := B9; clear X9 B9 l9; clear t0; have t1 : (1 : Nat) = 1 := rfl))
  refine wp_region_held_drew (S := fun w' => Below w3.heap.size w3 w') (by kernel_rfl) (Below.refl _ _).drew (fun hS => ?_)
  obtain ⟨x1, hx0⟩ : ∃ x, x = w3.drew := ⟨_, rfl⟩
  rw [← hx0] at hS  ⊢
  clear hx0
  refine take_lawH 0 (some 8) (.agg (sv u n e t (.slice ao xs.length cap)).toArray) rfl rfl (by kernel_rfl) (by kernel_rfl) (by kernel_rfl) (fun _ _ _ h => h) (Or.inl ⟨by rfl, fun w' hw' => by exact exec_loadN 29 (.tmp 3) rfl _ rfl _ _ (load_cells rowy_slot (HB0.out.below hw' (range_lt HB0.out.1 (Nat.succ_pos _))).1)⟩) hS ?_
  simp only [Act.put, List.setIfInBounds_toArray, List.set_cons_zero, List.set_cons_succ]
  refine take_lawH 1 (some 9) (.agg (he.hv k n' c l e' t').toArray) rfl rfl (by kernel_rfl) (by kernel_rfl) (by kernel_rfl) (fun _ _ _ h => h) (Or.inl ⟨by rfl, fun w' hw' => by exact exec_loadN 27 (.tmp 4) rfl _ rfl _ _ (load_cells rowy_head (HB1.out.below hw' (range_lt HB1.out.1 (Nat.succ_pos _))).1)⟩) hS ?_
  simp only [Act.put, List.setIfInBounds_toArray, List.set_cons_zero, List.set_cons_succ]
  refine take_lawH 3 (some 11) (.agg (sv u n e t (.slice ao xs.length cap)).toArray) rfl rfl (by kernel_rfl) (by kernel_rfl) (by kernel_rfl) (fun _ _ _ h => h) (Or.inl ⟨by rfl, fun w' hw' => by exact exec_loadN 29 (.tmp 3) rfl _ rfl _ _ (load_cells rowy_slot (HB0.out.below hw' (range_lt HB0.out.1 (Nat.succ_pos _))).1)⟩) hS ?_
  simp only [Act.put, List.setIfInBounds_toArray, List.set_cons_zero, List.set_cons_succ]
  refine take_lawH 5 (some 13) (.agg (he.hv k n' c l e' t').toArray) rfl rfl (by kernel_rfl) (by kernel_rfl) (by kernel_rfl) (fun _ _ _ h => h) (Or.inl ⟨by rfl, fun w' hw' => by exact exec_loadN 27 (.tmp 4) rfl _ rfl _ _ (load_cells rowy_head (HB1.out.below hw' (range_lt HB1.out.1 (Nat.succ_pos _))).1)⟩) hS ?_
  simp only [Act.put, List.setIfInBounds_toArray, List.set_cons_zero, List.set_cons_succ]
  refine wpAnyH_ready (rs := [2]) (by kernel_rfl) (by simp) ?_
  refine AllReadyH.cons rfl (fun K hK => ?_) AllReadyH.nil
  refine he.step_callW _ (by rfl) (some 10) rfl 16 #[.tmp 8, .tmp 9] #[29, 27] rfl (fun q w' => by rfl) #[.agg (sv u n e t (.slice ao xs.length cap)).toArray, .agg (he.hv k n' c l e' t').toArray] (by simp only [List.map_toArray, List.map_cons, List.map_nil]; rfl) (fun u w' => u = .bool false ∧ Below x1.heap.size x1 w') ?_ ?_
  · exact (SD.out x1).mono fun e w' ⟨h1, h2⟩ => ⟨_, h1, rfl, h2⟩
  rintro _ x2 ⟨rfl, hb⟩
  have hS : Below w3.heap.size w3 x2 := hS.trans (hb.mono hS.size)
  clear hb
  refine hK.out _ _ hS (fun _ => ?_)
  simp only [Act.put, List.setIfInBounds_toArray, List.set_cons_zero, List.set_cons_succ]
  clear hK K
  refine wpAnyH_ready (rs := [4]) (by kernel_rfl) (by simp) ?_
  refine AllReadyH.cons rfl (fun K hK => ?_) AllReadyH.nil
  refine he.step_callW _ (by rfl) (some 12) rfl 8 #[.tmp 11] #[29] rfl (fun q w' => by rfl) #[.agg (sv u n e t (.slice ao xs.length cap)).toArray] (by simp only [List.map_toArray, List.map_cons, List.map_nil]; rfl) (fun z9 w' => z9 = .agg (sv u n e t (.slice ao xs.length cap)).toArray ∧ Below x2.heap.size x2 w') ?_ ?_
  · exact (SO.out x2 (BB.out.trans (hS.mono BB.out.size))).mono fun e w' ⟨h1, h2⟩ => ⟨_, h1, rfl, h2⟩
  rintro _ x3 ⟨rfl, hb⟩
  have hS : Below w3.heap.size w3 x3 := hS.trans (hb.mono hS.size)
  clear hb
  refine hK.out _ _ hS (fun _ => ?_)
  simp only [Act.put, List.setIfInBounds_toArray, List.set_cons_zero, List.set_cons_succ]
  clear hK K
  refine wpAnyH_ready (rs := [6]) (by kernel_rfl) (by simp) ?_
  refine AllReadyH.cons rfl (fun K hK => ?_) AllReadyH.nil
  refine he.step_callW _ (by rfl) (some 14) rfl 17 #[.tmp 12, .tmp 13] #[34, 27] rfl (fun q w' => by rfl) #[.agg (sv u n e t (.slice ao xs.length cap)).toArray, .agg (he.hv k n' c l e' t').toArray] (by simp only [List.map_toArray, List.map_cons, List.map_nil]; rfl) (fun u w' => u = .bool false ∧ Below x3.heap.size x3 w') ?_ ?_
  · exact (SR.out x3).mono fun e w' ⟨h1, h2⟩ => ⟨_, h1, rfl, h2⟩
  rintro _ x4 ⟨rfl, hb⟩
  have hS : Below w3.heap.size w3 x4 := hS.trans (hb.mono hS.size)
  clear hb
  refine hK.out _ _ hS (fun _ => ?_)
  simp only [Act.put, List.setIfInBounds_toArray, List.set_cons_zero, List.set_cons_succ]
  clear hK K
  refine take_lawH 7 (some 15) (.bool false) rfl rfl (by kernel_rfl) (by kernel_rfl) (by kernel_rfl) (fun _ _ _ h => h) (Or.inl ⟨by rfl, fun w' hw' => by rfl⟩) hS ?_
  simp only [Act.put, List.setIfInBounds_toArray, List.set_cons_zero, List.set_cons_succ]
  refine wpAnyH_done (by kernel_rfl) ?_ _
  clear hb0_0 hb0_1 hb0_2 hb0_3 hb0_4 hb1_0 hb1_1 hb1_2 hb1_3 hb1_4 hb1_5 hb2_0 hb2_1 hb2_2 hb2_3 hb2_4 hb2_5
  have HB0 : Hid (Vr x4 w.heap.size (sv u n e t (.slice ao xs.length cap))) := HB0.out.below hS (range_lt HB0.out.1 (Nat.succ_pos _))
  have HB1 : Hid (Vr x4 w1.heap.size (he.hv k n' c l e' t')) := HB1.out.below hS (range_lt HB1.out.1 (Nat.succ_pos _))
  have HB2 : Hid (Vr x4 w2.heap.size (he.hv kk nn cc ll ee tt)) := HB2.out.below hS (range_lt HB2.out.1 (Nat.succ_pos _))
  have BB : Hid (Below w.heap.size w x4) := BB.out.trans (hS.mono BB.out.size)
  clear hS
  have hb0_0 := HB0.out.cell 0 _ rfl
  have hb0_1 := HB0.out.cell 1 _ rfl
  have hb0_2 := HB0.out.cell 2 _ rfl
  have hb0_3 := HB0.out.cell 3 _ rfl
  have hb0_4 := HB0.out.cell 4 _ rfl
  have hb1_0 := HB1.out.cell 0 _ rfl
  have hb1_1 := HB1.out.cell 1 _ rfl
  have hb1_2 := HB1.out.cell 2 _ rfl
  have hb1_3 := HB1.out.cell 3 _ rfl
  have hb1_4 := HB1.out.cell 4 _ rfl
  have hb1_5 := HB1.out.cell 5 _ rfl
  have hb2_0 := HB2.out.cell 0 _ rfl
  have hb2_1 := HB2.out.cell 1 _ rfl
  have hb2_2 := HB2.out.cell 2 _ rfl
  have hb2_3 := HB2.out.cell 3 _ rfl
  have hb2_4 := HB2.out.cell 4 _ rfl
  have hb2_5 := HB2.out.cell 5 _ rfl
  have t50 : (1 : Nat) = 1 := rfl
  go_wp2_with (first
    | (have q51 := t51; go_at_call 9; refine (awake_any w91).mono ?_; rintro e9 w92 ⟨rfl, B9⟩; have HB0 : Hid (Vr w92 w.heap.size (sv u n e t (.slice ao xs.length cap))) := HB0.out.below B9 (range_lt HB0.out.1 (Nat.succ_pos _)); have HB1 : Hid (Vr w92 w1.heap.size (he.hv k n' c l e' t')) := HB1.out.below B9 (range_lt HB1.out.1 (Nat.succ_pos _)); have HB2 : Hid (Vr w92 w2.heap.size (he.hv kk nn cc ll ee tt)) := HB2.out.below B9 (range_lt HB2.out.1 (Nat.succ_pos _)); have BB : Hid (Below w.heap.size w w92) := BB.out.trans (B9.mono BB.out.size); clear hb0_0 hb0_1 hb0_2 hb0_3 hb0_4 hb1_0 hb1_1 hb1_2 hb1_3 hb1_4 hb1_5 hb2_0 hb2_1 hb2_2 hb2_3 hb2_4 hb2_5; have hb0_0 := HB0.out.cell 0 _ rfl; have hb0_1 := HB0.out.cell 1 _ rfl; have hb0_2 := HB0.out.cell 2 _ rfl; have hb0_3 := HB0.out.cell 3 _ rfl; have hb0_4 := HB0.out.cell 4 _ rfl; have hb1_0 := HB1.out.cell 0 _ rfl; have hb1_1 := HB1.out.cell 1 _ rfl; have hb1_2 := HB1.out.cell 2 _ rfl; have hb1_3 := HB1.out.cell 3 _ rfl; have hb1_4 := HB1.out.cell 4 _ rfl; have hb1_5 := HB1.out.cell 5 _ rfl; have hb2_0 := HB2.out.cell 0 _ rfl; have hb2_1 := HB2.out.cell 1 _ rfl; have hb2_2 := HB2.out.cell 2 _ rfl; have hb2_3 := HB2.out.cell 3 _ rfl; have hb2_4 := HB2.out.cell 4 _ rfl; have hb2_5 := HB2.out.cell 5 _ rfl; clear B9; clear t51; have t52 : (1 : Nat) = 1 := rfl)
    | (have q50 := t50; go_at_call 16; refine (SD.out x4).mono ?_; rintro e9 w91 ⟨rfl, B9⟩; have HB0 : Hid (Vr w91 w.heap.size (sv u n e t (.slice ao xs.length cap))) := HB0.out.below B9 (range_lt HB0.out.1 (Nat.succ_pos _)); have HB1 : Hid (Vr w91 w1.heap.size (he.hv k n' c l e' t')) := HB1.out.below B9 (range_lt HB1.out.1 (Nat.succ_pos _)); have HB2 : Hid (Vr w91 w2.heap.size (he.hv kk nn cc ll ee tt)) := HB2.out.below B9 (range_lt HB2.out.1 (Nat.succ_pos _)); have BB : Hid (Below w.heap.size w w91) := BB.out.trans (B9.mono BB.out.size); clear hb0_0 hb0_1 hb0_2 hb0_3 hb0_4 hb1_0 hb1_1 hb1_2 hb1_3 hb1_4 hb1_5 hb2_0 hb2_1 hb2_2 hb2_3 hb2_4 hb2_5; have hb0_0 := HB0.out.cell 0 _ rfl; have hb0_1 := HB0.out.cell 1 _ rfl; have hb0_2 := HB0.out.cell 2 _ rfl; have hb0_3 := HB0.out.cell 3 _ rfl; have hb0_4 := HB0.out.cell 4 _ rfl; have hb1_0 := HB1.out.cell 0 _ rfl; have hb1_1 := HB1.out.cell 1 _ rfl; have hb1_2 := HB1.out.cell 2 _ rfl; have hb1_3 := HB1.out.cell 3 _ rfl; have hb1_4 := HB1.out.cell 4 _ rfl; have hb1_5 := HB1.out.cell 5 _ rfl; have hb2_0 := HB2.out.cell 0 _ rfl; have hb2_1 := HB2.out.cell 1 _ rfl; have hb2_2 := HB2.out.cell 2 _ rfl; have hb2_3 := HB2.out.cell 3 _ rfl; have hb2_4 := HB2.out.cell 4 _ rfl; have hb2_5 := HB2.out.cell 5 _ rfl; clear B9; clear t50; have t51 : (1 : Nat) = 1 := rfl))
  go_ret
  exact ⟨rfl, BB.out⟩

set_option maxHeartbeats 8000000 in
theorem walk_bt (u : Bool) (n e t : Int) (v : Value) (xs : List Int) (k n' c l e' t' kk nn cc ll ee tt : Int) (w : World) (hv : Byt w v xs) (hd : true = decide (u = false ∨ e' < e ∨ e' = e ∧ t' ≤ t)) (a0 : ¬ ee < e') (a1 : (ee == e') = true) (a2 : tt ≤ t') (hq : true = decide (u = false ∨ ee < e ∨ ee = e ∧ tt ≤ t)) :
    Calls Try.prog 5 #[.agg (sv u n e t v).toArray, .agg (he.hv k n' c l e' t').toArray, .agg (he.hv kk nn cc ll ee tt).toArray] w fun x w' => x = .returned (.bool true) ∧ Below w.heap.size w w' := by
  have SD : Hid (∀ w0, Calls Try.prog 16 #[.agg (sv u n e t v).toArray, .agg (he.hv k n' c l e' t').toArray] w0 fun x w' => x = .returned (.bool true) ∧ Below w0.heap.size w0 w') := fun w0 => dead_any u n e t v k n' c l e' t' w0 true hd
  have SR : Hid (∀ w0, Calls Try.prog 17 #[.agg (sv u n e t v).toArray, .agg (he.hv k n' c l e' t').toArray] w0 fun x w' => x = .returned (.bool true) ∧ Below w0.heap.size w0 w') := fun w0 => rdead_any u n e t v k n' c l e' t' w0 true hd
  have SE : Hid (∀ w0, Calls Try.prog 16 #[.agg (sv u n e t v).toArray, .agg (he.hv kk nn cc ll ee tt).toArray] w0 fun x w' => x = .returned (.bool true) ∧ Below w0.heap.size w0 w') := fun w0 => dead_any u n e t v kk nn cc ll ee tt w0 true hq
  have SO : Hid (∀ w0, Below w.heap.size w w0 → Calls Try.prog 8 #[.agg (sv u n e t v).toArray] w0 fun x w' => x = .returned (.agg (sv u n e t v).toArray) ∧ Below w0.heap.size w0 w') := fun w0 q => so.of_any u n e t v xs w0 (hv.below q)
  obtain ⟨ao, cap, rfl⟩ := form hv
  clear hv hd hq
  have t0 : (0 : Nat) = 0 := rfl
  go_enter Try.func5, Try.ntmps5
  go_wp2_with (first
    | (have q2 := t2; refine box_lawC _ (he.hv kk nn cc ll ee tt) rfl ?_; intro w3 X9 B9 l9; have HB0 : Hid (Vr w3 w.heap.size (sv u n e t (.slice ao xs.length cap))) := HB0.out.below B9 (range_lt HB0.out.1 (Nat.succ_pos _)); have HB1 : Hid (Vr w3 w1.heap.size (he.hv k n' c l e' t')) := HB1.out.below B9 (range_lt HB1.out.1 (Nat.succ_pos _)); have HB2 : Hid (Vr w3 w2.heap.size (he.hv kk nn cc ll ee tt)) := X9; have BB : Hid (Below w.heap.size w w3) := BB.out.trans (B9.mono BB.out.size); have hb0_0 := HB0.out.cell 0 _ rfl; have hb0_1 := HB0.out.cell 1 _ rfl; have hb0_2 := HB0.out.cell 2 _ rfl; have hb0_3 := HB0.out.cell 3 _ rfl; have hb0_4 := HB0.out.cell 4 _ rfl; have hb1_0 := HB1.out.cell 0 _ rfl; have hb1_1 := HB1.out.cell 1 _ rfl; have hb1_2 := HB1.out.cell 2 _ rfl; have hb1_3 := HB1.out.cell 3 _ rfl; have hb1_4 := HB1.out.cell 4 _ rfl; have hb1_5 := HB1.out.cell 5 _ rfl; have hb2_0 := HB2.out.cell 0 _ rfl; have hb2_1 := HB2.out.cell 1 _ rfl; have hb2_2 := HB2.out.cell 2 _ rfl; have hb2_3 := HB2.out.cell 3 _ rfl; have hb2_4 := HB2.out.cell 4 _ rfl; have hb2_5 := HB2.out.cell 5 _ rfl; clear X9 B9 l9; clear t2; have t3 : (1 : Nat) = 1 := rfl)
    | (have q1 := t1; refine box_lawC _ (he.hv k n' c l e' t') rfl ?_; intro w2 X9 B9 l9; have HB0 : Hid (Vr w2 w.heap.size (sv u n e t (.slice ao xs.length cap))) := HB0.out.below B9 (range_lt HB0.out.1 (Nat.succ_pos _)); have HB1 : Hid (Vr w2 w1.heap.size (he.hv k n' c l e' t')) := X9; have BB : Hid (Below w.heap.size w w2) := BB.out.trans (B9.mono BB.out.size); clear X9 B9 l9; clear t1; have t2 : (1 : Nat) = 1 := rfl)
    | (have q0 := t0; refine box_lawC _ (sv u n e t (.slice ao xs.length cap)) rfl ?_; intro w1 X9 B9 l9; have HB0 : Hid (Vr w1 w.heap.size (sv u n e t (.slice ao xs.length cap))) := X9; have BB : Hid (Below w.heap.size w w1) := B9; clear X9 B9 l9; clear t0; have t1 : (1 : Nat) = 1 := rfl))
  refine wp_region_held_drew (S := fun w' => Below w3.heap.size w3 w') (by kernel_rfl) (Below.refl _ _).drew (fun hS => ?_)
  obtain ⟨x1, hx0⟩ : ∃ x, x = w3.drew := ⟨_, rfl⟩
  rw [← hx0] at hS  ⊢
  clear hx0
  refine take_lawH 0 (some 8) (.agg (sv u n e t (.slice ao xs.length cap)).toArray) rfl rfl (by kernel_rfl) (by kernel_rfl) (by kernel_rfl) (fun _ _ _ h => h) (Or.inl ⟨by rfl, fun w' hw' => by exact exec_loadN 29 (.tmp 3) rfl _ rfl _ _ (load_cells rowy_slot (HB0.out.below hw' (range_lt HB0.out.1 (Nat.succ_pos _))).1)⟩) hS ?_
  simp only [Act.put, List.setIfInBounds_toArray, List.set_cons_zero, List.set_cons_succ]
  refine take_lawH 1 (some 9) (.agg (he.hv k n' c l e' t').toArray) rfl rfl (by kernel_rfl) (by kernel_rfl) (by kernel_rfl) (fun _ _ _ h => h) (Or.inl ⟨by rfl, fun w' hw' => by exact exec_loadN 27 (.tmp 4) rfl _ rfl _ _ (load_cells rowy_head (HB1.out.below hw' (range_lt HB1.out.1 (Nat.succ_pos _))).1)⟩) hS ?_
  simp only [Act.put, List.setIfInBounds_toArray, List.set_cons_zero, List.set_cons_succ]
  refine take_lawH 3 (some 11) (.agg (sv u n e t (.slice ao xs.length cap)).toArray) rfl rfl (by kernel_rfl) (by kernel_rfl) (by kernel_rfl) (fun _ _ _ h => h) (Or.inl ⟨by rfl, fun w' hw' => by exact exec_loadN 29 (.tmp 3) rfl _ rfl _ _ (load_cells rowy_slot (HB0.out.below hw' (range_lt HB0.out.1 (Nat.succ_pos _))).1)⟩) hS ?_
  simp only [Act.put, List.setIfInBounds_toArray, List.set_cons_zero, List.set_cons_succ]
  refine take_lawH 5 (some 13) (.agg (he.hv k n' c l e' t').toArray) rfl rfl (by kernel_rfl) (by kernel_rfl) (by kernel_rfl) (fun _ _ _ h => h) (Or.inl ⟨by rfl, fun w' hw' => by exact exec_loadN 27 (.tmp 4) rfl _ rfl _ _ (load_cells rowy_head (HB1.out.below hw' (range_lt HB1.out.1 (Nat.succ_pos _))).1)⟩) hS ?_
  simp only [Act.put, List.setIfInBounds_toArray, List.set_cons_zero, List.set_cons_succ]
  refine wpAnyH_ready (rs := [2]) (by kernel_rfl) (by simp) ?_
  refine AllReadyH.cons rfl (fun K hK => ?_) AllReadyH.nil
  refine he.step_callW _ (by rfl) (some 10) rfl 16 #[.tmp 8, .tmp 9] #[29, 27] rfl (fun q w' => by rfl) #[.agg (sv u n e t (.slice ao xs.length cap)).toArray, .agg (he.hv k n' c l e' t').toArray] (by simp only [List.map_toArray, List.map_cons, List.map_nil]; rfl) (fun u w' => u = .bool true ∧ Below x1.heap.size x1 w') ?_ ?_
  · exact (SD.out x1).mono fun e w' ⟨h1, h2⟩ => ⟨_, h1, rfl, h2⟩
  rintro _ x2 ⟨rfl, hb⟩
  have hS : Below w3.heap.size w3 x2 := hS.trans (hb.mono hS.size)
  clear hb
  refine hK.out _ _ hS (fun _ => ?_)
  simp only [Act.put, List.setIfInBounds_toArray, List.set_cons_zero, List.set_cons_succ]
  clear hK K
  refine wpAnyH_ready (rs := [4]) (by kernel_rfl) (by simp) ?_
  refine AllReadyH.cons rfl (fun K hK => ?_) AllReadyH.nil
  refine he.step_callW _ (by rfl) (some 12) rfl 8 #[.tmp 11] #[29] rfl (fun q w' => by rfl) #[.agg (sv u n e t (.slice ao xs.length cap)).toArray] (by simp only [List.map_toArray, List.map_cons, List.map_nil]; rfl) (fun z9 w' => z9 = .agg (sv u n e t (.slice ao xs.length cap)).toArray ∧ Below x2.heap.size x2 w') ?_ ?_
  · exact (SO.out x2 (BB.out.trans (hS.mono BB.out.size))).mono fun e w' ⟨h1, h2⟩ => ⟨_, h1, rfl, h2⟩
  rintro _ x3 ⟨rfl, hb⟩
  have hS : Below w3.heap.size w3 x3 := hS.trans (hb.mono hS.size)
  clear hb
  refine hK.out _ _ hS (fun _ => ?_)
  simp only [Act.put, List.setIfInBounds_toArray, List.set_cons_zero, List.set_cons_succ]
  clear hK K
  refine wpAnyH_ready (rs := [6]) (by kernel_rfl) (by simp) ?_
  refine AllReadyH.cons rfl (fun K hK => ?_) AllReadyH.nil
  refine he.step_callW _ (by rfl) (some 14) rfl 17 #[.tmp 12, .tmp 13] #[34, 27] rfl (fun q w' => by rfl) #[.agg (sv u n e t (.slice ao xs.length cap)).toArray, .agg (he.hv k n' c l e' t').toArray] (by simp only [List.map_toArray, List.map_cons, List.map_nil]; rfl) (fun u w' => u = .bool true ∧ Below x3.heap.size x3 w') ?_ ?_
  · exact (SR.out x3).mono fun e w' ⟨h1, h2⟩ => ⟨_, h1, rfl, h2⟩
  rintro _ x4 ⟨rfl, hb⟩
  have hS : Below w3.heap.size w3 x4 := hS.trans (hb.mono hS.size)
  clear hb
  refine hK.out _ _ hS (fun _ => ?_)
  simp only [Act.put, List.setIfInBounds_toArray, List.set_cons_zero, List.set_cons_succ]
  clear hK K
  refine take_lawH 7 (some 15) (.bool false) rfl rfl (by kernel_rfl) (by kernel_rfl) (by kernel_rfl) (fun _ _ _ h => h) (Or.inl ⟨by rfl, fun w' hw' => by rfl⟩) hS ?_
  simp only [Act.put, List.setIfInBounds_toArray, List.set_cons_zero, List.set_cons_succ]
  refine wpAnyH_done (by kernel_rfl) ?_ _
  clear hb0_0 hb0_1 hb0_2 hb0_3 hb0_4 hb1_0 hb1_1 hb1_2 hb1_3 hb1_4 hb1_5 hb2_0 hb2_1 hb2_2 hb2_3 hb2_4 hb2_5
  have HB0 : Hid (Vr x4 w.heap.size (sv u n e t (.slice ao xs.length cap))) := HB0.out.below hS (range_lt HB0.out.1 (Nat.succ_pos _))
  have HB1 : Hid (Vr x4 w1.heap.size (he.hv k n' c l e' t')) := HB1.out.below hS (range_lt HB1.out.1 (Nat.succ_pos _))
  have HB2 : Hid (Vr x4 w2.heap.size (he.hv kk nn cc ll ee tt)) := HB2.out.below hS (range_lt HB2.out.1 (Nat.succ_pos _))
  have BB : Hid (Below w.heap.size w x4) := BB.out.trans (hS.mono BB.out.size)
  clear hS
  have hb0_0 := HB0.out.cell 0 _ rfl
  have hb0_1 := HB0.out.cell 1 _ rfl
  have hb0_2 := HB0.out.cell 2 _ rfl
  have hb0_3 := HB0.out.cell 3 _ rfl
  have hb0_4 := HB0.out.cell 4 _ rfl
  have hb1_0 := HB1.out.cell 0 _ rfl
  have hb1_1 := HB1.out.cell 1 _ rfl
  have hb1_2 := HB1.out.cell 2 _ rfl
  have hb1_3 := HB1.out.cell 3 _ rfl
  have hb1_4 := HB1.out.cell 4 _ rfl
  have hb1_5 := HB1.out.cell 5 _ rfl
  have hb2_0 := HB2.out.cell 0 _ rfl
  have hb2_1 := HB2.out.cell 1 _ rfl
  have hb2_2 := HB2.out.cell 2 _ rfl
  have hb2_3 := HB2.out.cell 3 _ rfl
  have hb2_4 := HB2.out.cell 4 _ rfl
  have hb2_5 := HB2.out.cell 5 _ rfl
  have t50 : (1 : Nat) = 1 := rfl
  go_wp2_with (first
    | (have q52 := t52; go_at_call 9; refine (awake_any w92).mono ?_; rintro e9 w93 ⟨rfl, B9⟩; have HB0 : Hid (Vr w93 w.heap.size (sv u n e t (.slice ao xs.length cap))) := HB0.out.below B9 (range_lt HB0.out.1 (Nat.succ_pos _)); have HB1 : Hid (Vr w93 w1.heap.size (he.hv k n' c l e' t')) := HB1.out.below B9 (range_lt HB1.out.1 (Nat.succ_pos _)); have HB2 : Hid (Vr w93 w2.heap.size (he.hv kk nn cc ll ee tt)) := HB2.out.below B9 (range_lt HB2.out.1 (Nat.succ_pos _)); have BB : Hid (Below w.heap.size w w93) := BB.out.trans (B9.mono BB.out.size); clear hb0_0 hb0_1 hb0_2 hb0_3 hb0_4 hb1_0 hb1_1 hb1_2 hb1_3 hb1_4 hb1_5 hb2_0 hb2_1 hb2_2 hb2_3 hb2_4 hb2_5; have hb0_0 := HB0.out.cell 0 _ rfl; have hb0_1 := HB0.out.cell 1 _ rfl; have hb0_2 := HB0.out.cell 2 _ rfl; have hb0_3 := HB0.out.cell 3 _ rfl; have hb0_4 := HB0.out.cell 4 _ rfl; have hb1_0 := HB1.out.cell 0 _ rfl; have hb1_1 := HB1.out.cell 1 _ rfl; have hb1_2 := HB1.out.cell 2 _ rfl; have hb1_3 := HB1.out.cell 3 _ rfl; have hb1_4 := HB1.out.cell 4 _ rfl; have hb1_5 := HB1.out.cell 5 _ rfl; have hb2_0 := HB2.out.cell 0 _ rfl; have hb2_1 := HB2.out.cell 1 _ rfl; have hb2_2 := HB2.out.cell 2 _ rfl; have hb2_3 := HB2.out.cell 3 _ rfl; have hb2_4 := HB2.out.cell 4 _ rfl; have hb2_5 := HB2.out.cell 5 _ rfl; clear B9; clear t52; have t53 : (1 : Nat) = 1 := rfl)
    | (have q51 := t51; go_at_call 16; refine (SE.out w91).mono ?_; rintro e9 w92 ⟨rfl, B9⟩; have HB0 : Hid (Vr w92 w.heap.size (sv u n e t (.slice ao xs.length cap))) := HB0.out.below B9 (range_lt HB0.out.1 (Nat.succ_pos _)); have HB1 : Hid (Vr w92 w1.heap.size (he.hv k n' c l e' t')) := HB1.out.below B9 (range_lt HB1.out.1 (Nat.succ_pos _)); have HB2 : Hid (Vr w92 w2.heap.size (he.hv kk nn cc ll ee tt)) := HB2.out.below B9 (range_lt HB2.out.1 (Nat.succ_pos _)); have BB : Hid (Below w.heap.size w w92) := BB.out.trans (B9.mono BB.out.size); clear hb0_0 hb0_1 hb0_2 hb0_3 hb0_4 hb1_0 hb1_1 hb1_2 hb1_3 hb1_4 hb1_5 hb2_0 hb2_1 hb2_2 hb2_3 hb2_4 hb2_5; have hb0_0 := HB0.out.cell 0 _ rfl; have hb0_1 := HB0.out.cell 1 _ rfl; have hb0_2 := HB0.out.cell 2 _ rfl; have hb0_3 := HB0.out.cell 3 _ rfl; have hb0_4 := HB0.out.cell 4 _ rfl; have hb1_0 := HB1.out.cell 0 _ rfl; have hb1_1 := HB1.out.cell 1 _ rfl; have hb1_2 := HB1.out.cell 2 _ rfl; have hb1_3 := HB1.out.cell 3 _ rfl; have hb1_4 := HB1.out.cell 4 _ rfl; have hb1_5 := HB1.out.cell 5 _ rfl; have hb2_0 := HB2.out.cell 0 _ rfl; have hb2_1 := HB2.out.cell 1 _ rfl; have hb2_2 := HB2.out.cell 2 _ rfl; have hb2_3 := HB2.out.cell 3 _ rfl; have hb2_4 := HB2.out.cell 4 _ rfl; have hb2_5 := HB2.out.cell 5 _ rfl; clear B9; clear t51; have t52 : (1 : Nat) = 1 := rfl)
    | (have q50 := t50; go_at_call 16; refine (SD.out x4).mono ?_; rintro e9 w91 ⟨rfl, B9⟩; have HB0 : Hid (Vr w91 w.heap.size (sv u n e t (.slice ao xs.length cap))) := HB0.out.below B9 (range_lt HB0.out.1 (Nat.succ_pos _)); have HB1 : Hid (Vr w91 w1.heap.size (he.hv k n' c l e' t')) := HB1.out.below B9 (range_lt HB1.out.1 (Nat.succ_pos _)); have HB2 : Hid (Vr w91 w2.heap.size (he.hv kk nn cc ll ee tt)) := HB2.out.below B9 (range_lt HB2.out.1 (Nat.succ_pos _)); have BB : Hid (Below w.heap.size w w91) := BB.out.trans (B9.mono BB.out.size); clear hb0_0 hb0_1 hb0_2 hb0_3 hb0_4 hb1_0 hb1_1 hb1_2 hb1_3 hb1_4 hb1_5 hb2_0 hb2_1 hb2_2 hb2_3 hb2_4 hb2_5; have hb0_0 := HB0.out.cell 0 _ rfl; have hb0_1 := HB0.out.cell 1 _ rfl; have hb0_2 := HB0.out.cell 2 _ rfl; have hb0_3 := HB0.out.cell 3 _ rfl; have hb0_4 := HB0.out.cell 4 _ rfl; have hb1_0 := HB1.out.cell 0 _ rfl; have hb1_1 := HB1.out.cell 1 _ rfl; have hb1_2 := HB1.out.cell 2 _ rfl; have hb1_3 := HB1.out.cell 3 _ rfl; have hb1_4 := HB1.out.cell 4 _ rfl; have hb1_5 := HB1.out.cell 5 _ rfl; have hb2_0 := HB2.out.cell 0 _ rfl; have hb2_1 := HB2.out.cell 1 _ rfl; have hb2_2 := HB2.out.cell 2 _ rfl; have hb2_3 := HB2.out.cell 3 _ rfl; have hb2_4 := HB2.out.cell 4 _ rfl; have hb2_5 := HB2.out.cell 5 _ rfl; clear B9; clear t50; have t51 : (1 : Nat) = 1 := rfl))
  go_ret
  exact ⟨rfl, BB.out⟩

set_option maxHeartbeats 8000000 in
theorem walk_bf (u : Bool) (n e t : Int) (v : Value) (xs : List Int) (k n' c l e' t' kk nn cc ll ee tt : Int) (w : World) (hv : Byt w v xs) (hd : false = decide (u = false ∨ e' < e ∨ e' = e ∧ t' ≤ t)) (a0 : ¬ ee < e') (a1 : (ee == e') = true) (a2 : tt ≤ t') :
    Calls Try.prog 5 #[.agg (sv u n e t v).toArray, .agg (he.hv k n' c l e' t').toArray, .agg (he.hv kk nn cc ll ee tt).toArray] w fun x w' => x = .returned (.bool true) ∧ Below w.heap.size w w' := by
  have SD : Hid (∀ w0, Calls Try.prog 16 #[.agg (sv u n e t v).toArray, .agg (he.hv k n' c l e' t').toArray] w0 fun x w' => x = .returned (.bool false) ∧ Below w0.heap.size w0 w') := fun w0 => dead_any u n e t v k n' c l e' t' w0 false hd
  have SR : Hid (∀ w0, Calls Try.prog 17 #[.agg (sv u n e t v).toArray, .agg (he.hv k n' c l e' t').toArray] w0 fun x w' => x = .returned (.bool false) ∧ Below w0.heap.size w0 w') := fun w0 => rdead_any u n e t v k n' c l e' t' w0 false hd
  have SO : Hid (∀ w0, Below w.heap.size w w0 → Calls Try.prog 8 #[.agg (sv u n e t v).toArray] w0 fun x w' => x = .returned (.agg (sv u n e t v).toArray) ∧ Below w0.heap.size w0 w') := fun w0 q => so.of_any u n e t v xs w0 (hv.below q)
  obtain ⟨ao, cap, rfl⟩ := form hv
  clear hv hd
  have t0 : (0 : Nat) = 0 := rfl
  go_enter Try.func5, Try.ntmps5
  go_wp2_with (first
    | (have q2 := t2; refine box_lawC _ (he.hv kk nn cc ll ee tt) rfl ?_; intro w3 X9 B9 l9; have HB0 : Hid (Vr w3 w.heap.size (sv u n e t (.slice ao xs.length cap))) := HB0.out.below B9 (range_lt HB0.out.1 (Nat.succ_pos _)); have HB1 : Hid (Vr w3 w1.heap.size (he.hv k n' c l e' t')) := HB1.out.below B9 (range_lt HB1.out.1 (Nat.succ_pos _)); have HB2 : Hid (Vr w3 w2.heap.size (he.hv kk nn cc ll ee tt)) := X9; have BB : Hid (Below w.heap.size w w3) := BB.out.trans (B9.mono BB.out.size); have hb0_0 := HB0.out.cell 0 _ rfl; have hb0_1 := HB0.out.cell 1 _ rfl; have hb0_2 := HB0.out.cell 2 _ rfl; have hb0_3 := HB0.out.cell 3 _ rfl; have hb0_4 := HB0.out.cell 4 _ rfl; have hb1_0 := HB1.out.cell 0 _ rfl; have hb1_1 := HB1.out.cell 1 _ rfl; have hb1_2 := HB1.out.cell 2 _ rfl; have hb1_3 := HB1.out.cell 3 _ rfl; have hb1_4 := HB1.out.cell 4 _ rfl; have hb1_5 := HB1.out.cell 5 _ rfl; have hb2_0 := HB2.out.cell 0 _ rfl; have hb2_1 := HB2.out.cell 1 _ rfl; have hb2_2 := HB2.out.cell 2 _ rfl; have hb2_3 := HB2.out.cell 3 _ rfl; have hb2_4 := HB2.out.cell 4 _ rfl; have hb2_5 := HB2.out.cell 5 _ rfl; clear X9 B9 l9; clear t2; have t3 : (1 : Nat) = 1 := rfl)
    | (have q1 := t1; refine box_lawC _ (he.hv k n' c l e' t') rfl ?_; intro w2 X9 B9 l9; have HB0 : Hid (Vr w2 w.heap.size (sv u n e t (.slice ao xs.length cap))) := HB0.out.below B9 (range_lt HB0.out.1 (Nat.succ_pos _)); have HB1 : Hid (Vr w2 w1.heap.size (he.hv k n' c l e' t')) := X9; have BB : Hid (Below w.heap.size w w2) := BB.out.trans (B9.mono BB.out.size); clear X9 B9 l9; clear t1; have t2 : (1 : Nat) = 1 := rfl)
    | (have q0 := t0; refine box_lawC _ (sv u n e t (.slice ao xs.length cap)) rfl ?_; intro w1 X9 B9 l9; have HB0 : Hid (Vr w1 w.heap.size (sv u n e t (.slice ao xs.length cap))) := X9; have BB : Hid (Below w.heap.size w w1) := B9; clear X9 B9 l9; clear t0; have t1 : (1 : Nat) = 1 := rfl))
  refine wp_region_held_drew (S := fun w' => Below w3.heap.size w3 w') (by kernel_rfl) (Below.refl _ _).drew (fun hS => ?_)
  obtain ⟨x1, hx0⟩ : ∃ x, x = w3.drew := ⟨_, rfl⟩
  rw [← hx0] at hS  ⊢
  clear hx0
  refine take_lawH 0 (some 8) (.agg (sv u n e t (.slice ao xs.length cap)).toArray) rfl rfl (by kernel_rfl) (by kernel_rfl) (by kernel_rfl) (fun _ _ _ h => h) (Or.inl ⟨by rfl, fun w' hw' => by exact exec_loadN 29 (.tmp 3) rfl _ rfl _ _ (load_cells rowy_slot (HB0.out.below hw' (range_lt HB0.out.1 (Nat.succ_pos _))).1)⟩) hS ?_
  simp only [Act.put, List.setIfInBounds_toArray, List.set_cons_zero, List.set_cons_succ]
  refine take_lawH 1 (some 9) (.agg (he.hv k n' c l e' t').toArray) rfl rfl (by kernel_rfl) (by kernel_rfl) (by kernel_rfl) (fun _ _ _ h => h) (Or.inl ⟨by rfl, fun w' hw' => by exact exec_loadN 27 (.tmp 4) rfl _ rfl _ _ (load_cells rowy_head (HB1.out.below hw' (range_lt HB1.out.1 (Nat.succ_pos _))).1)⟩) hS ?_
  simp only [Act.put, List.setIfInBounds_toArray, List.set_cons_zero, List.set_cons_succ]
  refine take_lawH 3 (some 11) (.agg (sv u n e t (.slice ao xs.length cap)).toArray) rfl rfl (by kernel_rfl) (by kernel_rfl) (by kernel_rfl) (fun _ _ _ h => h) (Or.inl ⟨by rfl, fun w' hw' => by exact exec_loadN 29 (.tmp 3) rfl _ rfl _ _ (load_cells rowy_slot (HB0.out.below hw' (range_lt HB0.out.1 (Nat.succ_pos _))).1)⟩) hS ?_
  simp only [Act.put, List.setIfInBounds_toArray, List.set_cons_zero, List.set_cons_succ]
  refine take_lawH 5 (some 13) (.agg (he.hv k n' c l e' t').toArray) rfl rfl (by kernel_rfl) (by kernel_rfl) (by kernel_rfl) (fun _ _ _ h => h) (Or.inl ⟨by rfl, fun w' hw' => by exact exec_loadN 27 (.tmp 4) rfl _ rfl _ _ (load_cells rowy_head (HB1.out.below hw' (range_lt HB1.out.1 (Nat.succ_pos _))).1)⟩) hS ?_
  simp only [Act.put, List.setIfInBounds_toArray, List.set_cons_zero, List.set_cons_succ]
  refine wpAnyH_ready (rs := [2]) (by kernel_rfl) (by simp) ?_
  refine AllReadyH.cons rfl (fun K hK => ?_) AllReadyH.nil
  refine he.step_callW _ (by rfl) (some 10) rfl 16 #[.tmp 8, .tmp 9] #[29, 27] rfl (fun q w' => by rfl) #[.agg (sv u n e t (.slice ao xs.length cap)).toArray, .agg (he.hv k n' c l e' t').toArray] (by simp only [List.map_toArray, List.map_cons, List.map_nil]; rfl) (fun u w' => u = .bool false ∧ Below x1.heap.size x1 w') ?_ ?_
  · exact (SD.out x1).mono fun e w' ⟨h1, h2⟩ => ⟨_, h1, rfl, h2⟩
  rintro _ x2 ⟨rfl, hb⟩
  have hS : Below w3.heap.size w3 x2 := hS.trans (hb.mono hS.size)
  clear hb
  refine hK.out _ _ hS (fun _ => ?_)
  simp only [Act.put, List.setIfInBounds_toArray, List.set_cons_zero, List.set_cons_succ]
  clear hK K
  refine wpAnyH_ready (rs := [4]) (by kernel_rfl) (by simp) ?_
  refine AllReadyH.cons rfl (fun K hK => ?_) AllReadyH.nil
  refine he.step_callW _ (by rfl) (some 12) rfl 8 #[.tmp 11] #[29] rfl (fun q w' => by rfl) #[.agg (sv u n e t (.slice ao xs.length cap)).toArray] (by simp only [List.map_toArray, List.map_cons, List.map_nil]; rfl) (fun z9 w' => z9 = .agg (sv u n e t (.slice ao xs.length cap)).toArray ∧ Below x2.heap.size x2 w') ?_ ?_
  · exact (SO.out x2 (BB.out.trans (hS.mono BB.out.size))).mono fun e w' ⟨h1, h2⟩ => ⟨_, h1, rfl, h2⟩
  rintro _ x3 ⟨rfl, hb⟩
  have hS : Below w3.heap.size w3 x3 := hS.trans (hb.mono hS.size)
  clear hb
  refine hK.out _ _ hS (fun _ => ?_)
  simp only [Act.put, List.setIfInBounds_toArray, List.set_cons_zero, List.set_cons_succ]
  clear hK K
  refine wpAnyH_ready (rs := [6]) (by kernel_rfl) (by simp) ?_
  refine AllReadyH.cons rfl (fun K hK => ?_) AllReadyH.nil
  refine he.step_callW _ (by rfl) (some 14) rfl 17 #[.tmp 12, .tmp 13] #[34, 27] rfl (fun q w' => by rfl) #[.agg (sv u n e t (.slice ao xs.length cap)).toArray, .agg (he.hv k n' c l e' t').toArray] (by simp only [List.map_toArray, List.map_cons, List.map_nil]; rfl) (fun u w' => u = .bool false ∧ Below x3.heap.size x3 w') ?_ ?_
  · exact (SR.out x3).mono fun e w' ⟨h1, h2⟩ => ⟨_, h1, rfl, h2⟩
  rintro _ x4 ⟨rfl, hb⟩
  have hS : Below w3.heap.size w3 x4 := hS.trans (hb.mono hS.size)
  clear hb
  refine hK.out _ _ hS (fun _ => ?_)
  simp only [Act.put, List.setIfInBounds_toArray, List.set_cons_zero, List.set_cons_succ]
  clear hK K
  refine take_lawH 7 (some 15) (.bool false) rfl rfl (by kernel_rfl) (by kernel_rfl) (by kernel_rfl) (fun _ _ _ h => h) (Or.inl ⟨by rfl, fun w' hw' => by rfl⟩) hS ?_
  simp only [Act.put, List.setIfInBounds_toArray, List.set_cons_zero, List.set_cons_succ]
  refine wpAnyH_done (by kernel_rfl) ?_ _
  clear hb0_0 hb0_1 hb0_2 hb0_3 hb0_4 hb1_0 hb1_1 hb1_2 hb1_3 hb1_4 hb1_5 hb2_0 hb2_1 hb2_2 hb2_3 hb2_4 hb2_5
  have HB0 : Hid (Vr x4 w.heap.size (sv u n e t (.slice ao xs.length cap))) := HB0.out.below hS (range_lt HB0.out.1 (Nat.succ_pos _))
  have HB1 : Hid (Vr x4 w1.heap.size (he.hv k n' c l e' t')) := HB1.out.below hS (range_lt HB1.out.1 (Nat.succ_pos _))
  have HB2 : Hid (Vr x4 w2.heap.size (he.hv kk nn cc ll ee tt)) := HB2.out.below hS (range_lt HB2.out.1 (Nat.succ_pos _))
  have BB : Hid (Below w.heap.size w x4) := BB.out.trans (hS.mono BB.out.size)
  clear hS
  have hb0_0 := HB0.out.cell 0 _ rfl
  have hb0_1 := HB0.out.cell 1 _ rfl
  have hb0_2 := HB0.out.cell 2 _ rfl
  have hb0_3 := HB0.out.cell 3 _ rfl
  have hb0_4 := HB0.out.cell 4 _ rfl
  have hb1_0 := HB1.out.cell 0 _ rfl
  have hb1_1 := HB1.out.cell 1 _ rfl
  have hb1_2 := HB1.out.cell 2 _ rfl
  have hb1_3 := HB1.out.cell 3 _ rfl
  have hb1_4 := HB1.out.cell 4 _ rfl
  have hb1_5 := HB1.out.cell 5 _ rfl
  have hb2_0 := HB2.out.cell 0 _ rfl
  have hb2_1 := HB2.out.cell 1 _ rfl
  have hb2_2 := HB2.out.cell 2 _ rfl
  have hb2_3 := HB2.out.cell 3 _ rfl
  have hb2_4 := HB2.out.cell 4 _ rfl
  have hb2_5 := HB2.out.cell 5 _ rfl
  have t50 : (1 : Nat) = 1 := rfl
  go_wp2_with (first
    | (have q51 := t51; go_at_call 9; refine (awake_any w91).mono ?_; rintro e9 w92 ⟨rfl, B9⟩; have HB0 : Hid (Vr w92 w.heap.size (sv u n e t (.slice ao xs.length cap))) := HB0.out.below B9 (range_lt HB0.out.1 (Nat.succ_pos _)); have HB1 : Hid (Vr w92 w1.heap.size (he.hv k n' c l e' t')) := HB1.out.below B9 (range_lt HB1.out.1 (Nat.succ_pos _)); have HB2 : Hid (Vr w92 w2.heap.size (he.hv kk nn cc ll ee tt)) := HB2.out.below B9 (range_lt HB2.out.1 (Nat.succ_pos _)); have BB : Hid (Below w.heap.size w w92) := BB.out.trans (B9.mono BB.out.size); clear hb0_0 hb0_1 hb0_2 hb0_3 hb0_4 hb1_0 hb1_1 hb1_2 hb1_3 hb1_4 hb1_5 hb2_0 hb2_1 hb2_2 hb2_3 hb2_4 hb2_5; have hb0_0 := HB0.out.cell 0 _ rfl; have hb0_1 := HB0.out.cell 1 _ rfl; have hb0_2 := HB0.out.cell 2 _ rfl; have hb0_3 := HB0.out.cell 3 _ rfl; have hb0_4 := HB0.out.cell 4 _ rfl; have hb1_0 := HB1.out.cell 0 _ rfl; have hb1_1 := HB1.out.cell 1 _ rfl; have hb1_2 := HB1.out.cell 2 _ rfl; have hb1_3 := HB1.out.cell 3 _ rfl; have hb1_4 := HB1.out.cell 4 _ rfl; have hb1_5 := HB1.out.cell 5 _ rfl; have hb2_0 := HB2.out.cell 0 _ rfl; have hb2_1 := HB2.out.cell 1 _ rfl; have hb2_2 := HB2.out.cell 2 _ rfl; have hb2_3 := HB2.out.cell 3 _ rfl; have hb2_4 := HB2.out.cell 4 _ rfl; have hb2_5 := HB2.out.cell 5 _ rfl; clear B9; clear t51; have t52 : (1 : Nat) = 1 := rfl)
    | (have q50 := t50; go_at_call 16; refine (SD.out x4).mono ?_; rintro e9 w91 ⟨rfl, B9⟩; have HB0 : Hid (Vr w91 w.heap.size (sv u n e t (.slice ao xs.length cap))) := HB0.out.below B9 (range_lt HB0.out.1 (Nat.succ_pos _)); have HB1 : Hid (Vr w91 w1.heap.size (he.hv k n' c l e' t')) := HB1.out.below B9 (range_lt HB1.out.1 (Nat.succ_pos _)); have HB2 : Hid (Vr w91 w2.heap.size (he.hv kk nn cc ll ee tt)) := HB2.out.below B9 (range_lt HB2.out.1 (Nat.succ_pos _)); have BB : Hid (Below w.heap.size w w91) := BB.out.trans (B9.mono BB.out.size); clear hb0_0 hb0_1 hb0_2 hb0_3 hb0_4 hb1_0 hb1_1 hb1_2 hb1_3 hb1_4 hb1_5 hb2_0 hb2_1 hb2_2 hb2_3 hb2_4 hb2_5; have hb0_0 := HB0.out.cell 0 _ rfl; have hb0_1 := HB0.out.cell 1 _ rfl; have hb0_2 := HB0.out.cell 2 _ rfl; have hb0_3 := HB0.out.cell 3 _ rfl; have hb0_4 := HB0.out.cell 4 _ rfl; have hb1_0 := HB1.out.cell 0 _ rfl; have hb1_1 := HB1.out.cell 1 _ rfl; have hb1_2 := HB1.out.cell 2 _ rfl; have hb1_3 := HB1.out.cell 3 _ rfl; have hb1_4 := HB1.out.cell 4 _ rfl; have hb1_5 := HB1.out.cell 5 _ rfl; have hb2_0 := HB2.out.cell 0 _ rfl; have hb2_1 := HB2.out.cell 1 _ rfl; have hb2_2 := HB2.out.cell 2 _ rfl; have hb2_3 := HB2.out.cell 3 _ rfl; have hb2_4 := HB2.out.cell 4 _ rfl; have hb2_5 := HB2.out.cell 5 _ rfl; clear B9; clear t50; have t51 : (1 : Nat) = 1 := rfl))
  go_ret
  exact ⟨rfl, BB.out⟩

set_option maxHeartbeats 8000000 in
theorem walk_c (u : Bool) (n e t : Int) (v : Value) (xs : List Int) (k n' c l e' t' kk nn cc ll ee tt : Int) (w : World) (hv : Byt w v xs) (d : Bool) (hd : d = decide (u = false ∨ e' < e ∨ e' = e ∧ t' ≤ t)) (a0 : ¬ ee < e') (a1 : (ee == e') = true) (a2 : ¬ tt ≤ t') :
    Calls Try.prog 5 #[.agg (sv u n e t v).toArray, .agg (he.hv k n' c l e' t').toArray, .agg (he.hv kk nn cc ll ee tt).toArray] w fun x w' => x = .returned (.bool true) ∧ Below w.heap.size w w' := by
  have SD : Hid (∀ w0, Calls Try.prog 16 #[.agg (sv u n e t v).toArray, .agg (he.hv k n' c l e' t').toArray] w0 fun x w' => x = .returned (.bool d) ∧ Below w0.heap.size w0 w') := fun w0 => dead_any u n e t v k n' c l e' t' w0 d hd
  have SR : Hid (∀ w0, Calls Try.prog 17 #[.agg (sv u n e t v).toArray, .agg (he.hv k n' c l e' t').toArray] w0 fun x w' => x = .returned (.bool d) ∧ Below w0.heap.size w0 w') := fun w0 => rdead_any u n e t v k n' c l e' t' w0 d hd
  have SO : Hid (∀ w0, Below w.heap.size w w0 → Calls Try.prog 8 #[.agg (sv u n e t v).toArray] w0 fun x w' => x = .returned (.agg (sv u n e t v).toArray) ∧ Below w0.heap.size w0 w') := fun w0 q => so.of_any u n e t v xs w0 (hv.below q)
  obtain ⟨ao, cap, rfl⟩ := form hv
  clear hv hd
  have t0 : (0 : Nat) = 0 := rfl
  go_enter Try.func5, Try.ntmps5
  go_wp2_with (first
    | (have q2 := t2; refine box_lawC _ (he.hv kk nn cc ll ee tt) rfl ?_; intro w3 X9 B9 l9; have HB0 : Hid (Vr w3 w.heap.size (sv u n e t (.slice ao xs.length cap))) := HB0.out.below B9 (range_lt HB0.out.1 (Nat.succ_pos _)); have HB1 : Hid (Vr w3 w1.heap.size (he.hv k n' c l e' t')) := HB1.out.below B9 (range_lt HB1.out.1 (Nat.succ_pos _)); have HB2 : Hid (Vr w3 w2.heap.size (he.hv kk nn cc ll ee tt)) := X9; have BB : Hid (Below w.heap.size w w3) := BB.out.trans (B9.mono BB.out.size); have hb0_0 := HB0.out.cell 0 _ rfl; have hb0_1 := HB0.out.cell 1 _ rfl; have hb0_2 := HB0.out.cell 2 _ rfl; have hb0_3 := HB0.out.cell 3 _ rfl; have hb0_4 := HB0.out.cell 4 _ rfl; have hb1_0 := HB1.out.cell 0 _ rfl; have hb1_1 := HB1.out.cell 1 _ rfl; have hb1_2 := HB1.out.cell 2 _ rfl; have hb1_3 := HB1.out.cell 3 _ rfl; have hb1_4 := HB1.out.cell 4 _ rfl; have hb1_5 := HB1.out.cell 5 _ rfl; have hb2_0 := HB2.out.cell 0 _ rfl; have hb2_1 := HB2.out.cell 1 _ rfl; have hb2_2 := HB2.out.cell 2 _ rfl; have hb2_3 := HB2.out.cell 3 _ rfl; have hb2_4 := HB2.out.cell 4 _ rfl; have hb2_5 := HB2.out.cell 5 _ rfl; clear X9 B9 l9; clear t2; have t3 : (1 : Nat) = 1 := rfl)
    | (have q1 := t1; refine box_lawC _ (he.hv k n' c l e' t') rfl ?_; intro w2 X9 B9 l9; have HB0 : Hid (Vr w2 w.heap.size (sv u n e t (.slice ao xs.length cap))) := HB0.out.below B9 (range_lt HB0.out.1 (Nat.succ_pos _)); have HB1 : Hid (Vr w2 w1.heap.size (he.hv k n' c l e' t')) := X9; have BB : Hid (Below w.heap.size w w2) := BB.out.trans (B9.mono BB.out.size); clear X9 B9 l9; clear t1; have t2 : (1 : Nat) = 1 := rfl)
    | (have q0 := t0; refine box_lawC _ (sv u n e t (.slice ao xs.length cap)) rfl ?_; intro w1 X9 B9 l9; have HB0 : Hid (Vr w1 w.heap.size (sv u n e t (.slice ao xs.length cap))) := X9; have BB : Hid (Below w.heap.size w w1) := B9; clear X9 B9 l9; clear t0; have t1 : (1 : Nat) = 1 := rfl))
  refine wp_region_held_drew (S := fun w' => Below w3.heap.size w3 w') (by kernel_rfl) (Below.refl _ _).drew (fun hS => ?_)
  obtain ⟨x1, hx0⟩ : ∃ x, x = w3.drew := ⟨_, rfl⟩
  rw [← hx0] at hS  ⊢
  clear hx0
  refine take_lawH 0 (some 8) (.agg (sv u n e t (.slice ao xs.length cap)).toArray) rfl rfl (by kernel_rfl) (by kernel_rfl) (by kernel_rfl) (fun _ _ _ h => h) (Or.inl ⟨by rfl, fun w' hw' => by exact exec_loadN 29 (.tmp 3) rfl _ rfl _ _ (load_cells rowy_slot (HB0.out.below hw' (range_lt HB0.out.1 (Nat.succ_pos _))).1)⟩) hS ?_
  simp only [Act.put, List.setIfInBounds_toArray, List.set_cons_zero, List.set_cons_succ]
  refine take_lawH 1 (some 9) (.agg (he.hv k n' c l e' t').toArray) rfl rfl (by kernel_rfl) (by kernel_rfl) (by kernel_rfl) (fun _ _ _ h => h) (Or.inl ⟨by rfl, fun w' hw' => by exact exec_loadN 27 (.tmp 4) rfl _ rfl _ _ (load_cells rowy_head (HB1.out.below hw' (range_lt HB1.out.1 (Nat.succ_pos _))).1)⟩) hS ?_
  simp only [Act.put, List.setIfInBounds_toArray, List.set_cons_zero, List.set_cons_succ]
  refine take_lawH 3 (some 11) (.agg (sv u n e t (.slice ao xs.length cap)).toArray) rfl rfl (by kernel_rfl) (by kernel_rfl) (by kernel_rfl) (fun _ _ _ h => h) (Or.inl ⟨by rfl, fun w' hw' => by exact exec_loadN 29 (.tmp 3) rfl _ rfl _ _ (load_cells rowy_slot (HB0.out.below hw' (range_lt HB0.out.1 (Nat.succ_pos _))).1)⟩) hS ?_
  simp only [Act.put, List.setIfInBounds_toArray, List.set_cons_zero, List.set_cons_succ]
  refine take_lawH 5 (some 13) (.agg (he.hv k n' c l e' t').toArray) rfl rfl (by kernel_rfl) (by kernel_rfl) (by kernel_rfl) (fun _ _ _ h => h) (Or.inl ⟨by rfl, fun w' hw' => by exact exec_loadN 27 (.tmp 4) rfl _ rfl _ _ (load_cells rowy_head (HB1.out.below hw' (range_lt HB1.out.1 (Nat.succ_pos _))).1)⟩) hS ?_
  simp only [Act.put, List.setIfInBounds_toArray, List.set_cons_zero, List.set_cons_succ]
  refine wpAnyH_ready (rs := [2]) (by kernel_rfl) (by simp) ?_
  refine AllReadyH.cons rfl (fun K hK => ?_) AllReadyH.nil
  refine he.step_callW _ (by rfl) (some 10) rfl 16 #[.tmp 8, .tmp 9] #[29, 27] rfl (fun q w' => by rfl) #[.agg (sv u n e t (.slice ao xs.length cap)).toArray, .agg (he.hv k n' c l e' t').toArray] (by simp only [List.map_toArray, List.map_cons, List.map_nil]; rfl) (fun u w' => u = .bool d ∧ Below x1.heap.size x1 w') ?_ ?_
  · exact (SD.out x1).mono fun e w' ⟨h1, h2⟩ => ⟨_, h1, rfl, h2⟩
  rintro _ x2 ⟨rfl, hb⟩
  have hS : Below w3.heap.size w3 x2 := hS.trans (hb.mono hS.size)
  clear hb
  refine hK.out _ _ hS (fun _ => ?_)
  simp only [Act.put, List.setIfInBounds_toArray, List.set_cons_zero, List.set_cons_succ]
  clear hK K
  refine wpAnyH_ready (rs := [4]) (by kernel_rfl) (by simp) ?_
  refine AllReadyH.cons rfl (fun K hK => ?_) AllReadyH.nil
  refine he.step_callW _ (by rfl) (some 12) rfl 8 #[.tmp 11] #[29] rfl (fun q w' => by rfl) #[.agg (sv u n e t (.slice ao xs.length cap)).toArray] (by simp only [List.map_toArray, List.map_cons, List.map_nil]; rfl) (fun z9 w' => z9 = .agg (sv u n e t (.slice ao xs.length cap)).toArray ∧ Below x2.heap.size x2 w') ?_ ?_
  · exact (SO.out x2 (BB.out.trans (hS.mono BB.out.size))).mono fun e w' ⟨h1, h2⟩ => ⟨_, h1, rfl, h2⟩
  rintro _ x3 ⟨rfl, hb⟩
  have hS : Below w3.heap.size w3 x3 := hS.trans (hb.mono hS.size)
  clear hb
  refine hK.out _ _ hS (fun _ => ?_)
  simp only [Act.put, List.setIfInBounds_toArray, List.set_cons_zero, List.set_cons_succ]
  clear hK K
  refine wpAnyH_ready (rs := [6]) (by kernel_rfl) (by simp) ?_
  refine AllReadyH.cons rfl (fun K hK => ?_) AllReadyH.nil
  refine he.step_callW _ (by rfl) (some 14) rfl 17 #[.tmp 12, .tmp 13] #[34, 27] rfl (fun q w' => by rfl) #[.agg (sv u n e t (.slice ao xs.length cap)).toArray, .agg (he.hv k n' c l e' t').toArray] (by simp only [List.map_toArray, List.map_cons, List.map_nil]; rfl) (fun u w' => u = .bool d ∧ Below x3.heap.size x3 w') ?_ ?_
  · exact (SR.out x3).mono fun e w' ⟨h1, h2⟩ => ⟨_, h1, rfl, h2⟩
  rintro _ x4 ⟨rfl, hb⟩
  have hS : Below w3.heap.size w3 x4 := hS.trans (hb.mono hS.size)
  clear hb
  refine hK.out _ _ hS (fun _ => ?_)
  simp only [Act.put, List.setIfInBounds_toArray, List.set_cons_zero, List.set_cons_succ]
  clear hK K
  refine take_lawH 7 (some 15) (.bool false) rfl rfl (by kernel_rfl) (by kernel_rfl) (by kernel_rfl) (fun _ _ _ h => h) (Or.inl ⟨by rfl, fun w' hw' => by cases d <;> rfl⟩) hS ?_
  simp only [Act.put, List.setIfInBounds_toArray, List.set_cons_zero, List.set_cons_succ]
  refine wpAnyH_done (by kernel_rfl) ?_ _
  clear hb0_0 hb0_1 hb0_2 hb0_3 hb0_4 hb1_0 hb1_1 hb1_2 hb1_3 hb1_4 hb1_5 hb2_0 hb2_1 hb2_2 hb2_3 hb2_4 hb2_5
  have HB0 : Hid (Vr x4 w.heap.size (sv u n e t (.slice ao xs.length cap))) := HB0.out.below hS (range_lt HB0.out.1 (Nat.succ_pos _))
  have HB1 : Hid (Vr x4 w1.heap.size (he.hv k n' c l e' t')) := HB1.out.below hS (range_lt HB1.out.1 (Nat.succ_pos _))
  have HB2 : Hid (Vr x4 w2.heap.size (he.hv kk nn cc ll ee tt)) := HB2.out.below hS (range_lt HB2.out.1 (Nat.succ_pos _))
  have BB : Hid (Below w.heap.size w x4) := BB.out.trans (hS.mono BB.out.size)
  clear hS
  have hb0_0 := HB0.out.cell 0 _ rfl
  have hb0_1 := HB0.out.cell 1 _ rfl
  have hb0_2 := HB0.out.cell 2 _ rfl
  have hb0_3 := HB0.out.cell 3 _ rfl
  have hb0_4 := HB0.out.cell 4 _ rfl
  have hb1_0 := HB1.out.cell 0 _ rfl
  have hb1_1 := HB1.out.cell 1 _ rfl
  have hb1_2 := HB1.out.cell 2 _ rfl
  have hb1_3 := HB1.out.cell 3 _ rfl
  have hb1_4 := HB1.out.cell 4 _ rfl
  have hb1_5 := HB1.out.cell 5 _ rfl
  have hb2_0 := HB2.out.cell 0 _ rfl
  have hb2_1 := HB2.out.cell 1 _ rfl
  have hb2_2 := HB2.out.cell 2 _ rfl
  have hb2_3 := HB2.out.cell 3 _ rfl
  have hb2_4 := HB2.out.cell 4 _ rfl
  have hb2_5 := HB2.out.cell 5 _ rfl
  have t50 : (1 : Nat) = 1 := rfl
  go_wp2_with (first
    | (have q50 := t50; go_at_call 9; refine (awake_any x4).mono ?_; rintro e9 w91 ⟨rfl, B9⟩; have HB0 : Hid (Vr w91 w.heap.size (sv u n e t (.slice ao xs.length cap))) := HB0.out.below B9 (range_lt HB0.out.1 (Nat.succ_pos _)); have HB1 : Hid (Vr w91 w1.heap.size (he.hv k n' c l e' t')) := HB1.out.below B9 (range_lt HB1.out.1 (Nat.succ_pos _)); have HB2 : Hid (Vr w91 w2.heap.size (he.hv kk nn cc ll ee tt)) := HB2.out.below B9 (range_lt HB2.out.1 (Nat.succ_pos _)); have BB : Hid (Below w.heap.size w w91) := BB.out.trans (B9.mono BB.out.size); clear hb0_0 hb0_1 hb0_2 hb0_3 hb0_4 hb1_0 hb1_1 hb1_2 hb1_3 hb1_4 hb1_5 hb2_0 hb2_1 hb2_2 hb2_3 hb2_4 hb2_5; have hb0_0 := HB0.out.cell 0 _ rfl; have hb0_1 := HB0.out.cell 1 _ rfl; have hb0_2 := HB0.out.cell 2 _ rfl; have hb0_3 := HB0.out.cell 3 _ rfl; have hb0_4 := HB0.out.cell 4 _ rfl; have hb1_0 := HB1.out.cell 0 _ rfl; have hb1_1 := HB1.out.cell 1 _ rfl; have hb1_2 := HB1.out.cell 2 _ rfl; have hb1_3 := HB1.out.cell 3 _ rfl; have hb1_4 := HB1.out.cell 4 _ rfl; have hb1_5 := HB1.out.cell 5 _ rfl; have hb2_0 := HB2.out.cell 0 _ rfl; have hb2_1 := HB2.out.cell 1 _ rfl; have hb2_2 := HB2.out.cell 2 _ rfl; have hb2_3 := HB2.out.cell 3 _ rfl; have hb2_4 := HB2.out.cell 4 _ rfl; have hb2_5 := HB2.out.cell 5 _ rfl; clear B9; clear t50; have t51 : (1 : Nat) = 1 := rfl))
  go_ret
  exact ⟨rfl, BB.out⟩

set_option maxHeartbeats 8000000 in
theorem walk_d (u : Bool) (n e t : Int) (v : Value) (xs : List Int) (k n' c l e' t' kk nn cc ll ee tt : Int) (w : World) (hv : Byt w v xs) (d : Bool) (hd : d = decide (u = false ∨ e' < e ∨ e' = e ∧ t' ≤ t)) (a0 : ¬ ee < e') (a1 : (ee == e') = false) :
    Calls Try.prog 5 #[.agg (sv u n e t v).toArray, .agg (he.hv k n' c l e' t').toArray, .agg (he.hv kk nn cc ll ee tt).toArray] w fun x w' => x = .returned (.bool true) ∧ Below w.heap.size w w' := by
  have SD : Hid (∀ w0, Calls Try.prog 16 #[.agg (sv u n e t v).toArray, .agg (he.hv k n' c l e' t').toArray] w0 fun x w' => x = .returned (.bool d) ∧ Below w0.heap.size w0 w') := fun w0 => dead_any u n e t v k n' c l e' t' w0 d hd
  have SR : Hid (∀ w0, Calls Try.prog 17 #[.agg (sv u n e t v).toArray, .agg (he.hv k n' c l e' t').toArray] w0 fun x w' => x = .returned (.bool d) ∧ Below w0.heap.size w0 w') := fun w0 => rdead_any u n e t v k n' c l e' t' w0 d hd
  have SO : Hid (∀ w0, Below w.heap.size w w0 → Calls Try.prog 8 #[.agg (sv u n e t v).toArray] w0 fun x w' => x = .returned (.agg (sv u n e t v).toArray) ∧ Below w0.heap.size w0 w') := fun w0 q => so.of_any u n e t v xs w0 (hv.below q)
  obtain ⟨ao, cap, rfl⟩ := form hv
  clear hv hd
  have t0 : (0 : Nat) = 0 := rfl
  go_enter Try.func5, Try.ntmps5
  go_wp2_with (first
    | (have q2 := t2; refine box_lawC _ (he.hv kk nn cc ll ee tt) rfl ?_; intro w3 X9 B9 l9; have HB0 : Hid (Vr w3 w.heap.size (sv u n e t (.slice ao xs.length cap))) := HB0.out.below B9 (range_lt HB0.out.1 (Nat.succ_pos _)); have HB1 : Hid (Vr w3 w1.heap.size (he.hv k n' c l e' t')) := HB1.out.below B9 (range_lt HB1.out.1 (Nat.succ_pos _)); have HB2 : Hid (Vr w3 w2.heap.size (he.hv kk nn cc ll ee tt)) := X9; have BB : Hid (Below w.heap.size w w3) := BB.out.trans (B9.mono BB.out.size); have hb0_0 := HB0.out.cell 0 _ rfl; have hb0_1 := HB0.out.cell 1 _ rfl; have hb0_2 := HB0.out.cell 2 _ rfl; have hb0_3 := HB0.out.cell 3 _ rfl; have hb0_4 := HB0.out.cell 4 _ rfl; have hb1_0 := HB1.out.cell 0 _ rfl; have hb1_1 := HB1.out.cell 1 _ rfl; have hb1_2 := HB1.out.cell 2 _ rfl; have hb1_3 := HB1.out.cell 3 _ rfl; have hb1_4 := HB1.out.cell 4 _ rfl; have hb1_5 := HB1.out.cell 5 _ rfl; have hb2_0 := HB2.out.cell 0 _ rfl; have hb2_1 := HB2.out.cell 1 _ rfl; have hb2_2 := HB2.out.cell 2 _ rfl; have hb2_3 := HB2.out.cell 3 _ rfl; have hb2_4 := HB2.out.cell 4 _ rfl; have hb2_5 := HB2.out.cell 5 _ rfl; clear X9 B9 l9; clear t2; have t3 : (1 : Nat) = 1 := rfl)
    | (have q1 := t1; refine box_lawC _ (he.hv k n' c l e' t') rfl ?_; intro w2 X9 B9 l9; have HB0 : Hid (Vr w2 w.heap.size (sv u n e t (.slice ao xs.length cap))) := HB0.out.below B9 (range_lt HB0.out.1 (Nat.succ_pos _)); have HB1 : Hid (Vr w2 w1.heap.size (he.hv k n' c l e' t')) := X9; have BB : Hid (Below w.heap.size w w2) := BB.out.trans (B9.mono BB.out.size); clear X9 B9 l9; clear t1; have t2 : (1 : Nat) = 1 := rfl)
    | (have q0 := t0; refine box_lawC _ (sv u n e t (.slice ao xs.length cap)) rfl ?_; intro w1 X9 B9 l9; have HB0 : Hid (Vr w1 w.heap.size (sv u n e t (.slice ao xs.length cap))) := X9; have BB : Hid (Below w.heap.size w w1) := B9; clear X9 B9 l9; clear t0; have t1 : (1 : Nat) = 1 := rfl))
  refine wp_region_held_drew (S := fun w' => Below w3.heap.size w3 w') (by kernel_rfl) (Below.refl _ _).drew (fun hS => ?_)
  obtain ⟨x1, hx0⟩ : ∃ x, x = w3.drew := ⟨_, rfl⟩
  rw [← hx0] at hS  ⊢
  clear hx0
  refine take_lawH 0 (some 8) (.agg (sv u n e t (.slice ao xs.length cap)).toArray) rfl rfl (by kernel_rfl) (by kernel_rfl) (by kernel_rfl) (fun _ _ _ h => h) (Or.inl ⟨by rfl, fun w' hw' => by exact exec_loadN 29 (.tmp 3) rfl _ rfl _ _ (load_cells rowy_slot (HB0.out.below hw' (range_lt HB0.out.1 (Nat.succ_pos _))).1)⟩) hS ?_
  simp only [Act.put, List.setIfInBounds_toArray, List.set_cons_zero, List.set_cons_succ]
  refine take_lawH 1 (some 9) (.agg (he.hv k n' c l e' t').toArray) rfl rfl (by kernel_rfl) (by kernel_rfl) (by kernel_rfl) (fun _ _ _ h => h) (Or.inl ⟨by rfl, fun w' hw' => by exact exec_loadN 27 (.tmp 4) rfl _ rfl _ _ (load_cells rowy_head (HB1.out.below hw' (range_lt HB1.out.1 (Nat.succ_pos _))).1)⟩) hS ?_
  simp only [Act.put, List.setIfInBounds_toArray, List.set_cons_zero, List.set_cons_succ]
  refine take_lawH 3 (some 11) (.agg (sv u n e t (.slice ao xs.length cap)).toArray) rfl rfl (by kernel_rfl) (by kernel_rfl) (by kernel_rfl) (fun _ _ _ h => h) (Or.inl ⟨by rfl, fun w' hw' => by exact exec_loadN 29 (.tmp 3) rfl _ rfl _ _ (load_cells rowy_slot (HB0.out.below hw' (range_lt HB0.out.1 (Nat.succ_pos _))).1)⟩) hS ?_
  simp only [Act.put, List.setIfInBounds_toArray, List.set_cons_zero, List.set_cons_succ]
  refine take_lawH 5 (some 13) (.agg (he.hv k n' c l e' t').toArray) rfl rfl (by kernel_rfl) (by kernel_rfl) (by kernel_rfl) (fun _ _ _ h => h) (Or.inl ⟨by rfl, fun w' hw' => by exact exec_loadN 27 (.tmp 4) rfl _ rfl _ _ (load_cells rowy_head (HB1.out.below hw' (range_lt HB1.out.1 (Nat.succ_pos _))).1)⟩) hS ?_
  simp only [Act.put, List.setIfInBounds_toArray, List.set_cons_zero, List.set_cons_succ]
  refine wpAnyH_ready (rs := [2]) (by kernel_rfl) (by simp) ?_
  refine AllReadyH.cons rfl (fun K hK => ?_) AllReadyH.nil
  refine he.step_callW _ (by rfl) (some 10) rfl 16 #[.tmp 8, .tmp 9] #[29, 27] rfl (fun q w' => by rfl) #[.agg (sv u n e t (.slice ao xs.length cap)).toArray, .agg (he.hv k n' c l e' t').toArray] (by simp only [List.map_toArray, List.map_cons, List.map_nil]; rfl) (fun u w' => u = .bool d ∧ Below x1.heap.size x1 w') ?_ ?_
  · exact (SD.out x1).mono fun e w' ⟨h1, h2⟩ => ⟨_, h1, rfl, h2⟩
  rintro _ x2 ⟨rfl, hb⟩
  have hS : Below w3.heap.size w3 x2 := hS.trans (hb.mono hS.size)
  clear hb
  refine hK.out _ _ hS (fun _ => ?_)
  simp only [Act.put, List.setIfInBounds_toArray, List.set_cons_zero, List.set_cons_succ]
  clear hK K
  refine wpAnyH_ready (rs := [4]) (by kernel_rfl) (by simp) ?_
  refine AllReadyH.cons rfl (fun K hK => ?_) AllReadyH.nil
  refine he.step_callW _ (by rfl) (some 12) rfl 8 #[.tmp 11] #[29] rfl (fun q w' => by rfl) #[.agg (sv u n e t (.slice ao xs.length cap)).toArray] (by simp only [List.map_toArray, List.map_cons, List.map_nil]; rfl) (fun z9 w' => z9 = .agg (sv u n e t (.slice ao xs.length cap)).toArray ∧ Below x2.heap.size x2 w') ?_ ?_
  · exact (SO.out x2 (BB.out.trans (hS.mono BB.out.size))).mono fun e w' ⟨h1, h2⟩ => ⟨_, h1, rfl, h2⟩
  rintro _ x3 ⟨rfl, hb⟩
  have hS : Below w3.heap.size w3 x3 := hS.trans (hb.mono hS.size)
  clear hb
  refine hK.out _ _ hS (fun _ => ?_)
  simp only [Act.put, List.setIfInBounds_toArray, List.set_cons_zero, List.set_cons_succ]
  clear hK K
  refine wpAnyH_ready (rs := [6]) (by kernel_rfl) (by simp) ?_
  refine AllReadyH.cons rfl (fun K hK => ?_) AllReadyH.nil
  refine he.step_callW _ (by rfl) (some 14) rfl 17 #[.tmp 12, .tmp 13] #[34, 27] rfl (fun q w' => by rfl) #[.agg (sv u n e t (.slice ao xs.length cap)).toArray, .agg (he.hv k n' c l e' t').toArray] (by simp only [List.map_toArray, List.map_cons, List.map_nil]; rfl) (fun u w' => u = .bool d ∧ Below x3.heap.size x3 w') ?_ ?_
  · exact (SR.out x3).mono fun e w' ⟨h1, h2⟩ => ⟨_, h1, rfl, h2⟩
  rintro _ x4 ⟨rfl, hb⟩
  have hS : Below w3.heap.size w3 x4 := hS.trans (hb.mono hS.size)
  clear hb
  refine hK.out _ _ hS (fun _ => ?_)
  simp only [Act.put, List.setIfInBounds_toArray, List.set_cons_zero, List.set_cons_succ]
  clear hK K
  refine take_lawH 7 (some 15) (.bool false) rfl rfl (by kernel_rfl) (by kernel_rfl) (by kernel_rfl) (fun _ _ _ h => h) (Or.inl ⟨by rfl, fun w' hw' => by cases d <;> rfl⟩) hS ?_
  simp only [Act.put, List.setIfInBounds_toArray, List.set_cons_zero, List.set_cons_succ]
  refine wpAnyH_done (by kernel_rfl) ?_ _
  clear hb0_0 hb0_1 hb0_2 hb0_3 hb0_4 hb1_0 hb1_1 hb1_2 hb1_3 hb1_4 hb1_5 hb2_0 hb2_1 hb2_2 hb2_3 hb2_4 hb2_5
  have HB0 : Hid (Vr x4 w.heap.size (sv u n e t (.slice ao xs.length cap))) := HB0.out.below hS (range_lt HB0.out.1 (Nat.succ_pos _))
  have HB1 : Hid (Vr x4 w1.heap.size (he.hv k n' c l e' t')) := HB1.out.below hS (range_lt HB1.out.1 (Nat.succ_pos _))
  have HB2 : Hid (Vr x4 w2.heap.size (he.hv kk nn cc ll ee tt)) := HB2.out.below hS (range_lt HB2.out.1 (Nat.succ_pos _))
  have BB : Hid (Below w.heap.size w x4) := BB.out.trans (hS.mono BB.out.size)
  clear hS
  have hb0_0 := HB0.out.cell 0 _ rfl
  have hb0_1 := HB0.out.cell 1 _ rfl
  have hb0_2 := HB0.out.cell 2 _ rfl
  have hb0_3 := HB0.out.cell 3 _ rfl
  have hb0_4 := HB0.out.cell 4 _ rfl
  have hb1_0 := HB1.out.cell 0 _ rfl
  have hb1_1 := HB1.out.cell 1 _ rfl
  have hb1_2 := HB1.out.cell 2 _ rfl
  have hb1_3 := HB1.out.cell 3 _ rfl
  have hb1_4 := HB1.out.cell 4 _ rfl
  have hb1_5 := HB1.out.cell 5 _ rfl
  have hb2_0 := HB2.out.cell 0 _ rfl
  have hb2_1 := HB2.out.cell 1 _ rfl
  have hb2_2 := HB2.out.cell 2 _ rfl
  have hb2_3 := HB2.out.cell 3 _ rfl
  have hb2_4 := HB2.out.cell 4 _ rfl
  have hb2_5 := HB2.out.cell 5 _ rfl
  have t50 : (1 : Nat) = 1 := rfl
  go_wp2_with (first
    | (have q50 := t50; go_at_call 9; refine (awake_any x4).mono ?_; rintro e9 w91 ⟨rfl, B9⟩; have HB0 : Hid (Vr w91 w.heap.size (sv u n e t (.slice ao xs.length cap))) := HB0.out.below B9 (range_lt HB0.out.1 (Nat.succ_pos _)); have HB1 : Hid (Vr w91 w1.heap.size (he.hv k n' c l e' t')) := HB1.out.below B9 (range_lt HB1.out.1 (Nat.succ_pos _)); have HB2 : Hid (Vr w91 w2.heap.size (he.hv kk nn cc ll ee tt)) := HB2.out.below B9 (range_lt HB2.out.1 (Nat.succ_pos _)); have BB : Hid (Below w.heap.size w w91) := BB.out.trans (B9.mono BB.out.size); clear hb0_0 hb0_1 hb0_2 hb0_3 hb0_4 hb1_0 hb1_1 hb1_2 hb1_3 hb1_4 hb1_5 hb2_0 hb2_1 hb2_2 hb2_3 hb2_4 hb2_5; have hb0_0 := HB0.out.cell 0 _ rfl; have hb0_1 := HB0.out.cell 1 _ rfl; have hb0_2 := HB0.out.cell 2 _ rfl; have hb0_3 := HB0.out.cell 3 _ rfl; have hb0_4 := HB0.out.cell 4 _ rfl; have hb1_0 := HB1.out.cell 0 _ rfl; have hb1_1 := HB1.out.cell 1 _ rfl; have hb1_2 := HB1.out.cell 2 _ rfl; have hb1_3 := HB1.out.cell 3 _ rfl; have hb1_4 := HB1.out.cell 4 _ rfl; have hb1_5 := HB1.out.cell 5 _ rfl; have hb2_0 := HB2.out.cell 0 _ rfl; have hb2_1 := HB2.out.cell 1 _ rfl; have hb2_2 := HB2.out.cell 2 _ rfl; have hb2_3 := HB2.out.cell 3 _ rfl; have hb2_4 := HB2.out.cell 4 _ rfl; have hb2_5 := HB2.out.cell 5 _ rfl; clear B9; clear t50; have t51 : (1 : Nat) = 1 := rfl))
  go_ret
  exact ⟨rfl, BB.out⟩

theorem walk (u : Bool) (n e t : Int) (v : Value) (xs : List Int) (k n' c l e' t' kk nn cc ll ee tt : Int) (w : World) (_hS : Sb n e t) (hv : Byt w v xs) (_hH : Hb l e' t') (_hG : Hb ll ee tt) :
    Calls Try.prog 5 #[.agg (sv u n e t v).toArray, .agg (he.hv k n' c l e' t').toArray, .agg (he.hv kk nn cc ll ee tt).toArray] w fun x w' => x = .returned (.bool true) ∧ Below w.heap.size w w' := by
  by_cases hd : u = false ∨ e' < e ∨ e' = e ∧ t' ≤ t
  · have h1 := (decide_eq_true hd).symm
    have hq : (ee < e' ∨ ee = e' ∧ tt ≤ t') → true = decide (u = false ∨ ee < e ∨ ee = e ∧ tt ≤ t) := fun q => (decide_eq_true (show u = false ∨ ee < e ∨ ee = e ∧ tt ≤ t from dd_ahead (show Dd u e t e' t' from hd) q)).symm
    by_cases a0 : ee < e'
    · exact walk_at u n e t v xs k n' c l e' t' kk nn cc ll ee tt w hv h1 a0 (hq (Or.inl a0))
    · by_cases a1 : ee = e'
      · by_cases a2 : tt ≤ t'
        · exact walk_bt u n e t v xs k n' c l e' t' kk nn cc ll ee tt w hv h1 a0 (beq_iff_eq.2 a1) a2 (hq (Or.inr ⟨a1, a2⟩))
        · exact walk_c u n e t v xs k n' c l e' t' kk nn cc ll ee tt w hv true h1 a0 (beq_iff_eq.2 a1) a2
      · exact walk_d u n e t v xs k n' c l e' t' kk nn cc ll ee tt w hv true h1 a0 (beq_eq_false_iff_ne.2 a1)
  · have h1 := (decide_eq_false hd).symm
    by_cases a0 : ee < e'
    · exact walk_af u n e t v xs k n' c l e' t' kk nn cc ll ee tt w hv h1 a0
    · by_cases a1 : ee = e'
      · by_cases a2 : tt ≤ t'
        · exact walk_bf u n e t v xs k n' c l e' t' kk nn cc ll ee tt w hv h1 a0 (beq_iff_eq.2 a1) a2
        · exact walk_c u n e t v xs k n' c l e' t' kk nn cc ll ee tt w hv false h1 a0 (beq_iff_eq.2 a1) a2
      · exact walk_d u n e t v xs k n' c l e' t' kk nn cc ll ee tt w hv false h1 a0 (beq_eq_false_iff_ne.2 a1)

theorem params : ∀ t ∈ Try.f5.params.toList, Try.prog.readableRec t = true ∧ t < Try.prog.types.size := by
  rw [Try.params5]
  intro t ht
  simp at ht
  rcases ht with rfl | rfl
  · exact ⟨by kernel_rfl, of_decide_eq_true (by kernel_rfl)⟩
  · exact ⟨by kernel_rfl, of_decide_eq_true (by kernel_rfl)⟩

theorem contract (H : Type) (enc : TypeId × Value → H) (W : World) (base : Nat) (args : Array Value) (ds gs : List (DataW H)) (before : List MemPlace)
    (hval : ∀ (j : Nat) t v, Try.f5.params[j]? = some t → args[j]? = some v → Value.okWide Try.prog W .any base t v)
    (hW : DataW.Whole enc Try.prog Try.f5.params.toList Rows.slotDeadsSpec.vars false W args.toList ds gs before) :
    Calls Try.prog 5 args W fun e W' => ∃ v, e = .returned v ∧ Rows.slotDeadsSpec.post enc Try.prog Try.f5 false true false false W args v W' := by
  have hW' := hW
  obtain ⟨p, q, hA0, hV, rfl, hfz, hnd⟩ := hW
  have hA : DataW.TrodAll enc Try.prog W 0 (fun _ => true) true Try.f5.params.toList args.toList ds p := hA0
  rw [Try.params5] at hA hval
  obtain ⟨v0, v1, v2, d0, d1, d2, p0, p1, p2, rfl, rfl, rfl, h0, h1, h2⟩ := trodAll_three hA
  obtain ⟨rfl, rfl⟩ := trodVars_none hV
  obtain ⟨su0, sn0, se0, st0, sx0, xs0, rfl, hf0, b0⟩ := so.slot_open (hval 0 29 v0 rfl rfl) h0
  obtain ⟨hk1, hn1, hc1, hl1, he1, ht1, rfl, hf1⟩ := head_open (hval 1 27 v1 rfl rfl) h1
  obtain ⟨hk2, hn2, hc2, hl2, he2, ht2, rfl, hf2⟩ := head_open (hval 2 27 v2 rfl rfl) h2
  clear hA0
  refine (walk su0 sn0 se0 st0 sx0 xs0 hk1 hn1 hc1 hl1 he1 ht1 hk2 hn2 hc2 hl2 he2 ht2 W hf0 b0 hf1 hf2).mono fun e W' ⟨he, hg⟩ => ?_
  subst he
  exact ⟨_, rfl, post_law rfl (by kernel_rfl) params rfl rfl rfl hW' hg⟩

theorem laid_met (os : Os) : laidMet Try.prog Rows.slotDeadsRow.laid ((World.holding Try.prog os ⟨#[], #[], []⟩).forCall (fun _ _ => 0) ⟨#[], #[.agg #[.bool false, .int .i64 0, .int .u64 0, .int .u64 0, .slice none 0 0], .agg #[.int .i64 0, .int .i64 0, .int .i64 0, .int .u32 0, .int .u64 0, .int .u64 0], .agg #[.int .i64 0, .int .i64 0, .int .i64 0, .int .u32 0, .int .u64 0, .int .u64 0]], []⟩).memory :=
  laidMet_of_run' 8 (by kernel_rfl) (by kernel_rfl)
theorem reads (os : Os) {H : Type} (enc : TypeId × Value → H) : ∃ places, DataW.whole enc Try.prog ((World.holding Try.prog os ⟨#[], #[], []⟩).forCall (fun _ _ => 0) ⟨#[], #[.agg #[.bool false, .int .i64 0, .int .u64 0, .int .u64 0, .slice none 0 0], .agg #[.int .i64 0, .int .i64 0, .int .i64 0, .int .u32 0, .int .u64 0, .int .u64 0], .agg #[.int .i64 0, .int .i64 0, .int .i64 0, .int .u32 0, .int .u64 0, .int .u64 0]], []⟩).memory Try.f5.params.toList Rows.slotDeadsSpec.vars false #[Value.agg #[.bool false, .int .i64 0, .int .u64 0, .int .u64 0, .slice none 0 0], Value.agg #[.int .i64 0, .int .i64 0, .int .i64 0, .int .u32 0, .int .u64 0, .int .u64 0], Value.agg #[.int .i64 0, .int .i64 0, .int .i64 0, .int .u32 0, .int .u64 0, .int .u64 0]].toList 8 = some ([.agg [.lit (.bool false), .lit (.int .i64 0), .lit (.int .u64 0), .lit (.int .u64 0), .nil], .agg [.lit (.int .i64 0), .lit (.int .i64 0), .lit (.int .i64 0), .lit (.int .u32 0), .lit (.int .u64 0), .lit (.int .u64 0)], .agg [.lit (.int .i64 0), .lit (.int .i64 0), .lit (.int .i64 0), .lit (.int .u32 0), .lit (.int .u64 0), .lit (.int .u64 0)]], [], places) :=
  ⟨[], by kernel_rfl⟩

set_option maxRecDepth 100000 in
theorem lifted (os : Os) (started : os.Started) (H : Type) (enc : TypeId × Value → H) (F : Stop.Interp) :
    ReturnsInHanded {} Try.checked os 5 .any ((OpenSpec.ofChange Rows.slotDeadsSpec).preRow enc Try.prog Try.f5 Rows.slotDeadsRow.domain false Rows.slotDeadsRow.laid) (((OpenSpec.ofChange Rows.slotDeadsSpec).at F).post enc Try.prog Try.f5 false true false false) := by
  obtain ⟨places, hx⟩ := reads os enc
  refine returnsInHanded_of_row (C := Try.checked) (s := OpenSpec.ofChange Rows.slotDeadsSpec) own started (by kernel_rfl) Try.func5
    (witness_row_at (enc := enc) (C := Try.checked) false (World.holding Try.prog os ⟨#[], #[], []⟩) #[.agg #[.bool false, .int .i64 0, .int .u64 0, .int .u64 0, .slice none 0 0], .agg #[.int .i64 0, .int .i64 0, .int .i64 0, .int .u32 0, .int .u64 0, .int .u64 0], .agg #[.int .i64 0, .int .i64 0, .int .i64 0, .int .u32 0, .int .u64 0, .int .u64 0]] rfl (by kernel_rfl) (by kernel_rfl) (by kernel_rfl)
      (OpenSpec.preRow_of_cond 8 hx (by kernel_rfl) (fun k hk => by cases hk) (by kernel_rfl) (laid_met os))) ?_
  intro W base args ds gs before hval hW _ _ _ _ _ _
  exact contract H enc W base args ds gs before hval hW

theorem said : Rows.SlotDeadsSaid :=
  OpenClaim.holds_of_cond 5 Try.f5 rfl rfl rfl rfl rfl rfl rfl ⟨rfl, rfl, rfl, rfl, rfl⟩ rfl rfl rfl rfl rfl (by kernel_rfl) Try.func5 (by kernel_rfl)
    (of_decide_eq_true (by kernel_rfl)) (by unfold Func.isWrapper; first | (rw [if_pos (by decide +kernel)]; kernel_rfl) | (rw [if_neg (by decide +kernel)]; exact ⟨rfl, rfl⟩))
    (fun os started H enc _ F => by rw [OpenClaim.pre_eq_preRow]; exact lifted os started H enc F)
end Go.Proofs.Ytifepmdhbhdjpaa.slotDeads

namespace Go.Proofs.Ytifepmdhbhdjpaa
theorem slotDeads_said : Rows.SlotDeadsSaid := slotDeads.said
#print axioms slotDeads_said
end Go.Proofs.Ytifepmdhbhdjpaa
