/- Two heads have one tweak just if their Epoch and Counter are the same; nil keys, and keys that New did not make, are answered ErrShape. No condition. -/
import Derived.Test.YtbkaecjkgjkheaaDoorCards
import Derived.Test.YtbkaecjkgjkheaaDoorTie
import Derived.Test.YtbkaecjkgjkheaaDoorPackS
namespace Go.Proofs.YtbkaecjkgjkheaaDoor.sealTweaks
open Go.ChangeShapes Go.WideShapes Go.ChangeAt Go.RowKit Go.Proofs.YtbkaecjkgjkheaaDoor.se Go.Proofs.YtbkaecjkgjkheaaDoor.he
set_option maxRecDepth 20000

theorem step_make {ops : Array Oper} {o : Oper} {a : Act} {Q : Exit → Act → World → Prop} {K : Act → World → Prop} {E : Prop} (w : World) (hg : o.guard = none) (d : Option Tmp) (hd : o.dst = d) (l c : Operand) (hop : o.op = Op.makeSlice 22 l c) (B : Nat) (hB : B ≤ w.heap.size)
    (L : Int) (n : Nat) (hl : a.eval l = .int .i64 L) (hc : a.eval c = .int .i64 L) (hL : L = (n : Int)) (hn : n ≤ 1099511627776)
    (hK : ∀ w', OwnN B w' w.heap.size n (List.replicate n 0) → Below B w w' → w.heap.size < w'.heap.size → K (a.put d (.slice (some ⟨w.heap.size, 0, none⟩) n n)) w') :
    if Region.wanted o (yielded ops a.tmps) = true then Oper.wp Tryd.prog o a w K Q else E := by
  have hw : Region.wanted o (yielded ops a.tmps) = true := by simp [Region.wanted, hg]
  rw [if_pos hw]
  subst hd
  obtain ⟨i0, hi, hz0, hz1, hz2⟩ := info_parts info_u8
  obtain ⟨w', hrun, h1, h2⟩ := run_make_full (P := Tryd.prog) w B 22 5 i0 (.int .u8 0) 1 Tryd.underlying22 hi hz0 hz1 .i64 .i64 n (by rw [hz2]; omega) (by simp only [maxLen]; omega) hB
  subst hL
  have hlt : w.heap.size < w'.heap.size := (h1.lt w.heap.size rfl).2
  unfold Oper.wp
  simp [execOp, hop, hl, hc, hrun, Result.andThen]
  refine hK w' ⟨by simp, hB, ?_⟩ ((Below.refl B w).grown h2 hB (fun k hk => by cases hk)) hlt
  have e : (madeCells (Value.int .u8 0).cells (n * 1)).toList = (List.replicate n (0 : Int)).map (Value.int .u8) := by
    rw [Nat.mul_one]
    show (madeCells #[Value.int .u8 0] n).toList = _
    rw [toList_madeCells_one]; simp
  rw [e] at h1
  exact h1

set_option maxHeartbeats 8000000 in
theorem walk_1 (k n c l e t kk nn cc ll ee tt : Int) (w : World) (hT : Tab w) (b : Bool) (hb1 : (e == ee) = true) (hb2 : (t == tt) = b)
    (ST : Hid (∀ w0, Calls Tryd.prog 10 #[.agg (he.hv k n c l e t).toArray] w0 fun x w' => ∃ r, x = .returned r ∧ Byt w' r (twk e t) ∧ Below w0.heap.size w0 w')) (SU : Hid (∀ w0, Calls Tryd.prog 10 #[.agg (he.hv kk nn cc ll ee tt).toArray] w0 fun x w' => ∃ r, x = .returned r ∧ Byt w' r (twk ee tt) ∧ Below w0.heap.size w0 w')) (hd : decide (twk e t = twk ee tt) = b) :
    Calls Tryd.prog 5 #[.agg (he.hv k n c l e t).toArray, .agg (he.hv kk nn cc ll ee tt).toArray] w fun x w' => x = .returned (.bool true) ∧ Below w.heap.size w w' := by
  have HT : Hid (Tab w) := hT
  have HD : Hid (decide (twk e t = twk ee tt) = b) := hd
  have SZ : Hid (∀ w0 sv, Calls Tryd.prog 15 #[.pointer none, .agg (he.hv k n c l e t).toArray, sv] w0 fun x w' => x = .returned (.tuple #[.slice none 0 0, .slice none 0 0, .int .i64 2]) ∧ Below w0.heap.size w0 w') := fun w0 sv => zseal_err _ k n c l e t sv w0 fun w1 _ => zhead_nil k n c l e t w1
  have SO : Hid (∀ w0 sv tv, Calls Tryd.prog 16 #[.pointer none, .agg (he.hv k n c l e t).toArray, sv, tv] w0 fun x w' => x = .returned (.tuple #[.slice none 0 0, .int .i64 2]) ∧ Below w0.heap.size w0 w') := fun w0 sv tv => zopen_err _ k n c l e t sv tv w0 fun w1 _ => zhead_nil k n c l e t w1
  have SR : Hid (∀ w0 p sv, w0.cell? ⟨p, 0, none⟩ = some (.pointer none) → Calls Tryd.prog 8 #[.pointer (some ⟨p, 0, none⟩), .agg (he.hv k n c l e t).toArray, sv] w0 fun x w' => x = .returned (.tuple #[.slice none 0 0, .int .i64 2]) ∧ Below w0.heap.size w0 w') := fun w0 p sv hc => ztag_err _ k n c l e t sv w0 fun w1 hb => zhead_raw k n c l e t w1 p (by rw [hb.cell (World.block_lt_of_cell? w0 _ hc)]; exact hc)
  generalize hA : twk e t = TA at ST HD
  generalize hB : twk ee tt = TB at SU HD
  clear hT hd hA hB
  have t0 : (0 : Nat) = 0 := rfl
  go_enter Tryd.func5, Tryd.ntmps5
  go_wp2_with (first
    | (have q1 := t1; refine box_lawC _ (he.hv kk nn cc ll ee tt) rfl ?_; intro w2 X9 B9 l9; have HB0 : Hid (Vr w2 w.heap.size (he.hv k n c l e t)) := HB0.out.below B9 (range_lt HB0.out.1 (Nat.succ_pos _)); have HB1 : Hid (Vr w2 w1.heap.size (he.hv kk nn cc ll ee tt)) := X9; have BB : Hid (Below w.heap.size w w2) := BB.out.trans (B9.mono BB.out.size); have hb0_0 := HB0.out.cell 0 _ rfl; have hb0_1 := HB0.out.cell 1 _ rfl; have hb0_2 := HB0.out.cell 2 _ rfl; have hb0_3 := HB0.out.cell 3 _ rfl; have hb0_4 := HB0.out.cell 4 _ rfl; have hb0_5 := HB0.out.cell 5 _ rfl; have hb1_0 := HB1.out.cell 0 _ rfl; have hb1_1 := HB1.out.cell 1 _ rfl; have hb1_2 := HB1.out.cell 2 _ rfl; have hb1_3 := HB1.out.cell 3 _ rfl; have hb1_4 := HB1.out.cell 4 _ rfl; have hb1_5 := HB1.out.cell 5 _ rfl; clear X9 B9 l9; clear t1; have t2 : (1 : Nat) = 1 := rfl)
    | (have q0 := t0; refine box_lawC _ (he.hv k n c l e t) rfl ?_; intro w1 X9 B9 l9; have HB0 : Hid (Vr w1 w.heap.size (he.hv k n c l e t)) := X9; have BB : Hid (Below w.heap.size w w1) := B9; clear X9 B9 l9; clear t0; have t1 : (1 : Nat) = 1 := rfl))
  refine wp_region_held_drew (S := fun w' => Below w2.heap.size w2 w') (by kernel_rfl) (Below.refl _ _).drew (fun hS => ?_)
  obtain ⟨x1, hx0⟩ : ∃ x, x = w2.drew := ⟨_, rfl⟩
  rw [← hx0] at hS  ⊢
  clear hx0
  refine take_lawH 0 (some 15) (.pointer none) rfl rfl (by kernel_rfl) (by kernel_rfl) (by kernel_rfl) (fun _ _ _ h => h) (Or.inl ⟨by rfl, fun w' hw' => by rfl⟩) hS ?_
  simp only [Act.put, List.setIfInBounds_toArray, List.set_cons_zero, List.set_cons_succ]
  refine take_lawH 1 (some 16) (.agg (he.hv k n c l e t).toArray) rfl rfl (by kernel_rfl) (by kernel_rfl) (by kernel_rfl) (fun _ _ _ h => h) (Or.inl ⟨by rfl, fun w' hw' => by exact exec_loadN 26 (.tmp 2) rfl _ rfl _ _ (load_cells rowy_head (HB0.out.below hw' (range_lt HB0.out.1 (Nat.succ_pos _))).1)⟩) hS ?_
  simp only [Act.put, List.setIfInBounds_toArray, List.set_cons_zero, List.set_cons_succ]
  refine wpAnyH_ready (rs := [2]) (by kernel_rfl) (by simp) ?_
  refine AllReadyH.cons rfl (fun K hK => ?_) AllReadyH.nil
  refine step_make _ rfl (some 17) rfl (.const (.int .i64 16)) (.const (.int .i64 16)) rfl x1.heap.size (Nat.le_refl _) 16 16 rfl rfl rfl (by omega) ?_
  intro x2 o9 hb l9
  have hS : Below w2.heap.size w2 x2 := hS.trans (hb.mono hS.size)
  clear o9 hb l9
  refine hK.out _ _ hS (fun _ => ?_)
  simp only [Act.put, List.setIfInBounds_toArray, List.set_cons_zero, List.set_cons_succ]
  clear hK K
  refine wpAnyH_ready (rs := [3]) (by kernel_rfl) (by simp) ?_
  refine AllReadyH.cons rfl (fun K hK => ?_) AllReadyH.nil
  refine step_callW _ (by rfl) (some 18) rfl 15 #[.tmp 15, .tmp 16, .tmp 17] #[28, 26, 22] rfl (fun q w' => by rfl) #[.pointer none, .agg (he.hv k n c l e t).toArray, .slice (some ⟨x1.heap.size, 0, none⟩) 16 16] (by simp only [List.map_toArray, List.map_cons, List.map_nil]; rfl) (fun u w' => u = .tuple #[.slice none 0 0, .slice none 0 0, .int .i64 2] ∧ Below x2.heap.size x2 w') ?_ ?_
  · exact (SZ.out x2 _).mono fun _ _ ⟨h1, h2⟩ => ⟨_, h1, rfl, h2⟩
  rintro _ x3 ⟨rfl, hb⟩
  have hS : Below w2.heap.size w2 x3 := hS.trans (hb.mono hS.size)
  clear hb
  refine hK.out _ _ hS (fun _ => ?_)
  simp only [Act.put, List.setIfInBounds_toArray, List.set_cons_zero, List.set_cons_succ]
  clear hK K
  refine take_lawH 4 (some 14) (.tuple #[.slice none 0 0, .slice none 0 0, .int .i64 2]) rfl rfl (by kernel_rfl) (by kernel_rfl) (by kernel_rfl) (fun _ _ _ h => h) (Or.inl ⟨by rfl, fun w' hw' => by rfl⟩) hS ?_
  simp only [Act.put, List.setIfInBounds_toArray, List.set_cons_zero, List.set_cons_succ]
  refine take_lawH 5 (some 19) (.slice none 0 0) rfl rfl (by kernel_rfl) (by kernel_rfl) (by kernel_rfl) (fun _ _ _ h => h) (Or.inl ⟨by rfl, fun w' hw' => by rfl⟩) hS ?_
  simp only [Act.put, List.setIfInBounds_toArray, List.set_cons_zero, List.set_cons_succ]
  refine take_lawH 6 (some 20) (.slice none 0 0) rfl rfl (by kernel_rfl) (by kernel_rfl) (by kernel_rfl) (fun _ _ _ h => h) (Or.inl ⟨by rfl, fun w' hw' => by rfl⟩) hS ?_
  simp only [Act.put, List.setIfInBounds_toArray, List.set_cons_zero, List.set_cons_succ]
  refine take_lawH 7 (some 21) (.int .i64 2) rfl rfl (by kernel_rfl) (by kernel_rfl) (by kernel_rfl) (fun _ _ _ h => h) (Or.inl ⟨by rfl, fun w' hw' => by rfl⟩) hS ?_
  simp only [Act.put, List.setIfInBounds_toArray, List.set_cons_zero, List.set_cons_succ]
  refine take_lawH 8 (some 6) (.slice none 0 0) rfl rfl (by kernel_rfl) (by kernel_rfl) (by kernel_rfl) (fun _ _ _ h => h) (Or.inl ⟨by rfl, fun w' hw' => by rfl⟩) hS ?_
  simp only [Act.put, List.setIfInBounds_toArray, List.set_cons_zero, List.set_cons_succ]
  refine take_lawH 9 (some 7) (.slice none 0 0) rfl rfl (by kernel_rfl) (by kernel_rfl) (by kernel_rfl) (fun _ _ _ h => h) (Or.inl ⟨by rfl, fun w' hw' => by rfl⟩) hS ?_
  simp only [Act.put, List.setIfInBounds_toArray, List.set_cons_zero, List.set_cons_succ]
  refine take_lawH 10 (some 8) (.int .i64 2) rfl rfl (by kernel_rfl) (by kernel_rfl) (by kernel_rfl) (fun _ _ _ h => h) (Or.inl ⟨by rfl, fun w' hw' => by rfl⟩) hS ?_
  simp only [Act.put, List.setIfInBounds_toArray, List.set_cons_zero, List.set_cons_succ]
  refine wpAnyH_done (by kernel_rfl) ?_ _
  clear hb0_0 hb0_1 hb0_2 hb0_3 hb0_4 hb0_5 hb1_0 hb1_1 hb1_2 hb1_3 hb1_4 hb1_5
  have HB0 : Hid (Vr x3 w.heap.size (he.hv k n c l e t)) := HB0.out.below hS (range_lt HB0.out.1 (Nat.succ_pos _))
  have HB1 : Hid (Vr x3 w1.heap.size (he.hv kk nn cc ll ee tt)) := HB1.out.below hS (range_lt HB1.out.1 (Nat.succ_pos _))
  have BB : Hid (Below w.heap.size w x3) := BB.out.trans (hS.mono BB.out.size)
  clear hS
  go_wp2
  refine wp_region_held_drew (S := fun w' => Below x3.heap.size x3 w') (by kernel_rfl) (Below.refl _ _).drew (fun hS => ?_)
  obtain ⟨y1, hx0⟩ : ∃ x, x = x3.drew := ⟨_, rfl⟩
  rw [← hx0] at hS  ⊢
  clear hx0
  refine take_lawH 0 (some 23) (.pointer none) rfl rfl (by kernel_rfl) (by kernel_rfl) (by kernel_rfl) (fun _ _ _ h => h) (Or.inl ⟨by rfl, fun w' hw' => by rfl⟩) hS ?_
  simp only [Act.put, List.setIfInBounds_toArray, List.set_cons_zero, List.set_cons_succ]
  refine take_lawH 1 (some 24) (.agg (he.hv k n c l e t).toArray) rfl rfl (by kernel_rfl) (by kernel_rfl) (by kernel_rfl) (fun _ _ _ h => h) (Or.inl ⟨by rfl, fun w' hw' => by exact exec_loadN 26 (.tmp 2) rfl _ rfl _ _ (load_cells rowy_head (HB0.out.below hw' (range_lt HB0.out.1 (Nat.succ_pos _))).1)⟩) hS ?_
  simp only [Act.put, List.setIfInBounds_toArray, List.set_cons_zero, List.set_cons_succ]
  refine wpAnyH_ready (rs := [2]) (by kernel_rfl) (by simp) ?_
  refine AllReadyH.cons rfl (fun K hK => ?_) AllReadyH.nil
  refine step_make _ rfl (some 25) rfl (.const (.int .i64 16)) (.const (.int .i64 16)) rfl y1.heap.size (Nat.le_refl _) 16 16 rfl rfl rfl (by omega) ?_
  intro y2 o9 hb l9
  have hS : Below x3.heap.size x3 y2 := hS.trans (hb.mono hS.size)
  clear o9 hb l9
  refine hK.out _ _ hS (fun _ => ?_)
  simp only [Act.put, List.setIfInBounds_toArray, List.set_cons_zero, List.set_cons_succ]
  clear hK K
  refine wpAnyH_ready (rs := [3]) (by kernel_rfl) (by simp) ?_
  refine AllReadyH.cons rfl (fun K hK => ?_) AllReadyH.nil
  refine step_callW _ (by rfl) (some 26) rfl 16 #[.tmp 23, .tmp 24, .tmp 25, .const (.slice none 0 0)] #[28, 26, 22, 22] rfl (fun q w' => by rfl) #[.pointer none, .agg (he.hv k n c l e t).toArray, .slice (some ⟨y1.heap.size, 0, none⟩) 16 16, .slice none 0 0] (by simp only [List.map_toArray, List.map_cons, List.map_nil]; rfl) (fun u w' => u = .tuple #[.slice none 0 0, .int .i64 2] ∧ Below y2.heap.size y2 w') ?_ ?_
  · exact (SO.out y2 _ _).mono fun _ _ ⟨h1, h2⟩ => ⟨_, h1, rfl, h2⟩
  rintro _ y3 ⟨rfl, hb⟩
  have hS : Below x3.heap.size x3 y3 := hS.trans (hb.mono hS.size)
  clear hb
  refine hK.out _ _ hS (fun _ => ?_)
  simp only [Act.put, List.setIfInBounds_toArray, List.set_cons_zero, List.set_cons_succ]
  clear hK K
  refine take_lawH 4 (some 22) (.tuple #[.slice none 0 0, .int .i64 2]) rfl rfl (by kernel_rfl) (by kernel_rfl) (by kernel_rfl) (fun _ _ _ h => h) (Or.inl ⟨by rfl, fun w' hw' => by rfl⟩) hS ?_
  simp only [Act.put, List.setIfInBounds_toArray, List.set_cons_zero, List.set_cons_succ]
  refine take_lawH 5 (some 27) (.slice none 0 0) rfl rfl (by kernel_rfl) (by kernel_rfl) (by kernel_rfl) (fun _ _ _ h => h) (Or.inl ⟨by rfl, fun w' hw' => by rfl⟩) hS ?_
  simp only [Act.put, List.setIfInBounds_toArray, List.set_cons_zero, List.set_cons_succ]
  refine take_lawH 6 (some 28) (.int .i64 2) rfl rfl (by kernel_rfl) (by kernel_rfl) (by kernel_rfl) (fun _ _ _ h => h) (Or.inl ⟨by rfl, fun w' hw' => by rfl⟩) hS ?_
  simp only [Act.put, List.setIfInBounds_toArray, List.set_cons_zero, List.set_cons_succ]
  refine take_lawH 7 (some 9) (.slice none 0 0) rfl rfl (by kernel_rfl) (by kernel_rfl) (by kernel_rfl) (fun _ _ _ h => h) (Or.inl ⟨by rfl, fun w' hw' => by rfl⟩) hS ?_
  simp only [Act.put, List.setIfInBounds_toArray, List.set_cons_zero, List.set_cons_succ]
  refine take_lawH 8 (some 10) (.int .i64 2) rfl rfl (by kernel_rfl) (by kernel_rfl) (by kernel_rfl) (fun _ _ _ h => h) (Or.inl ⟨by rfl, fun w' hw' => by rfl⟩) hS ?_
  simp only [Act.put, List.setIfInBounds_toArray, List.set_cons_zero, List.set_cons_succ]
  refine wpAnyH_done (by kernel_rfl) ?_ _
  have HB0 : Hid (Vr y3 w.heap.size (he.hv k n c l e t)) := HB0.out.below hS (range_lt HB0.out.1 (Nat.succ_pos _))
  have HB1 : Hid (Vr y3 w1.heap.size (he.hv kk nn cc ll ee tt)) := HB1.out.below hS (range_lt HB1.out.1 (Nat.succ_pos _))
  have BB : Hid (Below w.heap.size w y3) := BB.out.trans (hS.mono BB.out.size)
  clear hS
  have hb0_0 := HB0.out.cell 0 _ rfl
  have hb0_1 := HB0.out.cell 1 _ rfl
  have hb0_2 := HB0.out.cell 2 _ rfl
  have hb0_3 := HB0.out.cell 3 _ rfl
  have hb0_4 := HB0.out.cell 4 _ rfl
  have hb0_5 := HB0.out.cell 5 _ rfl
  have hb1_0 := HB1.out.cell 0 _ rfl
  have hb1_1 := HB1.out.cell 1 _ rfl
  have hb1_2 := HB1.out.cell 2 _ rfl
  have hb1_3 := HB1.out.cell 3 _ rfl
  have hb1_4 := HB1.out.cell 4 _ rfl
  have hb1_5 := HB1.out.cell 5 _ rfl
  have t50 : (1 : Nat) = 1 := rfl
  go_wp2_with (first
    | (have q52 := t52; go_at_call 8; refine (SR.out w91 _ _ (HB9.out.cell 0 _ rfl)).mono ?_; rintro e9 w92 ⟨rfl, B9⟩; have HB0 : Hid (Vr w92 w.heap.size (he.hv k n c l e t)) := HB0.out.below B9 (range_lt HB0.out.1 (Nat.succ_pos _)); have HB1 : Hid (Vr w92 w1.heap.size (he.hv kk nn cc ll ee tt)) := HB1.out.below B9 (range_lt HB1.out.1 (Nat.succ_pos _)); have HB9 : Hid (Vr w92 y3.heap.size ([.pointer none, .pointer none] : List Value)) := HB9.out.below B9 (range_lt HB9.out.1 (Nat.succ_pos _)); have BB : Hid (Below w.heap.size w w92) := BB.out.trans (B9.mono BB.out.size); clear hb0_0 hb0_1 hb0_2 hb0_3 hb0_4 hb0_5 hb1_0 hb1_1 hb1_2 hb1_3 hb1_4 hb1_5; have hb0_0 := HB0.out.cell 0 _ rfl; have hb0_1 := HB0.out.cell 1 _ rfl; have hb0_2 := HB0.out.cell 2 _ rfl; have hb0_3 := HB0.out.cell 3 _ rfl; have hb0_4 := HB0.out.cell 4 _ rfl; have hb0_5 := HB0.out.cell 5 _ rfl; have hb1_0 := HB1.out.cell 0 _ rfl; have hb1_1 := HB1.out.cell 1 _ rfl; have hb1_2 := HB1.out.cell 2 _ rfl; have hb1_3 := HB1.out.cell 3 _ rfl; have hb1_4 := HB1.out.cell 4 _ rfl; have hb1_5 := HB1.out.cell 5 _ rfl; clear B9; clear t52; have t53 : (1 : Nat) = 1 := rfl)
    | (have q51 := t51; refine box_lawC _ ([.pointer none, .pointer none] : List Value) rfl ?_; intro w91 X9 B9 l9; have HB0 : Hid (Vr w91 w.heap.size (he.hv k n c l e t)) := HB0.out.below B9 (range_lt HB0.out.1 (Nat.succ_pos _)); have HB1 : Hid (Vr w91 w1.heap.size (he.hv kk nn cc ll ee tt)) := HB1.out.below B9 (range_lt HB1.out.1 (Nat.succ_pos _)); have HB9 : Hid (Vr w91 y3.heap.size ([.pointer none, .pointer none] : List Value)) := X9; have BB : Hid (Below w.heap.size w w91) := BB.out.trans (B9.mono BB.out.size); clear hb0_0 hb0_1 hb0_2 hb0_3 hb0_4 hb0_5 hb1_0 hb1_1 hb1_2 hb1_3 hb1_4 hb1_5; have hb0_0 := HB0.out.cell 0 _ rfl; have hb0_1 := HB0.out.cell 1 _ rfl; have hb0_2 := HB0.out.cell 2 _ rfl; have hb0_3 := HB0.out.cell 3 _ rfl; have hb0_4 := HB0.out.cell 4 _ rfl; have hb0_5 := HB0.out.cell 5 _ rfl; have hb1_0 := HB1.out.cell 0 _ rfl; have hb1_1 := HB1.out.cell 1 _ rfl; have hb1_2 := HB1.out.cell 2 _ rfl; have hb1_3 := HB1.out.cell 3 _ rfl; have hb1_4 := HB1.out.cell 4 _ rfl; have hb1_5 := HB1.out.cell 5 _ rfl; clear X9 B9 l9; clear t51; have t52 : (1 : Nat) = 1 := rfl)
    | (have q50 := t50; refine build_law _ rfl 46 _ rfl (.agg #[.pointer none, .pointer none]) (by kernel_rfl) ?_; clear t50; have t51 : (1 : Nat) = 1 := rfl))
  clear hb0_0 hb0_1 hb0_2 hb0_3 hb0_4 hb0_5 hb1_0 hb1_1 hb1_2 hb1_3 hb1_4 hb1_5
  refine wp_region_held_drew (S := fun w' => Below w92.heap.size w92 w') (by kernel_rfl) (Below.refl _ _).drew (fun hS => ?_)
  obtain ⟨z1, hx0⟩ : ∃ x, x = w92.drew := ⟨_, rfl⟩
  rw [← hx0] at hS  ⊢
  clear hx0
  refine take_lawH 0 (some 48) (.agg (he.hv k n c l e t).toArray) rfl rfl (by kernel_rfl) (by kernel_rfl) (by kernel_rfl) (fun _ _ _ h => h) (Or.inl ⟨by rfl, fun w' hw' => by exact exec_loadN 26 (.tmp 2) rfl _ rfl _ _ (load_cells rowy_head (HB0.out.below hw' (range_lt HB0.out.1 (Nat.succ_pos _))).1)⟩) hS ?_
  simp only [Act.put, List.setIfInBounds_toArray, List.set_cons_zero, List.set_cons_succ]
  refine take_lawH 2 (some 50) (.agg (he.hv kk nn cc ll ee tt).toArray) rfl rfl (by kernel_rfl) (by kernel_rfl) (by kernel_rfl) (fun _ _ _ h => h) (Or.inl ⟨by rfl, fun w' hw' => by exact exec_loadN 26 (.tmp 3) rfl _ rfl _ _ (load_cells rowy_head (HB1.out.below hw' (range_lt HB1.out.1 (Nat.succ_pos _))).1)⟩) hS ?_
  simp only [Act.put, List.setIfInBounds_toArray, List.set_cons_zero, List.set_cons_succ]
  refine take_lawH 5 (some 53) (.bool b) rfl rfl (by kernel_rfl) (by kernel_rfl) (by kernel_rfl) (fun _ _ _ h => h) (Or.inl ⟨by rfl, fun w' hw' => by rfl⟩) hS ?_
  simp only [Act.put, List.setIfInBounds_toArray, List.set_cons_zero, List.set_cons_succ]
  refine wpAnyH_ready (rs := [1]) (by kernel_rfl) (by simp) ?_
  refine AllReadyH.cons rfl (fun K hK => ?_) AllReadyH.nil
  refine step_callW _ (by rfl) (some 49) rfl 10 #[.tmp 48] #[26] rfl (fun q w' => by rfl) #[.agg (he.hv k n c l e t).toArray] (by simp only [List.map_toArray, List.map_cons, List.map_nil]; rfl) (fun u w' => Byt w' u TA ∧ Below z1.heap.size z1 w') ?_ ?_
  · exact (ST.out z1).mono fun e w' ⟨r, h1, h2, h3⟩ => ⟨r, h1, h2, h3⟩
  rintro ta z2 ⟨y1, hb⟩
  have YA : Hid (Byt z2 ta TA) := y1
  clear y1
  have hS : Below w92.heap.size w92 z2 := hS.trans (hb.mono hS.size)
  clear hb
  refine hK.out _ _ hS (fun _ => ?_)
  simp only [Act.put, List.setIfInBounds_toArray, List.set_cons_zero, List.set_cons_succ]
  clear hK K
  refine wpAnyH_ready (rs := [3]) (by kernel_rfl) (by simp) ?_
  refine AllReadyH.cons rfl (fun K hK => ?_) AllReadyH.nil
  refine step_callW _ (by rfl) (some 51) rfl 10 #[.tmp 50] #[26] rfl (fun q w' => by rfl) #[.agg (he.hv kk nn cc ll ee tt).toArray] (by simp only [List.map_toArray, List.map_cons, List.map_nil]; rfl) (fun u w' => Byt w' u TB ∧ Below z2.heap.size z2 w') ?_ ?_
  · exact (SU.out z2).mono fun e w' ⟨r, h1, h2, h3⟩ => ⟨r, h1, h2, h3⟩
  rintro tb z3 ⟨y1, hb⟩
  have YB : Hid (Byt z3 tb TB) := y1
  have YA : Hid (Byt z3 ta TA) := YA.out.below hb
  clear y1
  have hS : Below w92.heap.size w92 z3 := hS.trans (hb.mono hS.size)
  clear hb
  refine hK.out _ _ hS (fun _ => ?_)
  simp only [Act.put, List.setIfInBounds_toArray, List.set_cons_zero, List.set_cons_succ]
  clear hK K
  refine wpAnyH_ready (rs := [4]) (by kernel_rfl) (by simp) ?_
  refine AllReadyH.cons rfl (fun K hK => ?_) AllReadyH.nil
  refine step_callW _ (by rfl) (some 52) rfl 9 #[.tmp 49, .tmp 51] #[22, 22] rfl (fun q w' => by rfl) #[ta, tb] (by simp only [List.map_toArray, List.map_cons, List.map_nil]; rfl) (fun u w' => u = .bool b ∧ Below z3.heap.size z3 w') ?_ ?_
  · exact (same_dec z3 _ _ TA TB YA.out YB.out).mono fun e w' ⟨h1, h2⟩ => ⟨_, h1, by rw [HD.out], h2⟩
  rintro _ z4 ⟨rfl, hb⟩
  have hS : Below w92.heap.size w92 z4 := hS.trans (hb.mono hS.size)
  clear hb
  refine hK.out _ _ hS (fun _ => ?_)
  simp only [Act.put, List.setIfInBounds_toArray, List.set_cons_zero, List.set_cons_succ]
  clear hK K
  refine take_lawH 6 (some 54) (.bool true) rfl rfl (by kernel_rfl) (by kernel_rfl) (by kernel_rfl) (fun _ _ _ h => h) (Or.inl ⟨by rfl, fun w' hw' => by cases b <;> rfl⟩) hS ?_
  simp only [Act.put, List.setIfInBounds_toArray, List.set_cons_zero, List.set_cons_succ]
  refine take_lawH 7 (some 55) (.bool true) rfl rfl (by kernel_rfl) (by kernel_rfl) (by kernel_rfl) (fun _ _ _ h => h) (Or.inl ⟨by rfl, fun w' hw' => by rfl⟩) hS ?_
  simp only [Act.put, List.setIfInBounds_toArray, List.set_cons_zero, List.set_cons_succ]
  refine take_lawH 8 (some 56) (.int .i64 2) rfl rfl (by kernel_rfl) (by kernel_rfl) (by kernel_rfl) (fun _ _ _ h => h) (Or.inl ⟨by rfl, fun w' hw' => by rfl⟩) hS ?_
  simp only [Act.put, List.setIfInBounds_toArray, List.set_cons_zero, List.set_cons_succ]
  refine take_lawH 9 (some 57) (.bool true) rfl rfl (by kernel_rfl) (by kernel_rfl) (by kernel_rfl) (fun _ _ _ h => h) (Or.inl ⟨by rfl, fun w' hw' => by rfl⟩) hS ?_
  simp only [Act.put, List.setIfInBounds_toArray, List.set_cons_zero, List.set_cons_succ]
  refine take_lawH 10 (some 58) (.bool true) rfl rfl (by kernel_rfl) (by kernel_rfl) (by kernel_rfl) (fun _ _ _ h => h) (Or.inl ⟨by rfl, fun w' hw' => by rfl⟩) hS ?_
  simp only [Act.put, List.setIfInBounds_toArray, List.set_cons_zero, List.set_cons_succ]
  refine take_lawH 11 (some 59) (.bool true) rfl rfl (by kernel_rfl) (by kernel_rfl) (by kernel_rfl) (fun _ _ _ h => h) (Or.inl ⟨by rfl, fun w' hw' => by rfl⟩) hS ?_
  simp only [Act.put, List.setIfInBounds_toArray, List.set_cons_zero, List.set_cons_succ]
  refine take_lawH 12 (some 60) (.int .i64 2) rfl rfl (by kernel_rfl) (by kernel_rfl) (by kernel_rfl) (fun _ _ _ h => h) (Or.inl ⟨by rfl, fun w' hw' => by rfl⟩) hS ?_
  simp only [Act.put, List.setIfInBounds_toArray, List.set_cons_zero, List.set_cons_succ]
  refine take_lawH 13 (some 61) (.bool true) rfl rfl (by kernel_rfl) (by kernel_rfl) (by kernel_rfl) (fun _ _ _ h => h) (Or.inl ⟨by rfl, fun w' hw' => by rfl⟩) hS ?_
  simp only [Act.put, List.setIfInBounds_toArray, List.set_cons_zero, List.set_cons_succ]
  refine take_lawH 14 (some 62) (.bool true) rfl rfl (by kernel_rfl) (by kernel_rfl) (by kernel_rfl) (fun _ _ _ h => h) (Or.inl ⟨by rfl, fun w' hw' => by rfl⟩) hS ?_
  simp only [Act.put, List.setIfInBounds_toArray, List.set_cons_zero, List.set_cons_succ]
  refine take_lawH 15 (some 63) (.bool true) rfl rfl (by kernel_rfl) (by kernel_rfl) (by kernel_rfl) (fun _ _ _ h => h) (Or.inl ⟨by rfl, fun w' hw' => by rfl⟩) hS ?_
  simp only [Act.put, List.setIfInBounds_toArray, List.set_cons_zero, List.set_cons_succ]
  refine take_lawH 16 (some 64) (.int .i64 2) rfl rfl (by kernel_rfl) (by kernel_rfl) (by kernel_rfl) (fun _ _ _ h => h) (Or.inl ⟨by rfl, fun w' hw' => by rfl⟩) hS ?_
  simp only [Act.put, List.setIfInBounds_toArray, List.set_cons_zero, List.set_cons_succ]
  refine take_lawH 17 (some 65) (.bool true) rfl rfl (by kernel_rfl) (by kernel_rfl) (by kernel_rfl) (fun _ _ _ h => h) (Or.inl ⟨by rfl, fun w' hw' => by rfl⟩) hS ?_
  simp only [Act.put, List.setIfInBounds_toArray, List.set_cons_zero, List.set_cons_succ]
  refine take_lawH 18 (some 66) (.bool true) rfl rfl (by kernel_rfl) (by kernel_rfl) (by kernel_rfl) (fun _ _ _ h => h) (Or.inl ⟨by rfl, fun w' hw' => by rfl⟩) hS ?_
  simp only [Act.put, List.setIfInBounds_toArray, List.set_cons_zero, List.set_cons_succ]
  refine take_lawH 19 (some 67) (.bool true) rfl rfl (by kernel_rfl) (by kernel_rfl) (by kernel_rfl) (fun _ _ _ h => h) (Or.inl ⟨by rfl, fun w' hw' => by rfl⟩) hS ?_
  simp only [Act.put, List.setIfInBounds_toArray, List.set_cons_zero, List.set_cons_succ]
  refine wpAnyH_ready (rs := [20]) (by kernel_rfl) (by simp) ?_
  refine AllReadyH.cons rfl (fun K hK => ?_) AllReadyH.nil
  refine step_callW _ (by rfl) (some 68) rfl 6 #[] #[] rfl (fun q w' => by rfl) #[] (by simp only [List.map_toArray, List.map_nil]) (fun u w' => u = .bool true ∧ Below z4.heap.size z4 w') ?_ ?_
  · exact (awake_any z4 (HT.out.below (BB.out.trans (hS.mono BB.out.size)))).mono fun e w' ⟨h1, h2⟩ => ⟨_, h1, rfl, h2⟩
  rintro _ z5 ⟨rfl, hb⟩
  have hS : Below w92.heap.size w92 z5 := hS.trans (hb.mono hS.size)
  clear hb
  refine hK.out _ _ hS (fun _ => ?_)
  simp only [Act.put, List.setIfInBounds_toArray, List.set_cons_zero, List.set_cons_succ]
  clear hK K
  refine take_lawH 21 (some 69) (.bool true) rfl rfl (by kernel_rfl) (by kernel_rfl) (by kernel_rfl) (fun _ _ _ h => h) (Or.inl ⟨by rfl, fun w' hw' => by rfl⟩) hS ?_
  simp only [Act.put, List.setIfInBounds_toArray, List.set_cons_zero, List.set_cons_succ]
  refine take_lawH 22 (some 4) (.bool true) rfl rfl (by kernel_rfl) (by kernel_rfl) (by kernel_rfl) (fun _ _ _ h => h) (Or.inl ⟨by rfl, fun w' hw' => by rfl⟩) hS ?_
  simp only [Act.put, List.setIfInBounds_toArray, List.set_cons_zero, List.set_cons_succ]
  refine wpAnyH_done (by kernel_rfl) ?_ _
  have BZ : Hid (Below w.heap.size w _) := BB.out.trans (hS.mono BB.out.size)
  clear hS
  go_wp2
  go_ret
  exact ⟨rfl, BZ.out⟩

set_option maxHeartbeats 8000000 in
theorem walk_0 (k n c l e t kk nn cc ll ee tt : Int) (w : World) (hT : Tab w) (hb1 : (e == ee) = false)
    (ST : Hid (∀ w0, Calls Tryd.prog 10 #[.agg (he.hv k n c l e t).toArray] w0 fun x w' => ∃ r, x = .returned r ∧ Byt w' r (twk e t) ∧ Below w0.heap.size w0 w')) (SU : Hid (∀ w0, Calls Tryd.prog 10 #[.agg (he.hv kk nn cc ll ee tt).toArray] w0 fun x w' => ∃ r, x = .returned r ∧ Byt w' r (twk ee tt) ∧ Below w0.heap.size w0 w')) (hd : decide (twk e t = twk ee tt) = false) :
    Calls Tryd.prog 5 #[.agg (he.hv k n c l e t).toArray, .agg (he.hv kk nn cc ll ee tt).toArray] w fun x w' => x = .returned (.bool true) ∧ Below w.heap.size w w' := by
  have HT : Hid (Tab w) := hT
  have HD : Hid (decide (twk e t = twk ee tt) = false) := hd
  have SZ : Hid (∀ w0 sv, Calls Tryd.prog 15 #[.pointer none, .agg (he.hv k n c l e t).toArray, sv] w0 fun x w' => x = .returned (.tuple #[.slice none 0 0, .slice none 0 0, .int .i64 2]) ∧ Below w0.heap.size w0 w') := fun w0 sv => zseal_err _ k n c l e t sv w0 fun w1 _ => zhead_nil k n c l e t w1
  have SO : Hid (∀ w0 sv tv, Calls Tryd.prog 16 #[.pointer none, .agg (he.hv k n c l e t).toArray, sv, tv] w0 fun x w' => x = .returned (.tuple #[.slice none 0 0, .int .i64 2]) ∧ Below w0.heap.size w0 w') := fun w0 sv tv => zopen_err _ k n c l e t sv tv w0 fun w1 _ => zhead_nil k n c l e t w1
  have SR : Hid (∀ w0 p sv, w0.cell? ⟨p, 0, none⟩ = some (.pointer none) → Calls Tryd.prog 8 #[.pointer (some ⟨p, 0, none⟩), .agg (he.hv k n c l e t).toArray, sv] w0 fun x w' => x = .returned (.tuple #[.slice none 0 0, .int .i64 2]) ∧ Below w0.heap.size w0 w') := fun w0 p sv hc => ztag_err _ k n c l e t sv w0 fun w1 hb => zhead_raw k n c l e t w1 p (by rw [hb.cell (World.block_lt_of_cell? w0 _ hc)]; exact hc)
  generalize hA : twk e t = TA at ST HD
  generalize hB : twk ee tt = TB at SU HD
  clear hT hd hA hB
  have t0 : (0 : Nat) = 0 := rfl
  go_enter Tryd.func5, Tryd.ntmps5
  go_wp2_with (first
    | (have q1 := t1; refine box_lawC _ (he.hv kk nn cc ll ee tt) rfl ?_; intro w2 X9 B9 l9; have HB0 : Hid (Vr w2 w.heap.size (he.hv k n c l e t)) := HB0.out.below B9 (range_lt HB0.out.1 (Nat.succ_pos _)); have HB1 : Hid (Vr w2 w1.heap.size (he.hv kk nn cc ll ee tt)) := X9; have BB : Hid (Below w.heap.size w w2) := BB.out.trans (B9.mono BB.out.size); have hb0_0 := HB0.out.cell 0 _ rfl; have hb0_1 := HB0.out.cell 1 _ rfl; have hb0_2 := HB0.out.cell 2 _ rfl; have hb0_3 := HB0.out.cell 3 _ rfl; have hb0_4 := HB0.out.cell 4 _ rfl; have hb0_5 := HB0.out.cell 5 _ rfl; have hb1_0 := HB1.out.cell 0 _ rfl; have hb1_1 := HB1.out.cell 1 _ rfl; have hb1_2 := HB1.out.cell 2 _ rfl; have hb1_3 := HB1.out.cell 3 _ rfl; have hb1_4 := HB1.out.cell 4 _ rfl; have hb1_5 := HB1.out.cell 5 _ rfl; clear X9 B9 l9; clear t1; have t2 : (1 : Nat) = 1 := rfl)
    | (have q0 := t0; refine box_lawC _ (he.hv k n c l e t) rfl ?_; intro w1 X9 B9 l9; have HB0 : Hid (Vr w1 w.heap.size (he.hv k n c l e t)) := X9; have BB : Hid (Below w.heap.size w w1) := B9; clear X9 B9 l9; clear t0; have t1 : (1 : Nat) = 1 := rfl))
  refine wp_region_held_drew (S := fun w' => Below w2.heap.size w2 w') (by kernel_rfl) (Below.refl _ _).drew (fun hS => ?_)
  obtain ⟨x1, hx0⟩ : ∃ x, x = w2.drew := ⟨_, rfl⟩
  rw [← hx0] at hS  ⊢
  clear hx0
  refine take_lawH 0 (some 15) (.pointer none) rfl rfl (by kernel_rfl) (by kernel_rfl) (by kernel_rfl) (fun _ _ _ h => h) (Or.inl ⟨by rfl, fun w' hw' => by rfl⟩) hS ?_
  simp only [Act.put, List.setIfInBounds_toArray, List.set_cons_zero, List.set_cons_succ]
  refine take_lawH 1 (some 16) (.agg (he.hv k n c l e t).toArray) rfl rfl (by kernel_rfl) (by kernel_rfl) (by kernel_rfl) (fun _ _ _ h => h) (Or.inl ⟨by rfl, fun w' hw' => by exact exec_loadN 26 (.tmp 2) rfl _ rfl _ _ (load_cells rowy_head (HB0.out.below hw' (range_lt HB0.out.1 (Nat.succ_pos _))).1)⟩) hS ?_
  simp only [Act.put, List.setIfInBounds_toArray, List.set_cons_zero, List.set_cons_succ]
  refine wpAnyH_ready (rs := [2]) (by kernel_rfl) (by simp) ?_
  refine AllReadyH.cons rfl (fun K hK => ?_) AllReadyH.nil
  refine step_make _ rfl (some 17) rfl (.const (.int .i64 16)) (.const (.int .i64 16)) rfl x1.heap.size (Nat.le_refl _) 16 16 rfl rfl rfl (by omega) ?_
  intro x2 o9 hb l9
  have hS : Below w2.heap.size w2 x2 := hS.trans (hb.mono hS.size)
  clear o9 hb l9
  refine hK.out _ _ hS (fun _ => ?_)
  simp only [Act.put, List.setIfInBounds_toArray, List.set_cons_zero, List.set_cons_succ]
  clear hK K
  refine wpAnyH_ready (rs := [3]) (by kernel_rfl) (by simp) ?_
  refine AllReadyH.cons rfl (fun K hK => ?_) AllReadyH.nil
  refine step_callW _ (by rfl) (some 18) rfl 15 #[.tmp 15, .tmp 16, .tmp 17] #[28, 26, 22] rfl (fun q w' => by rfl) #[.pointer none, .agg (he.hv k n c l e t).toArray, .slice (some ⟨x1.heap.size, 0, none⟩) 16 16] (by simp only [List.map_toArray, List.map_cons, List.map_nil]; rfl) (fun u w' => u = .tuple #[.slice none 0 0, .slice none 0 0, .int .i64 2] ∧ Below x2.heap.size x2 w') ?_ ?_
  · exact (SZ.out x2 _).mono fun _ _ ⟨h1, h2⟩ => ⟨_, h1, rfl, h2⟩
  rintro _ x3 ⟨rfl, hb⟩
  have hS : Below w2.heap.size w2 x3 := hS.trans (hb.mono hS.size)
  clear hb
  refine hK.out _ _ hS (fun _ => ?_)
  simp only [Act.put, List.setIfInBounds_toArray, List.set_cons_zero, List.set_cons_succ]
  clear hK K
  refine take_lawH 4 (some 14) (.tuple #[.slice none 0 0, .slice none 0 0, .int .i64 2]) rfl rfl (by kernel_rfl) (by kernel_rfl) (by kernel_rfl) (fun _ _ _ h => h) (Or.inl ⟨by rfl, fun w' hw' => by rfl⟩) hS ?_
  simp only [Act.put, List.setIfInBounds_toArray, List.set_cons_zero, List.set_cons_succ]
  refine take_lawH 5 (some 19) (.slice none 0 0) rfl rfl (by kernel_rfl) (by kernel_rfl) (by kernel_rfl) (fun _ _ _ h => h) (Or.inl ⟨by rfl, fun w' hw' => by rfl⟩) hS ?_
  simp only [Act.put, List.setIfInBounds_toArray, List.set_cons_zero, List.set_cons_succ]
  refine take_lawH 6 (some 20) (.slice none 0 0) rfl rfl (by kernel_rfl) (by kernel_rfl) (by kernel_rfl) (fun _ _ _ h => h) (Or.inl ⟨by rfl, fun w' hw' => by rfl⟩) hS ?_
  simp only [Act.put, List.setIfInBounds_toArray, List.set_cons_zero, List.set_cons_succ]
  refine take_lawH 7 (some 21) (.int .i64 2) rfl rfl (by kernel_rfl) (by kernel_rfl) (by kernel_rfl) (fun _ _ _ h => h) (Or.inl ⟨by rfl, fun w' hw' => by rfl⟩) hS ?_
  simp only [Act.put, List.setIfInBounds_toArray, List.set_cons_zero, List.set_cons_succ]
  refine take_lawH 8 (some 6) (.slice none 0 0) rfl rfl (by kernel_rfl) (by kernel_rfl) (by kernel_rfl) (fun _ _ _ h => h) (Or.inl ⟨by rfl, fun w' hw' => by rfl⟩) hS ?_
  simp only [Act.put, List.setIfInBounds_toArray, List.set_cons_zero, List.set_cons_succ]
  refine take_lawH 9 (some 7) (.slice none 0 0) rfl rfl (by kernel_rfl) (by kernel_rfl) (by kernel_rfl) (fun _ _ _ h => h) (Or.inl ⟨by rfl, fun w' hw' => by rfl⟩) hS ?_
  simp only [Act.put, List.setIfInBounds_toArray, List.set_cons_zero, List.set_cons_succ]
  refine take_lawH 10 (some 8) (.int .i64 2) rfl rfl (by kernel_rfl) (by kernel_rfl) (by kernel_rfl) (fun _ _ _ h => h) (Or.inl ⟨by rfl, fun w' hw' => by rfl⟩) hS ?_
  simp only [Act.put, List.setIfInBounds_toArray, List.set_cons_zero, List.set_cons_succ]
  refine wpAnyH_done (by kernel_rfl) ?_ _
  clear hb0_0 hb0_1 hb0_2 hb0_3 hb0_4 hb0_5 hb1_0 hb1_1 hb1_2 hb1_3 hb1_4 hb1_5
  have HB0 : Hid (Vr x3 w.heap.size (he.hv k n c l e t)) := HB0.out.below hS (range_lt HB0.out.1 (Nat.succ_pos _))
  have HB1 : Hid (Vr x3 w1.heap.size (he.hv kk nn cc ll ee tt)) := HB1.out.below hS (range_lt HB1.out.1 (Nat.succ_pos _))
  have BB : Hid (Below w.heap.size w x3) := BB.out.trans (hS.mono BB.out.size)
  clear hS
  go_wp2
  refine wp_region_held_drew (S := fun w' => Below x3.heap.size x3 w') (by kernel_rfl) (Below.refl _ _).drew (fun hS => ?_)
  obtain ⟨y1, hx0⟩ : ∃ x, x = x3.drew := ⟨_, rfl⟩
  rw [← hx0] at hS  ⊢
  clear hx0
  refine take_lawH 0 (some 23) (.pointer none) rfl rfl (by kernel_rfl) (by kernel_rfl) (by kernel_rfl) (fun _ _ _ h => h) (Or.inl ⟨by rfl, fun w' hw' => by rfl⟩) hS ?_
  simp only [Act.put, List.setIfInBounds_toArray, List.set_cons_zero, List.set_cons_succ]
  refine take_lawH 1 (some 24) (.agg (he.hv k n c l e t).toArray) rfl rfl (by kernel_rfl) (by kernel_rfl) (by kernel_rfl) (fun _ _ _ h => h) (Or.inl ⟨by rfl, fun w' hw' => by exact exec_loadN 26 (.tmp 2) rfl _ rfl _ _ (load_cells rowy_head (HB0.out.below hw' (range_lt HB0.out.1 (Nat.succ_pos _))).1)⟩) hS ?_
  simp only [Act.put, List.setIfInBounds_toArray, List.set_cons_zero, List.set_cons_succ]
  refine wpAnyH_ready (rs := [2]) (by kernel_rfl) (by simp) ?_
  refine AllReadyH.cons rfl (fun K hK => ?_) AllReadyH.nil
  refine step_make _ rfl (some 25) rfl (.const (.int .i64 16)) (.const (.int .i64 16)) rfl y1.heap.size (Nat.le_refl _) 16 16 rfl rfl rfl (by omega) ?_
  intro y2 o9 hb l9
  have hS : Below x3.heap.size x3 y2 := hS.trans (hb.mono hS.size)
  clear o9 hb l9
  refine hK.out _ _ hS (fun _ => ?_)
  simp only [Act.put, List.setIfInBounds_toArray, List.set_cons_zero, List.set_cons_succ]
  clear hK K
  refine wpAnyH_ready (rs := [3]) (by kernel_rfl) (by simp) ?_
  refine AllReadyH.cons rfl (fun K hK => ?_) AllReadyH.nil
  refine step_callW _ (by rfl) (some 26) rfl 16 #[.tmp 23, .tmp 24, .tmp 25, .const (.slice none 0 0)] #[28, 26, 22, 22] rfl (fun q w' => by rfl) #[.pointer none, .agg (he.hv k n c l e t).toArray, .slice (some ⟨y1.heap.size, 0, none⟩) 16 16, .slice none 0 0] (by simp only [List.map_toArray, List.map_cons, List.map_nil]; rfl) (fun u w' => u = .tuple #[.slice none 0 0, .int .i64 2] ∧ Below y2.heap.size y2 w') ?_ ?_
  · exact (SO.out y2 _ _).mono fun _ _ ⟨h1, h2⟩ => ⟨_, h1, rfl, h2⟩
  rintro _ y3 ⟨rfl, hb⟩
  have hS : Below x3.heap.size x3 y3 := hS.trans (hb.mono hS.size)
  clear hb
  refine hK.out _ _ hS (fun _ => ?_)
  simp only [Act.put, List.setIfInBounds_toArray, List.set_cons_zero, List.set_cons_succ]
  clear hK K
  refine take_lawH 4 (some 22) (.tuple #[.slice none 0 0, .int .i64 2]) rfl rfl (by kernel_rfl) (by kernel_rfl) (by kernel_rfl) (fun _ _ _ h => h) (Or.inl ⟨by rfl, fun w' hw' => by rfl⟩) hS ?_
  simp only [Act.put, List.setIfInBounds_toArray, List.set_cons_zero, List.set_cons_succ]
  refine take_lawH 5 (some 27) (.slice none 0 0) rfl rfl (by kernel_rfl) (by kernel_rfl) (by kernel_rfl) (fun _ _ _ h => h) (Or.inl ⟨by rfl, fun w' hw' => by rfl⟩) hS ?_
  simp only [Act.put, List.setIfInBounds_toArray, List.set_cons_zero, List.set_cons_succ]
  refine take_lawH 6 (some 28) (.int .i64 2) rfl rfl (by kernel_rfl) (by kernel_rfl) (by kernel_rfl) (fun _ _ _ h => h) (Or.inl ⟨by rfl, fun w' hw' => by rfl⟩) hS ?_
  simp only [Act.put, List.setIfInBounds_toArray, List.set_cons_zero, List.set_cons_succ]
  refine take_lawH 7 (some 9) (.slice none 0 0) rfl rfl (by kernel_rfl) (by kernel_rfl) (by kernel_rfl) (fun _ _ _ h => h) (Or.inl ⟨by rfl, fun w' hw' => by rfl⟩) hS ?_
  simp only [Act.put, List.setIfInBounds_toArray, List.set_cons_zero, List.set_cons_succ]
  refine take_lawH 8 (some 10) (.int .i64 2) rfl rfl (by kernel_rfl) (by kernel_rfl) (by kernel_rfl) (fun _ _ _ h => h) (Or.inl ⟨by rfl, fun w' hw' => by rfl⟩) hS ?_
  simp only [Act.put, List.setIfInBounds_toArray, List.set_cons_zero, List.set_cons_succ]
  refine wpAnyH_done (by kernel_rfl) ?_ _
  have HB0 : Hid (Vr y3 w.heap.size (he.hv k n c l e t)) := HB0.out.below hS (range_lt HB0.out.1 (Nat.succ_pos _))
  have HB1 : Hid (Vr y3 w1.heap.size (he.hv kk nn cc ll ee tt)) := HB1.out.below hS (range_lt HB1.out.1 (Nat.succ_pos _))
  have BB : Hid (Below w.heap.size w y3) := BB.out.trans (hS.mono BB.out.size)
  clear hS
  have hb0_0 := HB0.out.cell 0 _ rfl
  have hb0_1 := HB0.out.cell 1 _ rfl
  have hb0_2 := HB0.out.cell 2 _ rfl
  have hb0_3 := HB0.out.cell 3 _ rfl
  have hb0_4 := HB0.out.cell 4 _ rfl
  have hb0_5 := HB0.out.cell 5 _ rfl
  have hb1_0 := HB1.out.cell 0 _ rfl
  have hb1_1 := HB1.out.cell 1 _ rfl
  have hb1_2 := HB1.out.cell 2 _ rfl
  have hb1_3 := HB1.out.cell 3 _ rfl
  have hb1_4 := HB1.out.cell 4 _ rfl
  have hb1_5 := HB1.out.cell 5 _ rfl
  have t50 : (1 : Nat) = 1 := rfl
  go_wp2_with (first
    | (have q52 := t52; go_at_call 8; refine (SR.out w91 _ _ (HB9.out.cell 0 _ rfl)).mono ?_; rintro e9 w92 ⟨rfl, B9⟩; have HB0 : Hid (Vr w92 w.heap.size (he.hv k n c l e t)) := HB0.out.below B9 (range_lt HB0.out.1 (Nat.succ_pos _)); have HB1 : Hid (Vr w92 w1.heap.size (he.hv kk nn cc ll ee tt)) := HB1.out.below B9 (range_lt HB1.out.1 (Nat.succ_pos _)); have HB9 : Hid (Vr w92 y3.heap.size ([.pointer none, .pointer none] : List Value)) := HB9.out.below B9 (range_lt HB9.out.1 (Nat.succ_pos _)); have BB : Hid (Below w.heap.size w w92) := BB.out.trans (B9.mono BB.out.size); clear hb0_0 hb0_1 hb0_2 hb0_3 hb0_4 hb0_5 hb1_0 hb1_1 hb1_2 hb1_3 hb1_4 hb1_5; have hb0_0 := HB0.out.cell 0 _ rfl; have hb0_1 := HB0.out.cell 1 _ rfl; have hb0_2 := HB0.out.cell 2 _ rfl; have hb0_3 := HB0.out.cell 3 _ rfl; have hb0_4 := HB0.out.cell 4 _ rfl; have hb0_5 := HB0.out.cell 5 _ rfl; have hb1_0 := HB1.out.cell 0 _ rfl; have hb1_1 := HB1.out.cell 1 _ rfl; have hb1_2 := HB1.out.cell 2 _ rfl; have hb1_3 := HB1.out.cell 3 _ rfl; have hb1_4 := HB1.out.cell 4 _ rfl; have hb1_5 := HB1.out.cell 5 _ rfl; clear B9; clear t52; have t53 : (1 : Nat) = 1 := rfl)
    | (have q51 := t51; refine box_lawC _ ([.pointer none, .pointer none] : List Value) rfl ?_; intro w91 X9 B9 l9; have HB0 : Hid (Vr w91 w.heap.size (he.hv k n c l e t)) := HB0.out.below B9 (range_lt HB0.out.1 (Nat.succ_pos _)); have HB1 : Hid (Vr w91 w1.heap.size (he.hv kk nn cc ll ee tt)) := HB1.out.below B9 (range_lt HB1.out.1 (Nat.succ_pos _)); have HB9 : Hid (Vr w91 y3.heap.size ([.pointer none, .pointer none] : List Value)) := X9; have BB : Hid (Below w.heap.size w w91) := BB.out.trans (B9.mono BB.out.size); clear hb0_0 hb0_1 hb0_2 hb0_3 hb0_4 hb0_5 hb1_0 hb1_1 hb1_2 hb1_3 hb1_4 hb1_5; have hb0_0 := HB0.out.cell 0 _ rfl; have hb0_1 := HB0.out.cell 1 _ rfl; have hb0_2 := HB0.out.cell 2 _ rfl; have hb0_3 := HB0.out.cell 3 _ rfl; have hb0_4 := HB0.out.cell 4 _ rfl; have hb0_5 := HB0.out.cell 5 _ rfl; have hb1_0 := HB1.out.cell 0 _ rfl; have hb1_1 := HB1.out.cell 1 _ rfl; have hb1_2 := HB1.out.cell 2 _ rfl; have hb1_3 := HB1.out.cell 3 _ rfl; have hb1_4 := HB1.out.cell 4 _ rfl; have hb1_5 := HB1.out.cell 5 _ rfl; clear X9 B9 l9; clear t51; have t52 : (1 : Nat) = 1 := rfl)
    | (have q50 := t50; refine build_law _ rfl 46 _ rfl (.agg #[.pointer none, .pointer none]) (by kernel_rfl) ?_; clear t50; have t51 : (1 : Nat) = 1 := rfl))
  clear hb0_0 hb0_1 hb0_2 hb0_3 hb0_4 hb0_5 hb1_0 hb1_1 hb1_2 hb1_3 hb1_4 hb1_5
  refine wp_region_held_drew (S := fun w' => Below w92.heap.size w92 w') (by kernel_rfl) (Below.refl _ _).drew (fun hS => ?_)
  obtain ⟨z1, hx0⟩ : ∃ x, x = w92.drew := ⟨_, rfl⟩
  rw [← hx0] at hS  ⊢
  clear hx0
  refine take_lawH 0 (some 48) (.agg (he.hv k n c l e t).toArray) rfl rfl (by kernel_rfl) (by kernel_rfl) (by kernel_rfl) (fun _ _ _ h => h) (Or.inl ⟨by rfl, fun w' hw' => by exact exec_loadN 26 (.tmp 2) rfl _ rfl _ _ (load_cells rowy_head (HB0.out.below hw' (range_lt HB0.out.1 (Nat.succ_pos _))).1)⟩) hS ?_
  simp only [Act.put, List.setIfInBounds_toArray, List.set_cons_zero, List.set_cons_succ]
  refine take_lawH 2 (some 50) (.agg (he.hv kk nn cc ll ee tt).toArray) rfl rfl (by kernel_rfl) (by kernel_rfl) (by kernel_rfl) (fun _ _ _ h => h) (Or.inl ⟨by rfl, fun w' hw' => by exact exec_loadN 26 (.tmp 3) rfl _ rfl _ _ (load_cells rowy_head (HB1.out.below hw' (range_lt HB1.out.1 (Nat.succ_pos _))).1)⟩) hS ?_
  simp only [Act.put, List.setIfInBounds_toArray, List.set_cons_zero, List.set_cons_succ]
  refine take_lawH 5 (some 53) (.bool false) rfl rfl (by kernel_rfl) (by kernel_rfl) (by kernel_rfl) (fun _ _ _ h => h) (Or.inl ⟨by rfl, fun w' hw' => by rfl⟩) hS ?_
  simp only [Act.put, List.setIfInBounds_toArray, List.set_cons_zero, List.set_cons_succ]
  refine wpAnyH_ready (rs := [1]) (by kernel_rfl) (by simp) ?_
  refine AllReadyH.cons rfl (fun K hK => ?_) AllReadyH.nil
  refine step_callW _ (by rfl) (some 49) rfl 10 #[.tmp 48] #[26] rfl (fun q w' => by rfl) #[.agg (he.hv k n c l e t).toArray] (by simp only [List.map_toArray, List.map_cons, List.map_nil]; rfl) (fun u w' => Byt w' u TA ∧ Below z1.heap.size z1 w') ?_ ?_
  · exact (ST.out z1).mono fun e w' ⟨r, h1, h2, h3⟩ => ⟨r, h1, h2, h3⟩
  rintro ta z2 ⟨y1, hb⟩
  have YA : Hid (Byt z2 ta TA) := y1
  clear y1
  have hS : Below w92.heap.size w92 z2 := hS.trans (hb.mono hS.size)
  clear hb
  refine hK.out _ _ hS (fun _ => ?_)
  simp only [Act.put, List.setIfInBounds_toArray, List.set_cons_zero, List.set_cons_succ]
  clear hK K
  refine wpAnyH_ready (rs := [3]) (by kernel_rfl) (by simp) ?_
  refine AllReadyH.cons rfl (fun K hK => ?_) AllReadyH.nil
  refine step_callW _ (by rfl) (some 51) rfl 10 #[.tmp 50] #[26] rfl (fun q w' => by rfl) #[.agg (he.hv kk nn cc ll ee tt).toArray] (by simp only [List.map_toArray, List.map_cons, List.map_nil]; rfl) (fun u w' => Byt w' u TB ∧ Below z2.heap.size z2 w') ?_ ?_
  · exact (SU.out z2).mono fun e w' ⟨r, h1, h2, h3⟩ => ⟨r, h1, h2, h3⟩
  rintro tb z3 ⟨y1, hb⟩
  have YB : Hid (Byt z3 tb TB) := y1
  have YA : Hid (Byt z3 ta TA) := YA.out.below hb
  clear y1
  have hS : Below w92.heap.size w92 z3 := hS.trans (hb.mono hS.size)
  clear hb
  refine hK.out _ _ hS (fun _ => ?_)
  simp only [Act.put, List.setIfInBounds_toArray, List.set_cons_zero, List.set_cons_succ]
  clear hK K
  refine wpAnyH_ready (rs := [4]) (by kernel_rfl) (by simp) ?_
  refine AllReadyH.cons rfl (fun K hK => ?_) AllReadyH.nil
  refine step_callW _ (by rfl) (some 52) rfl 9 #[.tmp 49, .tmp 51] #[22, 22] rfl (fun q w' => by rfl) #[ta, tb] (by simp only [List.map_toArray, List.map_cons, List.map_nil]; rfl) (fun u w' => u = .bool false ∧ Below z3.heap.size z3 w') ?_ ?_
  · exact (same_dec z3 _ _ TA TB YA.out YB.out).mono fun e w' ⟨h1, h2⟩ => ⟨_, h1, by rw [HD.out], h2⟩
  rintro _ z4 ⟨rfl, hb⟩
  have hS : Below w92.heap.size w92 z4 := hS.trans (hb.mono hS.size)
  clear hb
  refine hK.out _ _ hS (fun _ => ?_)
  simp only [Act.put, List.setIfInBounds_toArray, List.set_cons_zero, List.set_cons_succ]
  clear hK K
  refine take_lawH 6 (some 54) (.bool true) rfl rfl (by kernel_rfl) (by kernel_rfl) (by kernel_rfl) (fun _ _ _ h => h) (Or.inl ⟨by rfl, fun w' hw' => by rfl⟩) hS ?_
  simp only [Act.put, List.setIfInBounds_toArray, List.set_cons_zero, List.set_cons_succ]
  refine take_lawH 7 (some 55) (.bool true) rfl rfl (by kernel_rfl) (by kernel_rfl) (by kernel_rfl) (fun _ _ _ h => h) (Or.inl ⟨by rfl, fun w' hw' => by rfl⟩) hS ?_
  simp only [Act.put, List.setIfInBounds_toArray, List.set_cons_zero, List.set_cons_succ]
  refine take_lawH 8 (some 56) (.int .i64 2) rfl rfl (by kernel_rfl) (by kernel_rfl) (by kernel_rfl) (fun _ _ _ h => h) (Or.inl ⟨by rfl, fun w' hw' => by rfl⟩) hS ?_
  simp only [Act.put, List.setIfInBounds_toArray, List.set_cons_zero, List.set_cons_succ]
  refine take_lawH 9 (some 57) (.bool true) rfl rfl (by kernel_rfl) (by kernel_rfl) (by kernel_rfl) (fun _ _ _ h => h) (Or.inl ⟨by rfl, fun w' hw' => by rfl⟩) hS ?_
  simp only [Act.put, List.setIfInBounds_toArray, List.set_cons_zero, List.set_cons_succ]
  refine take_lawH 10 (some 58) (.bool true) rfl rfl (by kernel_rfl) (by kernel_rfl) (by kernel_rfl) (fun _ _ _ h => h) (Or.inl ⟨by rfl, fun w' hw' => by rfl⟩) hS ?_
  simp only [Act.put, List.setIfInBounds_toArray, List.set_cons_zero, List.set_cons_succ]
  refine take_lawH 11 (some 59) (.bool true) rfl rfl (by kernel_rfl) (by kernel_rfl) (by kernel_rfl) (fun _ _ _ h => h) (Or.inl ⟨by rfl, fun w' hw' => by rfl⟩) hS ?_
  simp only [Act.put, List.setIfInBounds_toArray, List.set_cons_zero, List.set_cons_succ]
  refine take_lawH 12 (some 60) (.int .i64 2) rfl rfl (by kernel_rfl) (by kernel_rfl) (by kernel_rfl) (fun _ _ _ h => h) (Or.inl ⟨by rfl, fun w' hw' => by rfl⟩) hS ?_
  simp only [Act.put, List.setIfInBounds_toArray, List.set_cons_zero, List.set_cons_succ]
  refine take_lawH 13 (some 61) (.bool true) rfl rfl (by kernel_rfl) (by kernel_rfl) (by kernel_rfl) (fun _ _ _ h => h) (Or.inl ⟨by rfl, fun w' hw' => by rfl⟩) hS ?_
  simp only [Act.put, List.setIfInBounds_toArray, List.set_cons_zero, List.set_cons_succ]
  refine take_lawH 14 (some 62) (.bool true) rfl rfl (by kernel_rfl) (by kernel_rfl) (by kernel_rfl) (fun _ _ _ h => h) (Or.inl ⟨by rfl, fun w' hw' => by rfl⟩) hS ?_
  simp only [Act.put, List.setIfInBounds_toArray, List.set_cons_zero, List.set_cons_succ]
  refine take_lawH 15 (some 63) (.bool true) rfl rfl (by kernel_rfl) (by kernel_rfl) (by kernel_rfl) (fun _ _ _ h => h) (Or.inl ⟨by rfl, fun w' hw' => by rfl⟩) hS ?_
  simp only [Act.put, List.setIfInBounds_toArray, List.set_cons_zero, List.set_cons_succ]
  refine take_lawH 16 (some 64) (.int .i64 2) rfl rfl (by kernel_rfl) (by kernel_rfl) (by kernel_rfl) (fun _ _ _ h => h) (Or.inl ⟨by rfl, fun w' hw' => by rfl⟩) hS ?_
  simp only [Act.put, List.setIfInBounds_toArray, List.set_cons_zero, List.set_cons_succ]
  refine take_lawH 17 (some 65) (.bool true) rfl rfl (by kernel_rfl) (by kernel_rfl) (by kernel_rfl) (fun _ _ _ h => h) (Or.inl ⟨by rfl, fun w' hw' => by rfl⟩) hS ?_
  simp only [Act.put, List.setIfInBounds_toArray, List.set_cons_zero, List.set_cons_succ]
  refine take_lawH 18 (some 66) (.bool true) rfl rfl (by kernel_rfl) (by kernel_rfl) (by kernel_rfl) (fun _ _ _ h => h) (Or.inl ⟨by rfl, fun w' hw' => by rfl⟩) hS ?_
  simp only [Act.put, List.setIfInBounds_toArray, List.set_cons_zero, List.set_cons_succ]
  refine take_lawH 19 (some 67) (.bool true) rfl rfl (by kernel_rfl) (by kernel_rfl) (by kernel_rfl) (fun _ _ _ h => h) (Or.inl ⟨by rfl, fun w' hw' => by rfl⟩) hS ?_
  simp only [Act.put, List.setIfInBounds_toArray, List.set_cons_zero, List.set_cons_succ]
  refine wpAnyH_ready (rs := [20]) (by kernel_rfl) (by simp) ?_
  refine AllReadyH.cons rfl (fun K hK => ?_) AllReadyH.nil
  refine step_callW _ (by rfl) (some 68) rfl 6 #[] #[] rfl (fun q w' => by rfl) #[] (by simp only [List.map_toArray, List.map_nil]) (fun u w' => u = .bool true ∧ Below z4.heap.size z4 w') ?_ ?_
  · exact (awake_any z4 (HT.out.below (BB.out.trans (hS.mono BB.out.size)))).mono fun e w' ⟨h1, h2⟩ => ⟨_, h1, rfl, h2⟩
  rintro _ z5 ⟨rfl, hb⟩
  have hS : Below w92.heap.size w92 z5 := hS.trans (hb.mono hS.size)
  clear hb
  refine hK.out _ _ hS (fun _ => ?_)
  simp only [Act.put, List.setIfInBounds_toArray, List.set_cons_zero, List.set_cons_succ]
  clear hK K
  refine take_lawH 21 (some 69) (.bool true) rfl rfl (by kernel_rfl) (by kernel_rfl) (by kernel_rfl) (fun _ _ _ h => h) (Or.inl ⟨by rfl, fun w' hw' => by rfl⟩) hS ?_
  simp only [Act.put, List.setIfInBounds_toArray, List.set_cons_zero, List.set_cons_succ]
  refine take_lawH 22 (some 4) (.bool true) rfl rfl (by kernel_rfl) (by kernel_rfl) (by kernel_rfl) (fun _ _ _ h => h) (Or.inl ⟨by rfl, fun w' hw' => by rfl⟩) hS ?_
  simp only [Act.put, List.setIfInBounds_toArray, List.set_cons_zero, List.set_cons_succ]
  refine wpAnyH_done (by kernel_rfl) ?_ _
  have BZ : Hid (Below w.heap.size w _) := BB.out.trans (hS.mono BB.out.size)
  clear hS
  go_wp2
  go_ret
  exact ⟨rfl, BZ.out⟩

theorem walk (k n c l e t kk nn cc ll ee tt : Int) (w : World) (hH : Hb l e t) (hG : Hb ll ee tt) (hT : Tab w) :
    Calls Tryd.prog 5 #[.agg (he.hv k n c l e t).toArray, .agg (he.hv kk nn cc ll ee tt).toArray] w fun x w' => x = .returned (.bool true) ∧ Below w.heap.size w w' := by
  have z := twk_only (e := e) (t := t) (e' := ee) (t' := tt) ⟨by omega, hH.2⟩ ⟨by omega, hG.2⟩
  by_cases h1 : e = ee
  · refine walk_1 k n c l e t kk nn cc ll ee tt w hT (t == tt) (by simp [h1]) rfl (fun w0 => ztweak_any k n c l e t w0 hH) (fun w0 => ztweak_any kk nn cc ll ee tt w0 hG) ?_
    rw [Bool.eq_iff_iff, decide_eq_true_iff, z]
    simp [h1]
  · exact walk_0 k n c l e t kk nn cc ll ee tt w hT (by simp [h1]) (fun w0 => ztweak_any k n c l e t w0 hH) (fun w0 => ztweak_any kk nn cc ll ee tt w0 hG) (decide_eq_false fun q => h1 (z.1 q).1)

theorem params : ∀ t ∈ Tryd.f5.params.toList, Tryd.prog.readableRec t = true ∧ t < Tryd.prog.types.size := by
  rw [Tryd.params5]
  intro t ht
  simp at ht
  subst ht
  exact ⟨by kernel_rfl, of_decide_eq_true (by kernel_rfl)⟩

theorem contract (H : Type) (enc : TypeId × Value → H) (W : World) (base : Nat) (args : Array Value) (ds gs : List (DataW H)) (before : List MemPlace)
    (hval : ∀ (j : Nat) t v, Tryd.f5.params[j]? = some t → args[j]? = some v → Value.okWide Tryd.prog W .any base t v)
    (hW : DataW.Whole enc Tryd.prog Tryd.f5.params.toList Rows.sealTweaksSpec.vars false W args.toList ds gs before) (hL : laidMetH Tryd.prog Rows.sealTweaksRow.laid W) :
    Calls Tryd.prog 5 args W fun e W' => ∃ v, e = .returned v ∧ Rows.sealTweaksSpec.post enc Tryd.prog Tryd.f5 false true false false W args v W' := by
  have hW' := hW
  obtain ⟨p, q, hA0, hV, rfl, hfz, hnd⟩ := hW
  have hA : DataW.TrodAll enc Tryd.prog W 0 (fun _ => true) true Tryd.f5.params.toList args.toList ds p := hA0
  rw [Tryd.params5] at hA hval
  obtain ⟨v0, v1, d0, d1, p0, p1, rfl, rfl, rfl, h0, h1⟩ := trodAll_two hA
  obtain ⟨rfl, rfl⟩ := trodVars_none hV
  obtain ⟨hk0, hn0, hc0, hl0, he0, ht0, rfl, hf0⟩ := head_open (hval 0 26 v0 rfl rfl) h0
  obtain ⟨hk1, hn1, hc1, hl1, he1, ht1, rfl, hf1⟩ := head_open (hval 1 26 v1 rfl rfl) h1
  clear hA0
  refine (walk hk0 hn0 hc0 hl0 he0 ht0 hk1 hn1 hc1 hl1 he1 ht1 W hf0 hf1 (table hL)).mono fun e W' ⟨he, hg⟩ => ?_
  subst he
  exact ⟨_, rfl, post_law rfl (by kernel_rfl) params rfl rfl rfl hW' hg⟩

theorem laid_met (os : Os) : laidMet Tryd.prog Rows.sealTweaksRow.laid (({ World.holding Tryd.prog os ⟨#[], #[], []⟩ with heap := (World.holding Tryd.prog os ⟨#[], #[], []⟩).heap.modify 0 fun | .cells _ t frozen => .cells #[.int .i64 1, .int .i64 1, .int .i64 1, .int .i64 1, .int .i64 4, .int .i64 8, .int .i64 8] t frozen | o => o } : World).forCall (fun _ _ => 0) ⟨#[], #[.agg #[.int .i64 0, .int .i64 0, .int .i64 0, .int .u32 0, .int .u64 0, .int .u64 0], .agg #[.int .i64 0, .int .i64 0, .int .i64 0, .int .u32 0, .int .u64 0, .int .u64 0]], []⟩).memory :=
  laidMet_of_run' 8 (by kernel_rfl) (by kernel_rfl)
theorem reads (os : Os) {H : Type} (enc : TypeId × Value → H) : ∃ places, DataW.whole enc Tryd.prog (({ World.holding Tryd.prog os ⟨#[], #[], []⟩ with heap := (World.holding Tryd.prog os ⟨#[], #[], []⟩).heap.modify 0 fun | .cells _ t frozen => .cells #[.int .i64 1, .int .i64 1, .int .i64 1, .int .i64 1, .int .i64 4, .int .i64 8, .int .i64 8] t frozen | o => o } : World).forCall (fun _ _ => 0) ⟨#[], #[.agg #[.int .i64 0, .int .i64 0, .int .i64 0, .int .u32 0, .int .u64 0, .int .u64 0], .agg #[.int .i64 0, .int .i64 0, .int .i64 0, .int .u32 0, .int .u64 0, .int .u64 0]], []⟩).memory Tryd.f5.params.toList Rows.sealTweaksSpec.vars false #[Value.agg #[.int .i64 0, .int .i64 0, .int .i64 0, .int .u32 0, .int .u64 0, .int .u64 0], Value.agg #[.int .i64 0, .int .i64 0, .int .i64 0, .int .u32 0, .int .u64 0, .int .u64 0]].toList 8 = some ([.agg [.lit (.int .i64 0), .lit (.int .i64 0), .lit (.int .i64 0), .lit (.int .u32 0), .lit (.int .u64 0), .lit (.int .u64 0)], .agg [.lit (.int .i64 0), .lit (.int .i64 0), .lit (.int .i64 0), .lit (.int .u32 0), .lit (.int .u64 0), .lit (.int .u64 0)]], [], places) :=
  ⟨[], by kernel_rfl⟩

set_option maxRecDepth 100000 in
theorem lifted (os : Os) (started : os.Started) (H : Type) (enc : TypeId × Value → H) (F : Stop.Interp) :
    ReturnsInHanded {} Tryd.checked os 5 .any ((OpenSpec.ofChange Rows.sealTweaksSpec).preRow enc Tryd.prog Tryd.f5 Rows.sealTweaksRow.domain false Rows.sealTweaksRow.laid) (((OpenSpec.ofChange Rows.sealTweaksSpec).at F).post enc Tryd.prog Tryd.f5 false true false false) := by
  obtain ⟨places, hx⟩ := reads os enc
  refine returnsInHanded_of_row (C := Tryd.checked) (s := OpenSpec.ofChange Rows.sealTweaksSpec) own started (by kernel_rfl) Tryd.func5
    (witness_row_at (enc := enc) (C := Tryd.checked) false ({ World.holding Tryd.prog os ⟨#[], #[], []⟩ with heap := (World.holding Tryd.prog os ⟨#[], #[], []⟩).heap.modify 0 fun | .cells _ t frozen => .cells #[.int .i64 1, .int .i64 1, .int .i64 1, .int .i64 1, .int .i64 4, .int .i64 8, .int .i64 8] t frozen | o => o } : World) #[.agg #[.int .i64 0, .int .i64 0, .int .i64 0, .int .u32 0, .int .u64 0, .int .u64 0], .agg #[.int .i64 0, .int .i64 0, .int .i64 0, .int .u32 0, .int .u64 0, .int .u64 0]] rfl (by kernel_rfl) (by kernel_rfl) (by kernel_rfl)
      (OpenSpec.preRow_of_cond 8 hx (by kernel_rfl) (fun k hk => by cases hk) (by kernel_rfl) (laid_met os))) ?_
  intro W base args ds gs before hval hW _ _ _ hL _ _
  exact contract H enc W base args ds gs before hval hW hL

theorem said : Rows.SealTweaksSaid :=
  OpenClaim.holds_of_cond 5 Tryd.f5 rfl rfl rfl rfl rfl rfl rfl ⟨rfl, rfl, rfl, rfl, rfl⟩ rfl rfl rfl rfl rfl (by kernel_rfl) Tryd.func5 (by kernel_rfl)
    (of_decide_eq_true (by kernel_rfl)) (by unfold Func.isWrapper; first | (rw [if_pos (by decide +kernel)]; kernel_rfl) | (rw [if_neg (by decide +kernel)]; exact ⟨rfl, rfl⟩))
    (fun os started H enc _ F => by rw [OpenClaim.pre_eq_preRow]; exact lifted os started H enc F)

theorem plain (f : FuncId) (fn : Func) (hf : Tryd.pinned.checked.prog.funcNamed "nepenthe/nepenthelaw16.SealTweaks" = some f) (hfn : Tryd.pinned.checked.prog.funcs[f]? = some fn) :
    false = Tryd.pinned.checked.prog.looks [] ∧ ∀ (j : Nat) t, fn.params[j]? = some t → Tryd.pinned.checked.prog.wantsStandIn t = false := by
  obtain rfl : f = 5 := Option.some.inj ((show Tryd.prog.funcNamed "nepenthe/nepenthelaw16.SealTweaks" = some 5 by kernel_rfl).symm.trans hf) |>.symm
  obtain rfl : fn = Tryd.f5 := (Option.some.inj (Tryd.func5.symm.trans hfn)).symm
  refine ⟨by kernel_rfl, fun j t ht => ?_⟩
  rw [Tryd.params5] at ht
  have hm := Array.mem_of_getElem? ht
  simp at hm
  subst hm
  exact (show Tryd.prog.wantsStandIn 26 = false by kernel_rfl)
end Go.Proofs.YtbkaecjkgjkheaaDoor.sealTweaks

namespace Go.Proofs.YtbkaecjkgjkheaaDoor
theorem sealTweaks_card : Rows.SealTweaksCardSaid :=
  Claim7.holds_tied_plain_at .later [] _ _ _ _ sealTweaks.said (fun _ h => by cases h) (by kernel_rfl) (fun _ h => by cases h) sealTweaks_row_tie rfl ⟨rfl, rfl⟩ (by kernel_rfl) rfl sealTweaks.plain (by kernel_rfl)
#print axioms sealTweaks_card
end Go.Proofs.YtbkaecjkgjkheaaDoor
