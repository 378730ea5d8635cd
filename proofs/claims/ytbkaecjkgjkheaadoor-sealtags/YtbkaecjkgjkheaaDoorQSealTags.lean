/- The tag of any head with up to 600 bytes behind, under any keys, or why there is none; its tweak: as the document says. Of more bytes: the program answers. No condition. -/
import Derived.Test.YtbkaecjkgjkheaaDoorCards
import Derived.Test.YtbkaecjkgjkheaaDoorTie
import Derived.Test.YtbkaecjkgjkheaaDoorPackS
namespace Go.Proofs.YtbkaecjkgjkheaaDoor.sealTags
open Go.ChangeShapes Go.WideShapes Go.ChangeAt Go.RowKit Go.Proofs.YtbkaecjkgjkheaaDoor.se Go.Proofs.YtbkaecjkgjkheaaDoor.he
set_option maxRecDepth 20000

set_option maxHeartbeats 8000000 in
theorem walk (kv : Value) (ks : List Int) (k n c l e t : Int) (sv : Value) (ss : List Int) (w : World) (hk : Byt w kv ks) (hH : Hb l e t) (hs : Byt w sv ss) (hT : Tab w) :
    Calls Tryd.prog 3 #[kv, .agg (he.hv k n c l e t).toArray, sv] w fun x w' => x = .returned (.bool true) ∧ Below w.heap.size w w' := by
  have HT : Hid (Tab w) := hT
  obtain ⟨so, sc, rfl⟩ : ∃ ao cap, sv = .slice ao ss.length cap := (by obtain ⟨ao, cap, e, _⟩ := hs; exact ⟨ao, cap, e⟩)
  by_cases h6 : 600 < ss.length
  · have l6 : (600 : Int) < (ss.length : Int) := by omega
    clear hk hH hs hT h6
    have t0 : (0 : Nat) = 0 := rfl
    go_enter Tryd.func3, Tryd.ntmps3
    go_wp2_with (first
      | (have q1 := t1; go_at_call 6; refine (awake_any w1 (HT.out.below BB.out)).mono ?_; rintro e9 w2 ⟨rfl, B9⟩; have HB0 : Hid (Vr w2 w.heap.size (he.hv k n c l e t)) := HB0.out.below B9 (range_lt HB0.out.1 (Nat.succ_pos _)); have BB : Hid (Below w.heap.size w w2) := BB.out.trans (B9.mono BB.out.size); clear hb0_0 hb0_1 hb0_2 hb0_3 hb0_4 hb0_5; have hb0_0 := HB0.out.cell 0 _ rfl; have hb0_1 := HB0.out.cell 1 _ rfl; have hb0_2 := HB0.out.cell 2 _ rfl; have hb0_3 := HB0.out.cell 3 _ rfl; have hb0_4 := HB0.out.cell 4 _ rfl; have hb0_5 := HB0.out.cell 5 _ rfl; clear B9; clear t1; have t2 : (1 : Nat) = 1 := rfl)
      | (have q0 := t0; refine box_lawC _ (he.hv k n c l e t) rfl ?_; intro w1 X9 B9 l9; have HB0 : Hid (Vr w1 w.heap.size (he.hv k n c l e t)) := X9; have BB : Hid (Below w.heap.size w w1) := B9; have hb0_0 := HB0.out.cell 0 _ rfl; have hb0_1 := HB0.out.cell 1 _ rfl; have hb0_2 := HB0.out.cell 2 _ rfl; have hb0_3 := HB0.out.cell 3 _ rfl; have hb0_4 := HB0.out.cell 4 _ rfl; have hb0_5 := HB0.out.cell 5 _ rfl; clear X9 B9 l9; clear t0; have t1 : (1 : Nat) = 1 := rfl))
    go_ret
    exact ⟨rfl, BB.out⟩
  · have l6 : ¬ ((600 : Int) < (ss.length : Int)) := by omega
    have ST : Hid (∀ w0, Calls Tryd.prog 10 #[.agg (he.hv k n c l e t).toArray] w0 fun x w' => ∃ r, x = .returned r ∧ Byt w' r (twk e t) ∧ Below w0.heap.size w0 w') := fun w0 => ztweak_any k n c l e t w0 hH
    have SR : Hid (∀ w0, Calls Tryd.prog 11 #[.agg (he.hv k n c l e t).toArray] w0 fun x w' => ∃ r, x = .returned r ∧ Byt w' r (twk e t) ∧ Below w0.heap.size w0 w') := fun w0 => rztweak_any k n c l e t w0 hH
    generalize twk e t = TW at ST SR
    by_cases hl : ks.length = 96
    · obtain ⟨ko, kc, rfl⟩ := byt_form hk hl
      have SN : Hid (∀ w0, Below w.heap.size w w0 → Calls Tryd.prog 7 #[.slice ko 96 kc] w0 fun x w' => ∃ p, x = .returned (.tuple #[.pointer (some ⟨p, 0, none⟩), .int .i64 0]) ∧ Kys w' p ks ∧ Below w0.heap.size w0 w') := fun w0 hb => znew_yes _ ks w0 (hk.below hb) hl
      by_cases hr : Rh k n c
      · have SZ : Hid (∀ w0 p, Below w.heap.size w w0 → Kys w0 p ks → Calls Tryd.prog 8 #[.pointer (some ⟨p, 0, none⟩), .agg (he.hv k n c l e t).toArray, .slice so ss.length sc] w0 fun x w' => ∃ ao cap, x = .returned (.tuple #[.slice ao 32 cap, .int .i64 0]) ∧ Byt w' (.slice ao 32 cap) (mc.tagB (mc.blk (kg ks)) ((he.hb k n c l e t) ++ ss)) ∧ Below w0.heap.size w0 w') := fun w0 p hb hp => ztag_yes k n c l e t _ ss w0 p ks hp hl hr hH (hT.below hb) (hs.below hb) (by omega)
        have SQ : Hid (∀ w0, Below w.heap.size w w0 → Calls Tryd.prog 13 #[.slice ko 96 kc, .agg (he.hv k n c l e t).toArray, .slice so ss.length sc] w0 fun x w' => ∃ r, x = .returned r ∧ Byt w' r (mc.tagB (mc.blk (kg ks)) ((he.hb k n c l e t) ++ ss)) ∧ Below w0.heap.size w0 w') := fun w0 hb => rztag_any _ ks k n c l e t _ ss w0 (hk.below hb) hl hr hH (hs.below hb) (by omega)
        have SG : Hid (∀ w0, Calls Tryd.prog 12 #[.agg (he.hv k n c l e t).toArray] w0 fun x w' => x = .returned (.bool true) ∧ Below w0.heap.size w0 w') := fun w0 => right_any k n c l e t w0 true ((decide_eq_true (show (1 ≤ k ∧ k ≤ 4 ∧ 0 ≤ n ∧ n ≤ 255 ∧ 0 ≤ c ∧ c ≤ 255) from hr)).symm)
        generalize (mc.tagB (mc.blk (kg ks)) ((he.hb k n c l e t) ++ ss)) = TG at SZ SQ
        clear hk hH hs hT h6 hl hr
        have t0 : (0 : Nat) = 0 := rfl
        go_enter Tryd.func3, Tryd.ntmps3
        go_wp2_with (first
          | (have q2 := t2; go_at_call 8; refine (SZ.out w2 p9 BB.out HK0.out).mono ?_; rintro e9 w3 ⟨ao, cap, rfl, Y9, B9⟩; have HB0 : Hid (Vr w3 w.heap.size (he.hv k n c l e t)) := HB0.out.below B9 (range_lt HB0.out.1 (Nat.succ_pos _)); have HR : Hid (Byt w3 (.slice ao 32 cap) TG) := Y9; have BB : Hid (Below w.heap.size w w3) := BB.out.trans (B9.mono BB.out.size); clear hb0_0 hb0_1 hb0_2 hb0_3 hb0_4 hb0_5; have hb0_0 := HB0.out.cell 0 _ rfl; have hb0_1 := HB0.out.cell 1 _ rfl; have hb0_2 := HB0.out.cell 2 _ rfl; have hb0_3 := HB0.out.cell 3 _ rfl; have hb0_4 := HB0.out.cell 4 _ rfl; have hb0_5 := HB0.out.cell 5 _ rfl; clear B9 Y9 HK0; clear t2; have t3 : (1 : Nat) = 1 := rfl)
          | (have q1 := t1; go_at_call 7; refine (SN.out w1 BB.out).mono ?_; rintro e9 w2 ⟨p9, rfl, K9, B9⟩; have HB0 : Hid (Vr w2 w.heap.size (he.hv k n c l e t)) := HB0.out.below B9 (range_lt HB0.out.1 (Nat.succ_pos _)); have HK0 : Hid (Kys w2 p9 ks) := K9; have BB : Hid (Below w.heap.size w w2) := BB.out.trans (B9.mono BB.out.size); clear hb0_0 hb0_1 hb0_2 hb0_3 hb0_4 hb0_5; have hb0_0 := HB0.out.cell 0 _ rfl; have hb0_1 := HB0.out.cell 1 _ rfl; have hb0_2 := HB0.out.cell 2 _ rfl; have hb0_3 := HB0.out.cell 3 _ rfl; have hb0_4 := HB0.out.cell 4 _ rfl; have hb0_5 := HB0.out.cell 5 _ rfl; clear B9 K9; clear t1; have t2 : (1 : Nat) = 1 := rfl)
          | (have q0 := t0; refine box_lawC _ (he.hv k n c l e t) rfl ?_; intro w1 X9 B9 l9; have HB0 : Hid (Vr w1 w.heap.size (he.hv k n c l e t)) := X9; have BB : Hid (Below w.heap.size w w1) := B9; have hb0_0 := HB0.out.cell 0 _ rfl; have hb0_1 := HB0.out.cell 1 _ rfl; have hb0_2 := HB0.out.cell 2 _ rfl; have hb0_3 := HB0.out.cell 3 _ rfl; have hb0_4 := HB0.out.cell 4 _ rfl; have hb0_5 := HB0.out.cell 5 _ rfl; clear X9 B9 l9; clear t0; have t1 : (1 : Nat) = 1 := rfl))
        refine wp_region_held_drew (S := fun w' => Below w3.heap.size w3 w') (by kernel_rfl) (Below.refl _ _).drew (fun hS => ?_)
        obtain ⟨x1, hx0⟩ : ∃ x, x = w3.drew := ⟨_, rfl⟩
        rw [← hx0] at hS  ⊢
        clear hx0
        refine take_lawH 0 (some 27) (.agg (he.hv k n c l e t).toArray) rfl rfl (by kernel_rfl) (by kernel_rfl) (by kernel_rfl) (fun _ _ _ h => h) (Or.inl ⟨by rfl, fun w' hw' => by exact exec_loadN 26 (.tmp 4) rfl _ rfl _ _ (load_cells rowy_head (HB0.out.below hw' (range_lt HB0.out.1 (Nat.succ_pos _))).1)⟩) hS ?_
        simp only [Act.put, List.setIfInBounds_toArray, List.set_cons_zero, List.set_cons_succ]
        refine take_lawH 2 (some 29) (.agg (he.hv k n c l e t).toArray) rfl rfl (by kernel_rfl) (by kernel_rfl) (by kernel_rfl) (fun _ _ _ h => h) (Or.inl ⟨by rfl, fun w' hw' => by exact exec_loadN 26 (.tmp 4) rfl _ rfl _ _ (load_cells rowy_head (HB0.out.below hw' (range_lt HB0.out.1 (Nat.succ_pos _))).1)⟩) hS ?_
        simp only [Act.put, List.setIfInBounds_toArray, List.set_cons_zero, List.set_cons_succ]
        refine wpAnyH_ready (rs := [1]) (by kernel_rfl) (by simp) ?_
        refine AllReadyH.cons rfl (fun K hK => ?_) AllReadyH.nil
        refine step_callW _ (by rfl) (some 28) rfl 10 #[.tmp 27] #[26] rfl (fun q w' => by rfl) #[.agg (he.hv k n c l e t).toArray] (by simp only [List.map_toArray, List.map_cons, List.map_nil]; rfl) (fun u w' => Byt w' u TW ∧ Below x1.heap.size x1 w') ?_ ?_
        · exact (ST.out x1).mono fun e w' ⟨r, h1, h2, h3⟩ => ⟨r, h1, h2, h3⟩
        rintro ta x2 ⟨y1, hb⟩
        have YA : Hid (Byt x2 ta TW) := y1
        clear y1
        have hS : Below w3.heap.size w3 x2 := hS.trans (hb.mono hS.size)
        clear hb
        refine hK.out _ _ hS (fun _ => ?_)
        simp only [Act.put, List.setIfInBounds_toArray, List.set_cons_zero, List.set_cons_succ]
        clear hK K
        refine wpAnyH_ready (rs := [3]) (by kernel_rfl) (by simp) ?_
        refine AllReadyH.cons rfl (fun K hK => ?_) AllReadyH.nil
        refine step_callW _ (by rfl) (some 30) rfl 11 #[.tmp 29] #[26] rfl (fun q w' => by rfl) #[.agg (he.hv k n c l e t).toArray] (by simp only [List.map_toArray, List.map_cons, List.map_nil]; rfl) (fun u w' => Byt w' u TW ∧ Below x2.heap.size x2 w') ?_ ?_
        · exact (SR.out x2).mono fun e w' ⟨r, h1, h2, h3⟩ => ⟨r, h1, h2, h3⟩
        rintro tb x3 ⟨y1, hb⟩
        have YB : Hid (Byt x3 tb TW) := y1
        have YA : Hid (Byt x3 ta TW) := YA.out.below hb
        clear y1
        have hS : Below w3.heap.size w3 x3 := hS.trans (hb.mono hS.size)
        clear hb
        refine hK.out _ _ hS (fun _ => ?_)
        simp only [Act.put, List.setIfInBounds_toArray, List.set_cons_zero, List.set_cons_succ]
        clear hK K
        refine wpAnyH_ready (rs := [4]) (by kernel_rfl) (by simp) ?_
        refine AllReadyH.cons rfl (fun K hK => ?_) AllReadyH.nil
        refine step_callW _ (by rfl) (some 31) rfl 9 #[.tmp 28, .tmp 30] #[22, 22] rfl (fun q w' => by rfl) #[ta, tb] (by simp only [List.map_toArray, List.map_cons, List.map_nil]; rfl) (fun u w' => u = .bool true ∧ Below x3.heap.size x3 w') ?_ ?_
        · exact (same_yes x3 _ _ TW YA.out YB.out).mono fun e w' ⟨h1, h2⟩ => ⟨_, h1, rfl, h2⟩
        rintro _ x4 ⟨rfl, hb⟩
        have hS : Below w3.heap.size w3 x4 := hS.trans (hb.mono hS.size)
        clear hb
        refine hK.out _ _ hS (fun _ => ?_)
        simp only [Act.put, List.setIfInBounds_toArray, List.set_cons_zero, List.set_cons_succ]
        clear hK K
        refine take_lawH 5 (some 32) (.bool false) rfl rfl (by kernel_rfl) (by kernel_rfl) (by kernel_rfl) (fun _ _ _ h => h) (Or.inl ⟨by rfl, fun w' hw' => by rfl⟩) hS ?_
        simp only [Act.put, List.setIfInBounds_toArray, List.set_cons_zero, List.set_cons_succ]
        refine wpAnyH_done (by kernel_rfl) ?_ _
        clear hb0_0 hb0_1 hb0_2 hb0_3 hb0_4 hb0_5
        have HB0 : Hid (Vr x4 w.heap.size (he.hv k n c l e t)) := HB0.out.below hS (range_lt HB0.out.1 (Nat.succ_pos _))
        have HR : Hid (Byt x4 (.slice ao 32 cap) TG) := HR.out.below hS
        have BB : Hid (Below w.heap.size w x4) := BB.out.trans (hS.mono BB.out.size)
        clear hS
        have hb0_0 := HB0.out.cell 0 _ rfl
        have hb0_1 := HB0.out.cell 1 _ rfl
        have hb0_2 := HB0.out.cell 2 _ rfl
        have hb0_3 := HB0.out.cell 3 _ rfl
        have hb0_4 := HB0.out.cell 4 _ rfl
        have hb0_5 := HB0.out.cell 5 _ rfl
        have t50 : (1 : Nat) = 1 := rfl
        go_wp2_with (first
          | (have q53 := t53; go_at_call 6; refine (awake_any w93 (HT.out.below BB.out)).mono ?_; rintro e9 w94 ⟨rfl, B9⟩; have HB0 : Hid (Vr w94 w.heap.size (he.hv k n c l e t)) := HB0.out.below B9 (range_lt HB0.out.1 (Nat.succ_pos _)); have HR : Hid (Byt w94 (.slice ao 32 cap) TG) := HR.out.below B9; have HQ : Hid (Byt w94 qv TG) := HQ.out.below B9; have BB : Hid (Below w.heap.size w w94) := BB.out.trans (B9.mono BB.out.size); clear hb0_0 hb0_1 hb0_2 hb0_3 hb0_4 hb0_5; have hb0_0 := HB0.out.cell 0 _ rfl; have hb0_1 := HB0.out.cell 1 _ rfl; have hb0_2 := HB0.out.cell 2 _ rfl; have hb0_3 := HB0.out.cell 3 _ rfl; have hb0_4 := HB0.out.cell 4 _ rfl; have hb0_5 := HB0.out.cell 5 _ rfl; clear B9; clear t53; have t54 : (1 : Nat) = 1 := rfl)
          | (have q52 := t52; go_at_call 9; refine (same_yes w92 _ _ TG HR.out HQ.out).mono ?_; rintro e9 w93 ⟨rfl, B9⟩; have HB0 : Hid (Vr w93 w.heap.size (he.hv k n c l e t)) := HB0.out.below B9 (range_lt HB0.out.1 (Nat.succ_pos _)); have HR : Hid (Byt w93 (.slice ao 32 cap) TG) := HR.out.below B9; have HQ : Hid (Byt w93 qv TG) := HQ.out.below B9; have BB : Hid (Below w.heap.size w w93) := BB.out.trans (B9.mono BB.out.size); clear hb0_0 hb0_1 hb0_2 hb0_3 hb0_4 hb0_5; have hb0_0 := HB0.out.cell 0 _ rfl; have hb0_1 := HB0.out.cell 1 _ rfl; have hb0_2 := HB0.out.cell 2 _ rfl; have hb0_3 := HB0.out.cell 3 _ rfl; have hb0_4 := HB0.out.cell 4 _ rfl; have hb0_5 := HB0.out.cell 5 _ rfl; clear B9; clear t52; have t53 : (1 : Nat) = 1 := rfl)
          | (have q51 := t51; go_at_call 13; refine (SQ.out w91 BB.out).mono ?_; rintro e9 w92 ⟨qv, rfl, Y9, B9⟩; have HB0 : Hid (Vr w92 w.heap.size (he.hv k n c l e t)) := HB0.out.below B9 (range_lt HB0.out.1 (Nat.succ_pos _)); have HR : Hid (Byt w92 (.slice ao 32 cap) TG) := HR.out.below B9; have HQ : Hid (Byt w92 qv TG) := Y9; have BB : Hid (Below w.heap.size w w92) := BB.out.trans (B9.mono BB.out.size); clear hb0_0 hb0_1 hb0_2 hb0_3 hb0_4 hb0_5; have hb0_0 := HB0.out.cell 0 _ rfl; have hb0_1 := HB0.out.cell 1 _ rfl; have hb0_2 := HB0.out.cell 2 _ rfl; have hb0_3 := HB0.out.cell 3 _ rfl; have hb0_4 := HB0.out.cell 4 _ rfl; have hb0_5 := HB0.out.cell 5 _ rfl; clear B9 Y9; clear t51; have t52 : (1 : Nat) = 1 := rfl)
          | (have q50 := t50; go_at_call 12; refine (SG.out x4).mono ?_; rintro e9 w91 ⟨rfl, B9⟩; have HB0 : Hid (Vr w91 w.heap.size (he.hv k n c l e t)) := HB0.out.below B9 (range_lt HB0.out.1 (Nat.succ_pos _)); have HR : Hid (Byt w91 (.slice ao 32 cap) TG) := HR.out.below B9; have BB : Hid (Below w.heap.size w w91) := BB.out.trans (B9.mono BB.out.size); clear hb0_0 hb0_1 hb0_2 hb0_3 hb0_4 hb0_5; have hb0_0 := HB0.out.cell 0 _ rfl; have hb0_1 := HB0.out.cell 1 _ rfl; have hb0_2 := HB0.out.cell 2 _ rfl; have hb0_3 := HB0.out.cell 3 _ rfl; have hb0_4 := HB0.out.cell 4 _ rfl; have hb0_5 := HB0.out.cell 5 _ rfl; clear B9; clear t50; have t51 : (1 : Nat) = 1 := rfl))
        go_ret
        exact ⟨rfl, BB.out⟩
      · have SZ : Hid (∀ w0 p, Below w.heap.size w w0 → Kys w0 p ks → Calls Tryd.prog 8 #[.pointer (some ⟨p, 0, none⟩), .agg (he.hv k n c l e t).toArray, .slice so ss.length sc] w0 fun x w' => x = .returned (.tuple #[.slice none 0 0, .int .i64 2]) ∧ Below w0.heap.size w0 w') := fun w0 p hb hp => ztag_err _ k n c l e t _ w0 fun w1 hb1 => zhead_no k n c l e t w1 p ks (hp.below hb1) hr
        have SG : Hid (∀ w0, Calls Tryd.prog 12 #[.agg (he.hv k n c l e t).toArray] w0 fun x w' => x = .returned (.bool false) ∧ Below w0.heap.size w0 w') := fun w0 => right_any k n c l e t w0 false ((decide_eq_false (show ¬ (1 ≤ k ∧ k ≤ 4 ∧ 0 ≤ n ∧ n ≤ 255 ∧ 0 ≤ c ∧ c ≤ 255) from hr)).symm)
        clear hk hH hs hT h6 hl hr
        have t0 : (0 : Nat) = 0 := rfl
        go_enter Tryd.func3, Tryd.ntmps3
        go_wp2_with (first
          | (have q2 := t2; go_at_call 8; refine (SZ.out w2 p9 BB.out HK0.out).mono ?_; rintro e9 w3 ⟨rfl, B9⟩; have HB0 : Hid (Vr w3 w.heap.size (he.hv k n c l e t)) := HB0.out.below B9 (range_lt HB0.out.1 (Nat.succ_pos _)); have BB : Hid (Below w.heap.size w w3) := BB.out.trans (B9.mono BB.out.size); clear hb0_0 hb0_1 hb0_2 hb0_3 hb0_4 hb0_5; have hb0_0 := HB0.out.cell 0 _ rfl; have hb0_1 := HB0.out.cell 1 _ rfl; have hb0_2 := HB0.out.cell 2 _ rfl; have hb0_3 := HB0.out.cell 3 _ rfl; have hb0_4 := HB0.out.cell 4 _ rfl; have hb0_5 := HB0.out.cell 5 _ rfl; clear B9 HK0; clear t2; have t3 : (1 : Nat) = 1 := rfl)
          | (have q1 := t1; go_at_call 7; refine (SN.out w1 BB.out).mono ?_; rintro e9 w2 ⟨p9, rfl, K9, B9⟩; have HB0 : Hid (Vr w2 w.heap.size (he.hv k n c l e t)) := HB0.out.below B9 (range_lt HB0.out.1 (Nat.succ_pos _)); have HK0 : Hid (Kys w2 p9 ks) := K9; have BB : Hid (Below w.heap.size w w2) := BB.out.trans (B9.mono BB.out.size); clear hb0_0 hb0_1 hb0_2 hb0_3 hb0_4 hb0_5; have hb0_0 := HB0.out.cell 0 _ rfl; have hb0_1 := HB0.out.cell 1 _ rfl; have hb0_2 := HB0.out.cell 2 _ rfl; have hb0_3 := HB0.out.cell 3 _ rfl; have hb0_4 := HB0.out.cell 4 _ rfl; have hb0_5 := HB0.out.cell 5 _ rfl; clear B9 K9; clear t1; have t2 : (1 : Nat) = 1 := rfl)
          | (have q0 := t0; refine box_lawC _ (he.hv k n c l e t) rfl ?_; intro w1 X9 B9 l9; have HB0 : Hid (Vr w1 w.heap.size (he.hv k n c l e t)) := X9; have BB : Hid (Below w.heap.size w w1) := B9; have hb0_0 := HB0.out.cell 0 _ rfl; have hb0_1 := HB0.out.cell 1 _ rfl; have hb0_2 := HB0.out.cell 2 _ rfl; have hb0_3 := HB0.out.cell 3 _ rfl; have hb0_4 := HB0.out.cell 4 _ rfl; have hb0_5 := HB0.out.cell 5 _ rfl; clear X9 B9 l9; clear t0; have t1 : (1 : Nat) = 1 := rfl))
        refine wp_region_held_drew (S := fun w' => Below w3.heap.size w3 w') (by kernel_rfl) (Below.refl _ _).drew (fun hS => ?_)
        obtain ⟨x1, hx0⟩ : ∃ x, x = w3.drew := ⟨_, rfl⟩
        rw [← hx0] at hS  ⊢
        clear hx0
        refine take_lawH 0 (some 27) (.agg (he.hv k n c l e t).toArray) rfl rfl (by kernel_rfl) (by kernel_rfl) (by kernel_rfl) (fun _ _ _ h => h) (Or.inl ⟨by rfl, fun w' hw' => by exact exec_loadN 26 (.tmp 4) rfl _ rfl _ _ (load_cells rowy_head (HB0.out.below hw' (range_lt HB0.out.1 (Nat.succ_pos _))).1)⟩) hS ?_
        simp only [Act.put, List.setIfInBounds_toArray, List.set_cons_zero, List.set_cons_succ]
        refine take_lawH 2 (some 29) (.agg (he.hv k n c l e t).toArray) rfl rfl (by kernel_rfl) (by kernel_rfl) (by kernel_rfl) (fun _ _ _ h => h) (Or.inl ⟨by rfl, fun w' hw' => by exact exec_loadN 26 (.tmp 4) rfl _ rfl _ _ (load_cells rowy_head (HB0.out.below hw' (range_lt HB0.out.1 (Nat.succ_pos _))).1)⟩) hS ?_
        simp only [Act.put, List.setIfInBounds_toArray, List.set_cons_zero, List.set_cons_succ]
        refine wpAnyH_ready (rs := [1]) (by kernel_rfl) (by simp) ?_
        refine AllReadyH.cons rfl (fun K hK => ?_) AllReadyH.nil
        refine step_callW _ (by rfl) (some 28) rfl 10 #[.tmp 27] #[26] rfl (fun q w' => by rfl) #[.agg (he.hv k n c l e t).toArray] (by simp only [List.map_toArray, List.map_cons, List.map_nil]; rfl) (fun u w' => Byt w' u TW ∧ Below x1.heap.size x1 w') ?_ ?_
        · exact (ST.out x1).mono fun e w' ⟨r, h1, h2, h3⟩ => ⟨r, h1, h2, h3⟩
        rintro ta x2 ⟨y1, hb⟩
        have YA : Hid (Byt x2 ta TW) := y1
        clear y1
        have hS : Below w3.heap.size w3 x2 := hS.trans (hb.mono hS.size)
        clear hb
        refine hK.out _ _ hS (fun _ => ?_)
        simp only [Act.put, List.setIfInBounds_toArray, List.set_cons_zero, List.set_cons_succ]
        clear hK K
        refine wpAnyH_ready (rs := [3]) (by kernel_rfl) (by simp) ?_
        refine AllReadyH.cons rfl (fun K hK => ?_) AllReadyH.nil
        refine step_callW _ (by rfl) (some 30) rfl 11 #[.tmp 29] #[26] rfl (fun q w' => by rfl) #[.agg (he.hv k n c l e t).toArray] (by simp only [List.map_toArray, List.map_cons, List.map_nil]; rfl) (fun u w' => Byt w' u TW ∧ Below x2.heap.size x2 w') ?_ ?_
        · exact (SR.out x2).mono fun e w' ⟨r, h1, h2, h3⟩ => ⟨r, h1, h2, h3⟩
        rintro tb x3 ⟨y1, hb⟩
        have YB : Hid (Byt x3 tb TW) := y1
        have YA : Hid (Byt x3 ta TW) := YA.out.below hb
        clear y1
        have hS : Below w3.heap.size w3 x3 := hS.trans (hb.mono hS.size)
        clear hb
        refine hK.out _ _ hS (fun _ => ?_)
        simp only [Act.put, List.setIfInBounds_toArray, List.set_cons_zero, List.set_cons_succ]
        clear hK K
        refine wpAnyH_ready (rs := [4]) (by kernel_rfl) (by simp) ?_
        refine AllReadyH.cons rfl (fun K hK => ?_) AllReadyH.nil
        refine step_callW _ (by rfl) (some 31) rfl 9 #[.tmp 28, .tmp 30] #[22, 22] rfl (fun q w' => by rfl) #[ta, tb] (by simp only [List.map_toArray, List.map_cons, List.map_nil]; rfl) (fun u w' => u = .bool true ∧ Below x3.heap.size x3 w') ?_ ?_
        · exact (same_yes x3 _ _ TW YA.out YB.out).mono fun e w' ⟨h1, h2⟩ => ⟨_, h1, rfl, h2⟩
        rintro _ x4 ⟨rfl, hb⟩
        have hS : Below w3.heap.size w3 x4 := hS.trans (hb.mono hS.size)
        clear hb
        refine hK.out _ _ hS (fun _ => ?_)
        simp only [Act.put, List.setIfInBounds_toArray, List.set_cons_zero, List.set_cons_succ]
        clear hK K
        refine take_lawH 5 (some 32) (.bool false) rfl rfl (by kernel_rfl) (by kernel_rfl) (by kernel_rfl) (fun _ _ _ h => h) (Or.inl ⟨by rfl, fun w' hw' => by rfl⟩) hS ?_
        simp only [Act.put, List.setIfInBounds_toArray, List.set_cons_zero, List.set_cons_succ]
        refine wpAnyH_done (by kernel_rfl) ?_ _
        clear hb0_0 hb0_1 hb0_2 hb0_3 hb0_4 hb0_5
        have HB0 : Hid (Vr x4 w.heap.size (he.hv k n c l e t)) := HB0.out.below hS (range_lt HB0.out.1 (Nat.succ_pos _))
        have BB : Hid (Below w.heap.size w x4) := BB.out.trans (hS.mono BB.out.size)
        clear hS
        have hb0_0 := HB0.out.cell 0 _ rfl
        have hb0_1 := HB0.out.cell 1 _ rfl
        have hb0_2 := HB0.out.cell 2 _ rfl
        have hb0_3 := HB0.out.cell 3 _ rfl
        have hb0_4 := HB0.out.cell 4 _ rfl
        have hb0_5 := HB0.out.cell 5 _ rfl
        have t50 : (1 : Nat) = 1 := rfl
        go_wp2_with (first
          | (have q51 := t51; go_at_call 6; refine (awake_any w91 (HT.out.below BB.out)).mono ?_; rintro e9 w92 ⟨rfl, B9⟩; have HB0 : Hid (Vr w92 w.heap.size (he.hv k n c l e t)) := HB0.out.below B9 (range_lt HB0.out.1 (Nat.succ_pos _)); have BB : Hid (Below w.heap.size w w92) := BB.out.trans (B9.mono BB.out.size); clear hb0_0 hb0_1 hb0_2 hb0_3 hb0_4 hb0_5; have hb0_0 := HB0.out.cell 0 _ rfl; have hb0_1 := HB0.out.cell 1 _ rfl; have hb0_2 := HB0.out.cell 2 _ rfl; have hb0_3 := HB0.out.cell 3 _ rfl; have hb0_4 := HB0.out.cell 4 _ rfl; have hb0_5 := HB0.out.cell 5 _ rfl; clear B9; clear t51; have t52 : (1 : Nat) = 1 := rfl)
          | (have q50 := t50; go_at_call 12; refine (SG.out x4).mono ?_; rintro e9 w91 ⟨rfl, B9⟩; have HB0 : Hid (Vr w91 w.heap.size (he.hv k n c l e t)) := HB0.out.below B9 (range_lt HB0.out.1 (Nat.succ_pos _)); have BB : Hid (Below w.heap.size w w91) := BB.out.trans (B9.mono BB.out.size); clear hb0_0 hb0_1 hb0_2 hb0_3 hb0_4 hb0_5; have hb0_0 := HB0.out.cell 0 _ rfl; have hb0_1 := HB0.out.cell 1 _ rfl; have hb0_2 := HB0.out.cell 2 _ rfl; have hb0_3 := HB0.out.cell 3 _ rfl; have hb0_4 := HB0.out.cell 4 _ rfl; have hb0_5 := HB0.out.cell 5 _ rfl; clear B9; clear t50; have t51 : (1 : Nat) = 1 := rfl))
        go_ret
        exact ⟨rfl, BB.out⟩
    · obtain ⟨ko, kc, rfl⟩ : ∃ ao cap, kv = .slice ao ks.length cap := (by obtain ⟨ao, cap, e, _⟩ := hk; exact ⟨ao, cap, e⟩)
      have SN : Hid (∀ w0, Below w.heap.size w w0 → Calls Tryd.prog 7 #[.slice ko ks.length kc] w0 fun x w' => x = .returned (.tuple #[.pointer none, .int .i64 2]) ∧ Below w0.heap.size w0 w') := fun w0 hb => znew_no _ ks w0 (hk.below hb) hl
      have n96 : ((ks.length : Int) != 96) = true := bne_iff_ne.2 (by omega)
      have SZ : Hid (∀ w0, Below w.heap.size w w0 → Calls Tryd.prog 8 #[.pointer none, .agg (he.hv k n c l e t).toArray, .slice so ss.length sc] w0 fun x w' => x = .returned (.tuple #[.slice none 0 0, .int .i64 2]) ∧ Below w0.heap.size w0 w') := fun w0 _ => ztag_err _ k n c l e t _ w0 fun w1 _ => zhead_nil k n c l e t w1
      clear hk hH hs hT h6 hl
      have t0 : (0 : Nat) = 0 := rfl
      go_enter Tryd.func3, Tryd.ntmps3
      go_wp2_with (first
        | (have q2 := t2; go_at_call 8; refine (SZ.out w2 BB.out).mono ?_; rintro e9 w3 ⟨rfl, B9⟩; have HB0 : Hid (Vr w3 w.heap.size (he.hv k n c l e t)) := HB0.out.below B9 (range_lt HB0.out.1 (Nat.succ_pos _)); have BB : Hid (Below w.heap.size w w3) := BB.out.trans (B9.mono BB.out.size); clear hb0_0 hb0_1 hb0_2 hb0_3 hb0_4 hb0_5; have hb0_0 := HB0.out.cell 0 _ rfl; have hb0_1 := HB0.out.cell 1 _ rfl; have hb0_2 := HB0.out.cell 2 _ rfl; have hb0_3 := HB0.out.cell 3 _ rfl; have hb0_4 := HB0.out.cell 4 _ rfl; have hb0_5 := HB0.out.cell 5 _ rfl; clear B9; clear t2; have t3 : (1 : Nat) = 1 := rfl)
        | (have q1 := t1; go_at_call 7; refine (SN.out w1 BB.out).mono ?_; rintro e9 w2 ⟨rfl, B9⟩; have HB0 : Hid (Vr w2 w.heap.size (he.hv k n c l e t)) := HB0.out.below B9 (range_lt HB0.out.1 (Nat.succ_pos _)); have BB : Hid (Below w.heap.size w w2) := BB.out.trans (B9.mono BB.out.size); clear hb0_0 hb0_1 hb0_2 hb0_3 hb0_4 hb0_5; have hb0_0 := HB0.out.cell 0 _ rfl; have hb0_1 := HB0.out.cell 1 _ rfl; have hb0_2 := HB0.out.cell 2 _ rfl; have hb0_3 := HB0.out.cell 3 _ rfl; have hb0_4 := HB0.out.cell 4 _ rfl; have hb0_5 := HB0.out.cell 5 _ rfl; clear B9; clear t1; have t2 : (1 : Nat) = 1 := rfl)
        | (have q0 := t0; refine box_lawC _ (he.hv k n c l e t) rfl ?_; intro w1 X9 B9 l9; have HB0 : Hid (Vr w1 w.heap.size (he.hv k n c l e t)) := X9; have BB : Hid (Below w.heap.size w w1) := B9; have hb0_0 := HB0.out.cell 0 _ rfl; have hb0_1 := HB0.out.cell 1 _ rfl; have hb0_2 := HB0.out.cell 2 _ rfl; have hb0_3 := HB0.out.cell 3 _ rfl; have hb0_4 := HB0.out.cell 4 _ rfl; have hb0_5 := HB0.out.cell 5 _ rfl; clear X9 B9 l9; clear t0; have t1 : (1 : Nat) = 1 := rfl))
      refine wp_region_held_drew (S := fun w' => Below w3.heap.size w3 w') (by kernel_rfl) (Below.refl _ _).drew (fun hS => ?_)
      obtain ⟨x1, hx0⟩ : ∃ x, x = w3.drew := ⟨_, rfl⟩
      rw [← hx0] at hS  ⊢
      clear hx0
      refine take_lawH 0 (some 27) (.agg (he.hv k n c l e t).toArray) rfl rfl (by kernel_rfl) (by kernel_rfl) (by kernel_rfl) (fun _ _ _ h => h) (Or.inl ⟨by rfl, fun w' hw' => by exact exec_loadN 26 (.tmp 4) rfl _ rfl _ _ (load_cells rowy_head (HB0.out.below hw' (range_lt HB0.out.1 (Nat.succ_pos _))).1)⟩) hS ?_
      simp only [Act.put, List.setIfInBounds_toArray, List.set_cons_zero, List.set_cons_succ]
      refine take_lawH 2 (some 29) (.agg (he.hv k n c l e t).toArray) rfl rfl (by kernel_rfl) (by kernel_rfl) (by kernel_rfl) (fun _ _ _ h => h) (Or.inl ⟨by rfl, fun w' hw' => by exact exec_loadN 26 (.tmp 4) rfl _ rfl _ _ (load_cells rowy_head (HB0.out.below hw' (range_lt HB0.out.1 (Nat.succ_pos _))).1)⟩) hS ?_
      simp only [Act.put, List.setIfInBounds_toArray, List.set_cons_zero, List.set_cons_succ]
      refine wpAnyH_ready (rs := [1]) (by kernel_rfl) (by simp) ?_
      refine AllReadyH.cons rfl (fun K hK => ?_) AllReadyH.nil
      refine step_callW _ (by rfl) (some 28) rfl 10 #[.tmp 27] #[26] rfl (fun q w' => by rfl) #[.agg (he.hv k n c l e t).toArray] (by simp only [List.map_toArray, List.map_cons, List.map_nil]; rfl) (fun u w' => Byt w' u TW ∧ Below x1.heap.size x1 w') ?_ ?_
      · exact (ST.out x1).mono fun e w' ⟨r, h1, h2, h3⟩ => ⟨r, h1, h2, h3⟩
      rintro ta x2 ⟨y1, hb⟩
      have YA : Hid (Byt x2 ta TW) := y1
      clear y1
      have hS : Below w3.heap.size w3 x2 := hS.trans (hb.mono hS.size)
      clear hb
      refine hK.out _ _ hS (fun _ => ?_)
      simp only [Act.put, List.setIfInBounds_toArray, List.set_cons_zero, List.set_cons_succ]
      clear hK K
      refine wpAnyH_ready (rs := [3]) (by kernel_rfl) (by simp) ?_
      refine AllReadyH.cons rfl (fun K hK => ?_) AllReadyH.nil
      refine step_callW _ (by rfl) (some 30) rfl 11 #[.tmp 29] #[26] rfl (fun q w' => by rfl) #[.agg (he.hv k n c l e t).toArray] (by simp only [List.map_toArray, List.map_cons, List.map_nil]; rfl) (fun u w' => Byt w' u TW ∧ Below x2.heap.size x2 w') ?_ ?_
      · exact (SR.out x2).mono fun e w' ⟨r, h1, h2, h3⟩ => ⟨r, h1, h2, h3⟩
      rintro tb x3 ⟨y1, hb⟩
      have YB : Hid (Byt x3 tb TW) := y1
      have YA : Hid (Byt x3 ta TW) := YA.out.below hb
      clear y1
      have hS : Below w3.heap.size w3 x3 := hS.trans (hb.mono hS.size)
      clear hb
      refine hK.out _ _ hS (fun _ => ?_)
      simp only [Act.put, List.setIfInBounds_toArray, List.set_cons_zero, List.set_cons_succ]
      clear hK K
      refine wpAnyH_ready (rs := [4]) (by kernel_rfl) (by simp) ?_
      refine AllReadyH.cons rfl (fun K hK => ?_) AllReadyH.nil
      refine step_callW _ (by rfl) (some 31) rfl 9 #[.tmp 28, .tmp 30] #[22, 22] rfl (fun q w' => by rfl) #[ta, tb] (by simp only [List.map_toArray, List.map_cons, List.map_nil]; rfl) (fun u w' => u = .bool true ∧ Below x3.heap.size x3 w') ?_ ?_
      · exact (same_yes x3 _ _ TW YA.out YB.out).mono fun e w' ⟨h1, h2⟩ => ⟨_, h1, rfl, h2⟩
      rintro _ x4 ⟨rfl, hb⟩
      have hS : Below w3.heap.size w3 x4 := hS.trans (hb.mono hS.size)
      clear hb
      refine hK.out _ _ hS (fun _ => ?_)
      simp only [Act.put, List.setIfInBounds_toArray, List.set_cons_zero, List.set_cons_succ]
      clear hK K
      refine take_lawH 5 (some 32) (.bool false) rfl rfl (by kernel_rfl) (by kernel_rfl) (by kernel_rfl) (fun _ _ _ h => h) (Or.inl ⟨by rfl, fun w' hw' => by rfl⟩) hS ?_
      simp only [Act.put, List.setIfInBounds_toArray, List.set_cons_zero, List.set_cons_succ]
      refine wpAnyH_done (by kernel_rfl) ?_ _
      clear hb0_0 hb0_1 hb0_2 hb0_3 hb0_4 hb0_5
      have HB0 : Hid (Vr x4 w.heap.size (he.hv k n c l e t)) := HB0.out.below hS (range_lt HB0.out.1 (Nat.succ_pos _))
      have BB : Hid (Below w.heap.size w x4) := BB.out.trans (hS.mono BB.out.size)
      clear hS
      have hb0_0 := HB0.out.cell 0 _ rfl
      have hb0_1 := HB0.out.cell 1 _ rfl
      have hb0_2 := HB0.out.cell 2 _ rfl
      have hb0_3 := HB0.out.cell 3 _ rfl
      have hb0_4 := HB0.out.cell 4 _ rfl
      have hb0_5 := HB0.out.cell 5 _ rfl
      have t50 : (1 : Nat) = 1 := rfl
      go_wp2_with (first
        | (have q50 := t50; go_at_call 6; refine (awake_any x4 (HT.out.below BB.out)).mono ?_; rintro e9 w91 ⟨rfl, B9⟩; have HB0 : Hid (Vr w91 w.heap.size (he.hv k n c l e t)) := HB0.out.below B9 (range_lt HB0.out.1 (Nat.succ_pos _)); have BB : Hid (Below w.heap.size w w91) := BB.out.trans (B9.mono BB.out.size); clear hb0_0 hb0_1 hb0_2 hb0_3 hb0_4 hb0_5; have hb0_0 := HB0.out.cell 0 _ rfl; have hb0_1 := HB0.out.cell 1 _ rfl; have hb0_2 := HB0.out.cell 2 _ rfl; have hb0_3 := HB0.out.cell 3 _ rfl; have hb0_4 := HB0.out.cell 4 _ rfl; have hb0_5 := HB0.out.cell 5 _ rfl; clear B9; clear t50; have t51 : (1 : Nat) = 1 := rfl))
      go_ret
      exact ⟨rfl, BB.out⟩

theorem params : ∀ t ∈ Tryd.f3.params.toList, Tryd.prog.readableRec t = true ∧ t < Tryd.prog.types.size := by
  rw [Tryd.params3]
  intro t ht
  simp at ht
  rcases ht with rfl | rfl | rfl
  · exact ⟨by kernel_rfl, of_decide_eq_true (by kernel_rfl)⟩
  · exact ⟨by kernel_rfl, of_decide_eq_true (by kernel_rfl)⟩
  · exact ⟨by kernel_rfl, of_decide_eq_true (by kernel_rfl)⟩

theorem contract (H : Type) (enc : TypeId × Value → H) (W : World) (base : Nat) (args : Array Value) (ds gs : List (DataW H)) (before : List MemPlace)
    (hval : ∀ (j : Nat) t v, Tryd.f3.params[j]? = some t → args[j]? = some v → Value.okWide Tryd.prog W .any base t v)
    (hW : DataW.Whole enc Tryd.prog Tryd.f3.params.toList Rows.sealTagsSpec.vars false W args.toList ds gs before) (hL : laidMetH Tryd.prog Rows.sealTagsRow.laid W) :
    Calls Tryd.prog 3 args W fun e W' => ∃ v, e = .returned v ∧ Rows.sealTagsSpec.post enc Tryd.prog Tryd.f3 false true false false W args v W' := by
  have hW' := hW
  obtain ⟨p, q, hA0, hV, rfl, hfz, hnd⟩ := hW
  have hA : DataW.TrodAll enc Tryd.prog W 0 (fun _ => true) true Tryd.f3.params.toList args.toList ds p := hA0
  rw [Tryd.params3] at hA hval
  obtain ⟨v0, v1, v2, d0, d1, d2, p0, p1, p2, rfl, rfl, rfl, h0, h1, h2⟩ := trodAll_three hA
  obtain ⟨rfl, rfl⟩ := trodVars_none hV
  obtain ⟨xs0, b0⟩ := byt_open (hval 0 22 v0 rfl rfl) h0
  obtain ⟨hk1, hn1, hc1, hl1, he1, ht1, rfl, hf1⟩ := head_open (hval 1 26 v1 rfl rfl) h1
  obtain ⟨xs2, b2⟩ := byt_open (hval 2 22 v2 rfl rfl) h2
  clear hA0
  refine (walk v0 xs0 hk1 hn1 hc1 hl1 he1 ht1 v2 xs2 W b0 hf1 b2 (table hL)).mono fun e W' ⟨he, hg⟩ => ?_
  subst he
  exact ⟨_, rfl, post_law rfl (by kernel_rfl) params rfl rfl rfl hW' hg⟩

theorem laid_met (os : Os) : laidMet Tryd.prog Rows.sealTagsRow.laid (({ World.holding Tryd.prog os ⟨#[], #[], []⟩ with heap := (World.holding Tryd.prog os ⟨#[], #[], []⟩).heap.modify 0 fun | .cells _ t frozen => .cells #[.int .i64 1, .int .i64 1, .int .i64 1, .int .i64 1, .int .i64 4, .int .i64 8, .int .i64 8] t frozen | o => o } : World).forCall (fun _ _ => 0) ⟨#[], #[.slice none 0 0, .agg #[.int .i64 0, .int .i64 0, .int .i64 0, .int .u32 0, .int .u64 0, .int .u64 0], .slice none 0 0], []⟩).memory :=
  laidMet_of_run' 8 (by kernel_rfl) (by kernel_rfl)
theorem reads (os : Os) {H : Type} (enc : TypeId × Value → H) : ∃ places, DataW.whole enc Tryd.prog (({ World.holding Tryd.prog os ⟨#[], #[], []⟩ with heap := (World.holding Tryd.prog os ⟨#[], #[], []⟩).heap.modify 0 fun | .cells _ t frozen => .cells #[.int .i64 1, .int .i64 1, .int .i64 1, .int .i64 1, .int .i64 4, .int .i64 8, .int .i64 8] t frozen | o => o } : World).forCall (fun _ _ => 0) ⟨#[], #[.slice none 0 0, .agg #[.int .i64 0, .int .i64 0, .int .i64 0, .int .u32 0, .int .u64 0, .int .u64 0], .slice none 0 0], []⟩).memory Tryd.f3.params.toList Rows.sealTagsSpec.vars false #[Value.slice none 0 0, Value.agg #[.int .i64 0, .int .i64 0, .int .i64 0, .int .u32 0, .int .u64 0, .int .u64 0], Value.slice none 0 0].toList 8 = some ([.nil, .agg [.lit (.int .i64 0), .lit (.int .i64 0), .lit (.int .i64 0), .lit (.int .u32 0), .lit (.int .u64 0), .lit (.int .u64 0)], .nil], [], places) :=
  ⟨[], by kernel_rfl⟩

set_option maxRecDepth 100000 in
theorem lifted (os : Os) (started : os.Started) (H : Type) (enc : TypeId × Value → H) (F : Stop.Interp) :
    ReturnsInHanded {} Tryd.checked os 3 .any ((OpenSpec.ofChange Rows.sealTagsSpec).preRow enc Tryd.prog Tryd.f3 Rows.sealTagsRow.domain false Rows.sealTagsRow.laid) (((OpenSpec.ofChange Rows.sealTagsSpec).at F).post enc Tryd.prog Tryd.f3 false true false false) := by
  obtain ⟨places, hx⟩ := reads os enc
  refine returnsInHanded_of_row (C := Tryd.checked) (s := OpenSpec.ofChange Rows.sealTagsSpec) own started (by kernel_rfl) Tryd.func3
    (witness_row_at (enc := enc) (C := Tryd.checked) false ({ World.holding Tryd.prog os ⟨#[], #[], []⟩ with heap := (World.holding Tryd.prog os ⟨#[], #[], []⟩).heap.modify 0 fun | .cells _ t frozen => .cells #[.int .i64 1, .int .i64 1, .int .i64 1, .int .i64 1, .int .i64 4, .int .i64 8, .int .i64 8] t frozen | o => o } : World) #[.slice none 0 0, .agg #[.int .i64 0, .int .i64 0, .int .i64 0, .int .u32 0, .int .u64 0, .int .u64 0], .slice none 0 0] rfl (by kernel_rfl) (by kernel_rfl) (by kernel_rfl)
      (OpenSpec.preRow_of_cond 8 hx (by kernel_rfl) (fun k hk => by cases hk) (by kernel_rfl) (laid_met os))) ?_
  intro W base args ds gs before hval hW _ _ _ hL _ _
  exact contract H enc W base args ds gs before hval hW hL

theorem said : Rows.SealTagsSaid :=
  OpenClaim.holds_of_cond 3 Tryd.f3 rfl rfl rfl rfl rfl rfl rfl ⟨rfl, rfl, rfl, rfl, rfl⟩ rfl rfl rfl rfl rfl (by kernel_rfl) Tryd.func3 (by kernel_rfl)
    (of_decide_eq_true (by kernel_rfl)) (by unfold Func.isWrapper; first | (rw [if_pos (by decide +kernel)]; kernel_rfl) | (rw [if_neg (by decide +kernel)]; exact ⟨rfl, rfl⟩))
    (fun os started H enc _ F => by rw [OpenClaim.pre_eq_preRow]; exact lifted os started H enc F)

theorem plain (f : FuncId) (fn : Func) (hf : Tryd.pinned.checked.prog.funcNamed "nepenthe/nepenthelaw16.SealTags" = some f) (hfn : Tryd.pinned.checked.prog.funcs[f]? = some fn) :
    false = Tryd.pinned.checked.prog.looks [] ∧ ∀ (j : Nat) t, fn.params[j]? = some t → Tryd.pinned.checked.prog.wantsStandIn t = false := by
  obtain rfl : f = 3 := Option.some.inj ((show Tryd.prog.funcNamed "nepenthe/nepenthelaw16.SealTags" = some 3 by kernel_rfl).symm.trans hf) |>.symm
  obtain rfl : fn = Tryd.f3 := (Option.some.inj (Tryd.func3.symm.trans hfn)).symm
  refine ⟨by kernel_rfl, fun j t ht => ?_⟩
  rw [Tryd.params3] at ht
  have hm := Array.mem_of_getElem? ht
  simp at hm
  rcases hm with rfl | rfl | rfl
  · exact (show Tryd.prog.wantsStandIn 22 = false by kernel_rfl)
  · exact (show Tryd.prog.wantsStandIn 26 = false by kernel_rfl)
  · exact (show Tryd.prog.wantsStandIn 22 = false by kernel_rfl)
end Go.Proofs.YtbkaecjkgjkheaaDoor.sealTags

namespace Go.Proofs.YtbkaecjkgjkheaaDoor
theorem sealTags_card : Rows.SealTagsCardSaid :=
  Claim7.holds_tied_plain_at .later [] _ _ _ _ sealTags.said (fun _ h => by cases h) (by kernel_rfl) (fun _ h => by cases h) sealTags_row_tie rfl ⟨rfl, rfl⟩ (by kernel_rfl) rfl sealTags.plain (by kernel_rfl)
#print axioms sealTags_card
end Go.Proofs.YtbkaecjkgjkheaaDoor
