/- Any bytes of up to 100, or what is no sector, opened under any keys and head with any tag of up to 100 bytes, or why not, or that the tag does not fit: as the document says. Of sectors of 101 to 4096 bytes, and of longer tags: the program answers. No condition. -/
import Derived.Test.YtbkaecjkgjkheaaGreatDoorCards
import Derived.Test.YtbkaecjkgjkheaaGreatDoorTie
import Derived.Test.YtbkaecjkgjkheaaGreatDoorPackQ
import Derived.Test.YtbkaecjkgjkheaaGreatDoorPackU
namespace Go.Proofs.YtbkaecjkgjkheaaGreatDoor.sealOpens
open Go.ChangeShapes Go.WideShapes Go.ChangeAt Go.RowKit Go.Proofs.YtbkaecjkgjkheaaGreatDoor.se Go.Proofs.YtbkaecjkgjkheaaGreatDoor.he Go.Proofs.YtbkaecjkgjkheaaGreatDoor.pa
set_option maxRecDepth 20000

theorem ld_bytes {w : World} {b p : Nat} {v : Value} (h : w.cell? ⟨b, p, none⟩ = some v) : (Instr.loadAt 22 (.pointer (some ⟨b, p, none⟩))).run Tryz.prog w = .ok v w := by
  have : (loadVar 22 ⟨b, p, none⟩).run Tryz.prog w = .ok v w := by simp [loadVar, isAgg, run_underlying Tryz.underlying22, h]
  simp only [Instr.loadAt, Instr.sureAddr, Sem.run_bind, Sem.run_pure, Result.andThen_ok, this]

set_option maxHeartbeats 8000000 in
theorem walk_s (kv : Value) (ks : List Int) (k n c l e t : Int) (so : Option Addr) (sc : Nat) (ss : List Int) (go : Option Addr) (gc : Nat) (gs : List Int) (w : World) (hk : Byt w kv ks) (hH : Hb l e t) (hs : Byt w (.slice so ss.length sc) ss) (hg : Byt w (.slice go gs.length gc) gs) (hT : Tab w) (hq : ¬ (100 < (ss.length : Int))) (hz : ¬ (100 < (gs.length : Int))) :
    Calls Tryz.prog 4 #[kv, .agg (he.hv k n c l e t).toArray, .agg #[.slice so ss.length sc, .slice go gs.length gc]] w fun x w' => x = .returned (.bool true) ∧ Below w.heap.size w w' := by
  have HT : Hid (Tab w) := hT
  have HG : Hid (Byt w (.slice go gs.length gc) gs) := hg
  by_cases hl : ks.length = 96
  · obtain ⟨ko, kc, rfl⟩ := byt_form hk hl
    have SN : Hid (∀ w0, Below w.heap.size w w0 → Calls Tryz.prog 6 #[.slice ko 96 kc] w0 fun x w' => ∃ p, x = .returned (.tuple #[.pointer (some ⟨p, 0, none⟩), .int .i64 0]) ∧ Kys w' p ks ∧ Below w0.heap.size w0 w') := fun w0 hb => znew_yes _ ks w0 (hk.below hb) hl
    by_cases hr : Rh k n c
    · have SG : Hid (∀ w0, Calls Tryz.prog 8 #[.agg (he.hv k n c l e t).toArray] w0 fun x w' => x = .returned (.bool true) ∧ Below w0.heap.size w0 w') := fun w0 => right_any k n c l e t w0 true ((decide_eq_true (show (1 ≤ k ∧ k ≤ 4 ∧ 0 ≤ n ∧ n ≤ 255 ∧ 0 ≤ c ∧ c ≤ 255) from hr)).symm)
      by_cases hx : 16 ≤ ss.length ∧ ss.length ≤ 4096 ∧ ss.length % 16 = 0
      · have SC : Hid (∀ w0, Below w.heap.size w w0 → Calls Tryz.prog 9 #[.slice so ss.length sc] w0 fun x w' => x = .returned (.bool true) ∧ Below w0.heap.size w0 w') := fun w0 hb => (rsector_any w0 _ ss (hs.below hb) true (decide_eq_true hx).symm).mono fun _ _ ⟨h1, h2⟩ => ⟨h1, by rw [h2]; exact Below.refl _ _⟩
        obtain ⟨N, hN⟩ : ∃ N, N = ss.length / 16 := ⟨_, rfl⟩
        have hsl : ss.length = 16 * N := by omega
        have hN1 : 1 ≤ N := by omega
        have hN2 : N ≤ 256 := by omega
        have ha := hk.all
        have SQ : Hid (∀ w0, Below w.heap.size w w0 → Calls Tryz.prog 13 #[.slice ko 96 kc, .agg (he.hv k n c l e t).toArray, .slice so ss.length sc] w0 fun x w' => ∃ r, x = .returned r ∧ Byt w' r (mc.tagB (mc.blk (kg ks)) ((he.hb k n c l e t) ++ ss)) ∧ Below w0.heap.size w0 w') := fun w0 hb => rztag_any _ ks k n c l e t _ ss w0 (hk.below hb) hl hr hH (hs.below hb) (by omega)
        by_cases hf : gs = (mc.tagB (mc.blk (kg ks)) ((he.hb k n c l e t) ++ ss))
        · have SB : Hid (∀ w0, Calls Tryz.prog 11 #[] w0 fun x w' => ∃ r, x = .returned r ∧ Byt w' r ptab ∧ Below w0.heap.size w0 w') := rtable_any
          have SZ : Hid (∀ w0 p, Below w.heap.size w w0 → Kys w0 p ks → Calls Tryz.prog 14 #[.pointer (some ⟨p, 0, none⟩), .agg (he.hv k n c l e t).toArray, .slice so ss.length sc, .slice go gs.length gc] w0 fun x w' => ∃ xo xc, x = .returned (.tuple #[.slice xo ss.length xc, .int .i64 0]) ∧ Byt w' (.slice xo ss.length xc) (xt.run (xt.xd (kd ks)) (nm16 (encr (kt ks) (twk e t))) ss N) ∧ Below w0.heap.size w0 w') := fun w0 p hb hp => zopen_yes k n c l e t _ ss w0 p ks hp hl hr hH (hT.below hb) (hs.below hb) _ gs (hg.below hb) ha N hsl hN1 hN2 hf
          have SX : Hid (∀ w0 bv, Below w.heap.size w w0 → Byt w0 bv ptab → Calls Tryz.prog 15 #[.slice ko 96 kc, .agg (he.hv k n c l e t).toArray, .slice so ss.length sc, bv] w0 fun x w' => ∃ r, x = .returned r ∧ Byt w' r (xt.run (xt.xd (kd ks)) (nm16 (encr (kt ks) (twk e t))) ss N) ∧ Below w0.heap.size w0 w') := fun w0 bv hb h1 => rzopen_any _ ks k n c l e t _ bv ss N w0 (hk.below hb) hl hH (hs.below hb) h1 hsl hN2
          have HD : Hid (decide (gs = (mc.tagB (mc.blk (kg ks)) ((he.hb k n c l e t) ++ ss))) = true) := decide_eq_true hf
          generalize (xt.run (xt.xd (kd ks)) (nm16 (encr (kt ks) (twk e t))) ss N) = DX at SZ SX
          generalize (mc.tagB (mc.blk (kg ks)) ((he.hb k n c l e t) ++ ss)) = TG at SQ HD
          generalize ptab = PT at SB SX
          clear hk hH hs hg hT hl hr hx hf hN hsl hN1 hN2 ha
          have t0 : (0 : Nat) = 0 := rfl
          go_enter Tryz.func4, Tryz.ntmps4
          go_wp2_with (first
            | (have q5 := t5; go_at_call 9; refine (SC.out w5 BB.out).mono ?_; rintro e9 w6 ⟨rfl, B9⟩; have HB0 : Hid (Vr w6 w.heap.size (he.hv k n c l e t)) := HB0.out.below B9 (range_lt HB0.out.1 (Nat.succ_pos _)); have HB1 : Hid (Vr w6 w1.heap.size ([.slice so ss.length sc, .slice go gs.length gc] : List Value)) := HB1.out.below B9 (range_lt HB1.out.1 (Nat.succ_pos _)); have HX : Hid (Byt w6 (.slice xo ss.length xc) DX) := HX.out.below B9; have BB : Hid (Below w.heap.size w w6) := BB.out.trans (B9.mono BB.out.size); clear hb0_0 hb0_1 hb0_2 hb0_3 hb0_4 hb0_5 hb1_0 hb1_1; have hb0_0 := HB0.out.cell 0 _ rfl; have hb0_1 := HB0.out.cell 1 _ rfl; have hb0_2 := HB0.out.cell 2 _ rfl; have hb0_3 := HB0.out.cell 3 _ rfl; have hb0_4 := HB0.out.cell 4 _ rfl; have hb0_5 := HB0.out.cell 5 _ rfl; have hb1_0 := HB1.out.cell 0 _ rfl; have hb1_1 := HB1.out.cell 1 _ rfl; clear B9; clear t5; have t6 : (1 : Nat) = 1 := rfl)
            | (have q4 := t4; go_at_call 8; refine (SG.out w4).mono ?_; rintro e9 w5 ⟨rfl, B9⟩; have HB0 : Hid (Vr w5 w.heap.size (he.hv k n c l e t)) := HB0.out.below B9 (range_lt HB0.out.1 (Nat.succ_pos _)); have HB1 : Hid (Vr w5 w1.heap.size ([.slice so ss.length sc, .slice go gs.length gc] : List Value)) := HB1.out.below B9 (range_lt HB1.out.1 (Nat.succ_pos _)); have HX : Hid (Byt w5 (.slice xo ss.length xc) DX) := HX.out.below B9; have BB : Hid (Below w.heap.size w w5) := BB.out.trans (B9.mono BB.out.size); clear hb0_0 hb0_1 hb0_2 hb0_3 hb0_4 hb0_5 hb1_0 hb1_1; have hb0_0 := HB0.out.cell 0 _ rfl; have hb0_1 := HB0.out.cell 1 _ rfl; have hb0_2 := HB0.out.cell 2 _ rfl; have hb0_3 := HB0.out.cell 3 _ rfl; have hb0_4 := HB0.out.cell 4 _ rfl; have hb0_5 := HB0.out.cell 5 _ rfl; have hb1_0 := HB1.out.cell 0 _ rfl; have hb1_1 := HB1.out.cell 1 _ rfl; clear B9; clear t4; have t5 : (1 : Nat) = 1 := rfl)
            | (have q3 := t3; go_at_call 14; refine (SZ.out w3 p9 BB.out HK0.out).mono ?_; rintro e9 w4 ⟨xo, xc, rfl, Y8, B9⟩; have HB0 : Hid (Vr w4 w.heap.size (he.hv k n c l e t)) := HB0.out.below B9 (range_lt HB0.out.1 (Nat.succ_pos _)); have HB1 : Hid (Vr w4 w1.heap.size ([.slice so ss.length sc, .slice go gs.length gc] : List Value)) := HB1.out.below B9 (range_lt HB1.out.1 (Nat.succ_pos _)); have HX : Hid (Byt w4 (.slice xo ss.length xc) DX) := Y8; have BB : Hid (Below w.heap.size w w4) := BB.out.trans (B9.mono BB.out.size); clear hb0_0 hb0_1 hb0_2 hb0_3 hb0_4 hb0_5 hb1_0 hb1_1; have hb0_0 := HB0.out.cell 0 _ rfl; have hb0_1 := HB0.out.cell 1 _ rfl; have hb0_2 := HB0.out.cell 2 _ rfl; have hb0_3 := HB0.out.cell 3 _ rfl; have hb0_4 := HB0.out.cell 4 _ rfl; have hb0_5 := HB0.out.cell 5 _ rfl; have hb1_0 := HB1.out.cell 0 _ rfl; have hb1_1 := HB1.out.cell 1 _ rfl; clear B9 Y8 HK0; clear t3; have t4 : (1 : Nat) = 1 := rfl)
            | (have q2 := t2; go_at_call 6; refine (SN.out w2 BB.out).mono ?_; rintro e9 w3 ⟨p9, rfl, K9, B9⟩; have HB0 : Hid (Vr w3 w.heap.size (he.hv k n c l e t)) := HB0.out.below B9 (range_lt HB0.out.1 (Nat.succ_pos _)); have HB1 : Hid (Vr w3 w1.heap.size ([.slice so ss.length sc, .slice go gs.length gc] : List Value)) := HB1.out.below B9 (range_lt HB1.out.1 (Nat.succ_pos _)); have HK0 : Hid (Kys w3 p9 ks) := K9; have BB : Hid (Below w.heap.size w w3) := BB.out.trans (B9.mono BB.out.size); clear hb0_0 hb0_1 hb0_2 hb0_3 hb0_4 hb0_5 hb1_0 hb1_1; have hb0_0 := HB0.out.cell 0 _ rfl; have hb0_1 := HB0.out.cell 1 _ rfl; have hb0_2 := HB0.out.cell 2 _ rfl; have hb0_3 := HB0.out.cell 3 _ rfl; have hb0_4 := HB0.out.cell 4 _ rfl; have hb0_5 := HB0.out.cell 5 _ rfl; have hb1_0 := HB1.out.cell 0 _ rfl; have hb1_1 := HB1.out.cell 1 _ rfl; clear B9 K9; clear t2; have t3 : (1 : Nat) = 1 := rfl)
            | (have q1 := t1; refine box_lawC _ ([.slice so ss.length sc, .slice go gs.length gc] : List Value) rfl ?_; intro w2 X9 B9 l9; have HB0 : Hid (Vr w2 w.heap.size (he.hv k n c l e t)) := HB0.out.below B9 (range_lt HB0.out.1 (Nat.succ_pos _)); have HB1 : Hid (Vr w2 w1.heap.size ([.slice so ss.length sc, .slice go gs.length gc] : List Value)) := X9; have BB : Hid (Below w.heap.size w w2) := BB.out.trans (B9.mono BB.out.size); have hb0_0 := HB0.out.cell 0 _ rfl; have hb0_1 := HB0.out.cell 1 _ rfl; have hb0_2 := HB0.out.cell 2 _ rfl; have hb0_3 := HB0.out.cell 3 _ rfl; have hb0_4 := HB0.out.cell 4 _ rfl; have hb0_5 := HB0.out.cell 5 _ rfl; have hb1_0 := HB1.out.cell 0 _ rfl; have hb1_1 := HB1.out.cell 1 _ rfl; clear X9 B9 l9; clear t1; have t2 : (1 : Nat) = 1 := rfl)
            | (have q0 := t0; refine box_lawC _ (he.hv k n c l e t) rfl ?_; intro w1 X9 B9 l9; have HB0 : Hid (Vr w1 w.heap.size (he.hv k n c l e t)) := X9; have BB : Hid (Below w.heap.size w w1) := B9; clear X9 B9 l9; clear t0; have t1 : (1 : Nat) = 1 := rfl))
          refine wp_region_held_drew (S := fun w' => Below w6.heap.size w6 w') (by kernel_rfl) (Below.refl _ _).drew (fun hS => ?_)
          obtain ⟨x1, hx0⟩ : ∃ x, x = w6.drew := ⟨_, rfl⟩
          rw [← hx0] at hS  ⊢
          clear hx0
          refine take_lawH 0 (some 66) (.pointer (some ⟨w1.heap.size, 1, none⟩)) rfl rfl (by kernel_rfl) (by kernel_rfl) (by kernel_rfl) (fun _ _ _ h => h) (Or.inl ⟨by rfl, fun w' hw' => by go_simp⟩) hS ?_
          simp only [Act.put, List.setIfInBounds_toArray, List.set_cons_zero, List.set_cons_succ]
          refine take_lawH 1 (some 67) (.slice go gs.length gc) rfl rfl (by kernel_rfl) (by kernel_rfl) (by kernel_rfl) (fun _ _ _ h => h) (Or.inl ⟨by rfl, fun w' hw' => by exact exec_loadN 22 (.tmp 66) rfl _ rfl _ _ (ld_bytes ((HB1.out.below hw' (range_lt HB1.out.1 (Nat.succ_pos _))).cell 1 _ rfl))⟩) hS ?_
          simp only [Act.put, List.setIfInBounds_toArray, List.set_cons_zero, List.set_cons_succ]
          refine take_lawH 2 (some 68) (.slice ko 96 kc) rfl rfl (by kernel_rfl) (by kernel_rfl) (by kernel_rfl) (fun _ _ _ h => h) (Or.inl ⟨by rfl, fun w' hw' => by rfl⟩) hS ?_
          simp only [Act.put, List.setIfInBounds_toArray, List.set_cons_zero, List.set_cons_succ]
          refine take_lawH 3 (some 69) (.agg (he.hv k n c l e t).toArray) rfl rfl (by kernel_rfl) (by kernel_rfl) (by kernel_rfl) (fun _ _ _ h => h) (Or.inl ⟨by rfl, fun w' hw' => by exact exec_loadN 26 (.tmp 4) rfl _ rfl _ _ (load_cells rowy_head (HB0.out.below hw' (range_lt HB0.out.1 (Nat.succ_pos _))).1)⟩) hS ?_
          simp only [Act.put, List.setIfInBounds_toArray, List.set_cons_zero, List.set_cons_succ]
          refine take_lawH 4 (some 70) (.slice so ss.length sc) rfl rfl (by kernel_rfl) (by kernel_rfl) (by kernel_rfl) (fun _ _ _ h => h) (Or.inl ⟨by rfl, fun w' hw' => by rfl⟩) hS ?_
          simp only [Act.put, List.setIfInBounds_toArray, List.set_cons_zero, List.set_cons_succ]
          refine wpAnyH_ready (rs := [5]) (by kernel_rfl) (by simp) ?_
          refine AllReadyH.cons rfl (fun K hK => ?_) AllReadyH.nil
          refine step_callW _ (by rfl) (some 71) rfl 13 #[.tmp 68, .tmp 69, .tmp 70] #[22, 26, 22] rfl (fun q w' => by rfl) #[.slice ko 96 kc, .agg (he.hv k n c l e t).toArray, .slice so ss.length sc] (by simp only [List.map_toArray, List.map_cons, List.map_nil]; rfl) (fun u w' => Byt w' u TG ∧ Below x1.heap.size x1 w') ?_ ?_
          · exact SQ.out x1 (BB.out.trans (hS.mono BB.out.size))
          rintro qv x2 ⟨y1, hb⟩
          have YQ : Hid (Byt x2 qv TG) := y1
          clear y1
          have hS : Below w6.heap.size w6 x2 := hS.trans (hb.mono hS.size)
          clear hb
          refine hK.out _ _ hS (fun _ => ?_)
          simp only [Act.put, List.setIfInBounds_toArray, List.set_cons_zero, List.set_cons_succ]
          clear hK K
          refine wpAnyH_ready (rs := [6]) (by kernel_rfl) (by simp) ?_
          refine AllReadyH.cons rfl (fun K hK => ?_) AllReadyH.nil
          refine step_callW _ (by rfl) (some 72) rfl 12 #[.tmp 67, .tmp 71] #[22, 22] rfl (fun q w' => by rfl) #[.slice go gs.length gc, qv] (by simp only [List.map_toArray, List.map_cons, List.map_nil]; rfl) (fun u w' => u = .bool true ∧ Below x2.heap.size x2 w') ?_ ?_
          · exact (same_dec x2 _ _ gs TG (HG.out.below (BB.out.trans (hS.mono BB.out.size))) YQ.out).mono fun e w' ⟨h1, h2⟩ => ⟨_, h1, by rw [HD.out], h2⟩
          rintro _ x3 ⟨rfl, hb⟩
          have hS : Below w6.heap.size w6 x3 := hS.trans (hb.mono hS.size)
          clear hb
          refine hK.out _ _ hS (fun _ => ?_)
          simp only [Act.put, List.setIfInBounds_toArray, List.set_cons_zero, List.set_cons_succ]
          clear hK K
          refine take_lawH 7 (some 73) (.bool false) rfl rfl (by kernel_rfl) (by kernel_rfl) (by kernel_rfl) (fun _ _ _ h => h) (Or.inl ⟨by rfl, fun w' hw' => by rfl⟩) hS ?_
          simp only [Act.put, List.setIfInBounds_toArray, List.set_cons_zero, List.set_cons_succ]
          refine wpAnyH_done (by kernel_rfl) ?_ _
          clear hb0_0 hb0_1 hb0_2 hb0_3 hb0_4 hb0_5 hb1_0 hb1_1
          have HB0 : Hid (Vr x3 w.heap.size (he.hv k n c l e t)) := HB0.out.below hS (range_lt HB0.out.1 (Nat.succ_pos _))
          have HB1 : Hid (Vr x3 w1.heap.size ([.slice so ss.length sc, .slice go gs.length gc] : List Value)) := HB1.out.below hS (range_lt HB1.out.1 (Nat.succ_pos _))
          have HX : Hid (Byt x3 (.slice xo ss.length xc) DX) := HX.out.below hS
          have BB : Hid (Below w.heap.size w x3) := BB.out.trans (hS.mono BB.out.size)
          clear hS
          go_wp2
          refine wp_region_held_drew (S := fun w' => Below x3.heap.size x3 w') (by kernel_rfl) (Below.refl _ _).drew (fun hS => ?_)
          obtain ⟨y1, hx0⟩ : ∃ x, x = x3.drew := ⟨_, rfl⟩
          rw [← hx0] at hS  ⊢
          clear hx0
          refine take_lawH 0 (some 84) (.int .i64 0) rfl rfl (by kernel_rfl) (by kernel_rfl) (by kernel_rfl) (fun _ _ _ h => h) (Or.inl ⟨by rfl, fun w' hw' => by rfl⟩) hS ?_
          simp only [Act.put, List.setIfInBounds_toArray, List.set_cons_zero, List.set_cons_succ]
          refine take_lawH 1 (some 85) (.bool true) rfl rfl (by kernel_rfl) (by kernel_rfl) (by kernel_rfl) (fun _ _ _ h => h) (Or.inl ⟨by rfl, fun w' hw' => by rfl⟩) hS ?_
          simp only [Act.put, List.setIfInBounds_toArray, List.set_cons_zero, List.set_cons_succ]
          refine take_lawH 2 (some 86) (.bool true) rfl rfl (by kernel_rfl) (by kernel_rfl) (by kernel_rfl) (fun _ _ _ h => h) (Or.inl ⟨by rfl, fun w' hw' => by rfl⟩) hS ?_
          simp only [Act.put, List.setIfInBounds_toArray, List.set_cons_zero, List.set_cons_succ]
          refine take_lawH 3 (some 87) (.slice xo ss.length xc) rfl rfl (by kernel_rfl) (by kernel_rfl) (by kernel_rfl) (fun _ _ _ h => h) (Or.inl ⟨by rfl, fun w' hw' => by rfl⟩) hS ?_
          simp only [Act.put, List.setIfInBounds_toArray, List.set_cons_zero, List.set_cons_succ]
          refine take_lawH 4 (some 88) (.slice ko 96 kc) rfl rfl (by kernel_rfl) (by kernel_rfl) (by kernel_rfl) (fun _ _ _ h => h) (Or.inl ⟨by rfl, fun w' hw' => by rfl⟩) hS ?_
          simp only [Act.put, List.setIfInBounds_toArray, List.set_cons_zero, List.set_cons_succ]
          refine take_lawH 5 (some 89) (.agg (he.hv k n c l e t).toArray) rfl rfl (by kernel_rfl) (by kernel_rfl) (by kernel_rfl) (fun _ _ _ h => h) (Or.inl ⟨by rfl, fun w' hw' => by exact exec_loadN 26 (.tmp 4) rfl _ rfl _ _ (load_cells rowy_head (HB0.out.below hw' (range_lt HB0.out.1 (Nat.succ_pos _))).1)⟩) hS ?_
          simp only [Act.put, List.setIfInBounds_toArray, List.set_cons_zero, List.set_cons_succ]
          refine take_lawH 6 (some 90) (.slice so ss.length sc) rfl rfl (by kernel_rfl) (by kernel_rfl) (by kernel_rfl) (fun _ _ _ h => h) (Or.inl ⟨by rfl, fun w' hw' => by rfl⟩) hS ?_
          simp only [Act.put, List.setIfInBounds_toArray, List.set_cons_zero, List.set_cons_succ]
          refine wpAnyH_ready (rs := [7]) (by kernel_rfl) (by simp) ?_
          refine AllReadyH.cons rfl (fun K hK => ?_) AllReadyH.nil
          refine step_callW _ (by rfl) (some 91) rfl 11 #[] #[] rfl (fun q w' => by rfl) #[] (by simp only [List.map_toArray, List.map_nil]) (fun u w' => Byt w' u PT ∧ Below y1.heap.size y1 w') ?_ ?_
          · exact (SB.out y1).mono fun e w' ⟨r, h1, h2, h3⟩ => ⟨r, h1, h2, h3⟩
          rintro tb9 y2 ⟨y1, hb⟩
          have YB : Hid (Byt y2 tb9 PT) := y1
          clear y1
          have hS : Below x3.heap.size x3 y2 := hS.trans (hb.mono hS.size)
          clear hb
          refine hK.out _ _ hS (fun _ => ?_)
          simp only [Act.put, List.setIfInBounds_toArray, List.set_cons_zero, List.set_cons_succ]
          clear hK K
          refine wpAnyH_ready (rs := [8]) (by kernel_rfl) (by simp) ?_
          refine AllReadyH.cons rfl (fun K hK => ?_) AllReadyH.nil
          refine step_callW _ (by rfl) (some 92) rfl 15 #[.tmp 88, .tmp 89, .tmp 90, .tmp 91] #[22, 26, 22, 22] rfl (fun q w' => by rfl) #[.slice ko 96 kc, .agg (he.hv k n c l e t).toArray, .slice so ss.length sc, tb9] (by simp only [List.map_toArray, List.map_cons, List.map_nil]; rfl) (fun u w' => Byt w' u DX ∧ Below y2.heap.size y2 w') ?_ ?_
          · exact SX.out y2 tb9 (BB.out.trans (hS.mono BB.out.size)) YB.out
          rintro zv y3 ⟨y1, hb⟩
          have YZ : Hid (Byt y3 zv DX) := y1
          clear y1
          have hS : Below x3.heap.size x3 y3 := hS.trans (hb.mono hS.size)
          clear hb
          refine hK.out _ _ hS (fun _ => ?_)
          simp only [Act.put, List.setIfInBounds_toArray, List.set_cons_zero, List.set_cons_succ]
          clear hK K
          refine wpAnyH_ready (rs := [9]) (by kernel_rfl) (by simp) ?_
          refine AllReadyH.cons rfl (fun K hK => ?_) AllReadyH.nil
          refine step_callW _ (by rfl) (some 93) rfl 12 #[.tmp 87, .tmp 92] #[22, 22] rfl (fun q w' => by rfl) #[.slice xo ss.length xc, zv] (by simp only [List.map_toArray, List.map_cons, List.map_nil]; rfl) (fun u w' => u = .bool true ∧ Below y3.heap.size y3 w') ?_ ?_
          · exact (same_yes y3 _ _ DX (HX.out.below hS) YZ.out).mono fun e w' ⟨h1, h2⟩ => ⟨_, h1, rfl, h2⟩
          rintro _ y4 ⟨rfl, hb⟩
          have hS : Below x3.heap.size x3 y4 := hS.trans (hb.mono hS.size)
          clear hb
          refine hK.out _ _ hS (fun _ => ?_)
          simp only [Act.put, List.setIfInBounds_toArray, List.set_cons_zero, List.set_cons_succ]
          clear hK K
          refine take_lawH 10 (some 94) (.bool true) rfl rfl (by kernel_rfl) (by kernel_rfl) (by kernel_rfl) (fun _ _ _ h => h) (Or.inl ⟨by rfl, fun w' hw' => by rfl⟩) hS ?_
          simp only [Act.put, List.setIfInBounds_toArray, List.set_cons_zero, List.set_cons_succ]
          refine take_lawH 11 (some 95) (.bool true) rfl rfl (by kernel_rfl) (by kernel_rfl) (by kernel_rfl) (fun _ _ _ h => h) (Or.inl ⟨by rfl, fun w' hw' => by rfl⟩) hS ?_
          simp only [Act.put, List.setIfInBounds_toArray, List.set_cons_zero, List.set_cons_succ]
          refine wpAnyH_ready (rs := [12]) (by kernel_rfl) (by simp) ?_
          refine AllReadyH.cons rfl (fun K hK => ?_) AllReadyH.nil
          refine step_callW _ (by rfl) (some 96) rfl 5 #[] #[] rfl (fun q w' => by rfl) #[] (by simp only [List.map_toArray, List.map_nil]) (fun u w' => u = .bool true ∧ Below y4.heap.size y4 w') ?_ ?_
          · exact (awake_any y4 (HT.out.below (BB.out.trans (hS.mono BB.out.size)))).mono fun e w' ⟨h1, h2⟩ => ⟨_, h1, rfl, h2⟩
          rintro _ y5 ⟨rfl, hb⟩
          have hS : Below x3.heap.size x3 y5 := hS.trans (hb.mono hS.size)
          clear hb
          refine hK.out _ _ hS (fun _ => ?_)
          simp only [Act.put, List.setIfInBounds_toArray, List.set_cons_zero, List.set_cons_succ]
          clear hK K
          refine take_lawH 13 (some 97) (.bool true) rfl rfl (by kernel_rfl) (by kernel_rfl) (by kernel_rfl) (fun _ _ _ h => h) (Or.inl ⟨by rfl, fun w' hw' => by rfl⟩) hS ?_
          simp only [Act.put, List.setIfInBounds_toArray, List.set_cons_zero, List.set_cons_succ]
          refine take_lawH 14 (some 6) (.bool true) rfl rfl (by kernel_rfl) (by kernel_rfl) (by kernel_rfl) (fun _ _ _ h => h) (Or.inl ⟨by rfl, fun w' hw' => by rfl⟩) hS ?_
          simp only [Act.put, List.setIfInBounds_toArray, List.set_cons_zero, List.set_cons_succ]
          refine wpAnyH_done (by kernel_rfl) ?_ _
          have BZ : Hid (Below w.heap.size w _) := BB.out.trans (hS.mono BB.out.size)
          clear hS
          go_wp2
          go_ret
          exact ⟨rfl, BZ.out⟩
        · have SZ : Hid (∀ w0 p, Below w.heap.size w w0 → Kys w0 p ks → Calls Tryz.prog 14 #[.pointer (some ⟨p, 0, none⟩), .agg (he.hv k n c l e t).toArray, .slice so ss.length sc, .slice go gs.length gc] w0 fun x w' => x = .returned (.tuple #[.slice none 0 0, .int .i64 16]) ∧ Below w0.heap.size w0 w') := fun w0 p hb hp => zopen_bad k n c l e t _ ss w0 p ks hp hl hr hH (hT.below hb) (hs.below hb) _ gs (hg.below hb) ha N hsl hN1 hN2 hf
          have HD : Hid (decide (gs = (mc.tagB (mc.blk (kg ks)) ((he.hb k n c l e t) ++ ss))) = false) := decide_eq_false hf
          generalize (mc.tagB (mc.blk (kg ks)) ((he.hb k n c l e t) ++ ss)) = TG at SQ HD
          clear hk hH hs hg hT hl hr hx hf hN hsl hN1 hN2 ha
          have t0 : (0 : Nat) = 0 := rfl
          go_enter Tryz.func4, Tryz.ntmps4
          go_wp2_with (first
            | (have q5 := t5; go_at_call 9; refine (SC.out w5 BB.out).mono ?_; rintro e9 w6 ⟨rfl, B9⟩; have HB0 : Hid (Vr w6 w.heap.size (he.hv k n c l e t)) := HB0.out.below B9 (range_lt HB0.out.1 (Nat.succ_pos _)); have HB1 : Hid (Vr w6 w1.heap.size ([.slice so ss.length sc, .slice go gs.length gc] : List Value)) := HB1.out.below B9 (range_lt HB1.out.1 (Nat.succ_pos _)); have BB : Hid (Below w.heap.size w w6) := BB.out.trans (B9.mono BB.out.size); clear hb0_0 hb0_1 hb0_2 hb0_3 hb0_4 hb0_5 hb1_0 hb1_1; have hb0_0 := HB0.out.cell 0 _ rfl; have hb0_1 := HB0.out.cell 1 _ rfl; have hb0_2 := HB0.out.cell 2 _ rfl; have hb0_3 := HB0.out.cell 3 _ rfl; have hb0_4 := HB0.out.cell 4 _ rfl; have hb0_5 := HB0.out.cell 5 _ rfl; have hb1_0 := HB1.out.cell 0 _ rfl; have hb1_1 := HB1.out.cell 1 _ rfl; clear B9; clear t5; have t6 : (1 : Nat) = 1 := rfl)
            | (have q4 := t4; go_at_call 8; refine (SG.out w4).mono ?_; rintro e9 w5 ⟨rfl, B9⟩; have HB0 : Hid (Vr w5 w.heap.size (he.hv k n c l e t)) := HB0.out.below B9 (range_lt HB0.out.1 (Nat.succ_pos _)); have HB1 : Hid (Vr w5 w1.heap.size ([.slice so ss.length sc, .slice go gs.length gc] : List Value)) := HB1.out.below B9 (range_lt HB1.out.1 (Nat.succ_pos _)); have BB : Hid (Below w.heap.size w w5) := BB.out.trans (B9.mono BB.out.size); clear hb0_0 hb0_1 hb0_2 hb0_3 hb0_4 hb0_5 hb1_0 hb1_1; have hb0_0 := HB0.out.cell 0 _ rfl; have hb0_1 := HB0.out.cell 1 _ rfl; have hb0_2 := HB0.out.cell 2 _ rfl; have hb0_3 := HB0.out.cell 3 _ rfl; have hb0_4 := HB0.out.cell 4 _ rfl; have hb0_5 := HB0.out.cell 5 _ rfl; have hb1_0 := HB1.out.cell 0 _ rfl; have hb1_1 := HB1.out.cell 1 _ rfl; clear B9; clear t4; have t5 : (1 : Nat) = 1 := rfl)
            | (have q3 := t3; go_at_call 14; refine (SZ.out w3 p9 BB.out HK0.out).mono ?_; rintro e9 w4 ⟨rfl, B9⟩; have HB0 : Hid (Vr w4 w.heap.size (he.hv k n c l e t)) := HB0.out.below B9 (range_lt HB0.out.1 (Nat.succ_pos _)); have HB1 : Hid (Vr w4 w1.heap.size ([.slice so ss.length sc, .slice go gs.length gc] : List Value)) := HB1.out.below B9 (range_lt HB1.out.1 (Nat.succ_pos _)); have BB : Hid (Below w.heap.size w w4) := BB.out.trans (B9.mono BB.out.size); clear hb0_0 hb0_1 hb0_2 hb0_3 hb0_4 hb0_5 hb1_0 hb1_1; have hb0_0 := HB0.out.cell 0 _ rfl; have hb0_1 := HB0.out.cell 1 _ rfl; have hb0_2 := HB0.out.cell 2 _ rfl; have hb0_3 := HB0.out.cell 3 _ rfl; have hb0_4 := HB0.out.cell 4 _ rfl; have hb0_5 := HB0.out.cell 5 _ rfl; have hb1_0 := HB1.out.cell 0 _ rfl; have hb1_1 := HB1.out.cell 1 _ rfl; clear B9 HK0; clear t3; have t4 : (1 : Nat) = 1 := rfl)
            | (have q2 := t2; go_at_call 6; refine (SN.out w2 BB.out).mono ?_; rintro e9 w3 ⟨p9, rfl, K9, B9⟩; have HB0 : Hid (Vr w3 w.heap.size (he.hv k n c l e t)) := HB0.out.below B9 (range_lt HB0.out.1 (Nat.succ_pos _)); have HB1 : Hid (Vr w3 w1.heap.size ([.slice so ss.length sc, .slice go gs.length gc] : List Value)) := HB1.out.below B9 (range_lt HB1.out.1 (Nat.succ_pos _)); have HK0 : Hid (Kys w3 p9 ks) := K9; have BB : Hid (Below w.heap.size w w3) := BB.out.trans (B9.mono BB.out.size); clear hb0_0 hb0_1 hb0_2 hb0_3 hb0_4 hb0_5 hb1_0 hb1_1; have hb0_0 := HB0.out.cell 0 _ rfl; have hb0_1 := HB0.out.cell 1 _ rfl; have hb0_2 := HB0.out.cell 2 _ rfl; have hb0_3 := HB0.out.cell 3 _ rfl; have hb0_4 := HB0.out.cell 4 _ rfl; have hb0_5 := HB0.out.cell 5 _ rfl; have hb1_0 := HB1.out.cell 0 _ rfl; have hb1_1 := HB1.out.cell 1 _ rfl; clear B9 K9; clear t2; have t3 : (1 : Nat) = 1 := rfl)
            | (have q1 := t1; refine box_lawC _ ([.slice so ss.length sc, .slice go gs.length gc] : List Value) rfl ?_; intro w2 X9 B9 l9; have HB0 : Hid (Vr w2 w.heap.size (he.hv k n c l e t)) := HB0.out.below B9 (range_lt HB0.out.1 (Nat.succ_pos _)); have HB1 : Hid (Vr w2 w1.heap.size ([.slice so ss.length sc, .slice go gs.length gc] : List Value)) := X9; have BB : Hid (Below w.heap.size w w2) := BB.out.trans (B9.mono BB.out.size); have hb0_0 := HB0.out.cell 0 _ rfl; have hb0_1 := HB0.out.cell 1 _ rfl; have hb0_2 := HB0.out.cell 2 _ rfl; have hb0_3 := HB0.out.cell 3 _ rfl; have hb0_4 := HB0.out.cell 4 _ rfl; have hb0_5 := HB0.out.cell 5 _ rfl; have hb1_0 := HB1.out.cell 0 _ rfl; have hb1_1 := HB1.out.cell 1 _ rfl; clear X9 B9 l9; clear t1; have t2 : (1 : Nat) = 1 := rfl)
            | (have q0 := t0; refine box_lawC _ (he.hv k n c l e t) rfl ?_; intro w1 X9 B9 l9; have HB0 : Hid (Vr w1 w.heap.size (he.hv k n c l e t)) := X9; have BB : Hid (Below w.heap.size w w1) := B9; clear X9 B9 l9; clear t0; have t1 : (1 : Nat) = 1 := rfl))
          refine wp_region_held_drew (S := fun w' => Below w6.heap.size w6 w') (by kernel_rfl) (Below.refl _ _).drew (fun hS => ?_)
          obtain ⟨x1, hx0⟩ : ∃ x, x = w6.drew := ⟨_, rfl⟩
          rw [← hx0] at hS  ⊢
          clear hx0
          refine take_lawH 0 (some 66) (.pointer (some ⟨w1.heap.size, 1, none⟩)) rfl rfl (by kernel_rfl) (by kernel_rfl) (by kernel_rfl) (fun _ _ _ h => h) (Or.inl ⟨by rfl, fun w' hw' => by go_simp⟩) hS ?_
          simp only [Act.put, List.setIfInBounds_toArray, List.set_cons_zero, List.set_cons_succ]
          refine take_lawH 1 (some 67) (.slice go gs.length gc) rfl rfl (by kernel_rfl) (by kernel_rfl) (by kernel_rfl) (fun _ _ _ h => h) (Or.inl ⟨by rfl, fun w' hw' => by exact exec_loadN 22 (.tmp 66) rfl _ rfl _ _ (ld_bytes ((HB1.out.below hw' (range_lt HB1.out.1 (Nat.succ_pos _))).cell 1 _ rfl))⟩) hS ?_
          simp only [Act.put, List.setIfInBounds_toArray, List.set_cons_zero, List.set_cons_succ]
          refine take_lawH 2 (some 68) (.slice ko 96 kc) rfl rfl (by kernel_rfl) (by kernel_rfl) (by kernel_rfl) (fun _ _ _ h => h) (Or.inl ⟨by rfl, fun w' hw' => by rfl⟩) hS ?_
          simp only [Act.put, List.setIfInBounds_toArray, List.set_cons_zero, List.set_cons_succ]
          refine take_lawH 3 (some 69) (.agg (he.hv k n c l e t).toArray) rfl rfl (by kernel_rfl) (by kernel_rfl) (by kernel_rfl) (fun _ _ _ h => h) (Or.inl ⟨by rfl, fun w' hw' => by exact exec_loadN 26 (.tmp 4) rfl _ rfl _ _ (load_cells rowy_head (HB0.out.below hw' (range_lt HB0.out.1 (Nat.succ_pos _))).1)⟩) hS ?_
          simp only [Act.put, List.setIfInBounds_toArray, List.set_cons_zero, List.set_cons_succ]
          refine take_lawH 4 (some 70) (.slice so ss.length sc) rfl rfl (by kernel_rfl) (by kernel_rfl) (by kernel_rfl) (fun _ _ _ h => h) (Or.inl ⟨by rfl, fun w' hw' => by rfl⟩) hS ?_
          simp only [Act.put, List.setIfInBounds_toArray, List.set_cons_zero, List.set_cons_succ]
          refine wpAnyH_ready (rs := [5]) (by kernel_rfl) (by simp) ?_
          refine AllReadyH.cons rfl (fun K hK => ?_) AllReadyH.nil
          refine step_callW _ (by rfl) (some 71) rfl 13 #[.tmp 68, .tmp 69, .tmp 70] #[22, 26, 22] rfl (fun q w' => by rfl) #[.slice ko 96 kc, .agg (he.hv k n c l e t).toArray, .slice so ss.length sc] (by simp only [List.map_toArray, List.map_cons, List.map_nil]; rfl) (fun u w' => Byt w' u TG ∧ Below x1.heap.size x1 w') ?_ ?_
          · exact SQ.out x1 (BB.out.trans (hS.mono BB.out.size))
          rintro qv x2 ⟨y1, hb⟩
          have YQ : Hid (Byt x2 qv TG) := y1
          clear y1
          have hS : Below w6.heap.size w6 x2 := hS.trans (hb.mono hS.size)
          clear hb
          refine hK.out _ _ hS (fun _ => ?_)
          simp only [Act.put, List.setIfInBounds_toArray, List.set_cons_zero, List.set_cons_succ]
          clear hK K
          refine wpAnyH_ready (rs := [6]) (by kernel_rfl) (by simp) ?_
          refine AllReadyH.cons rfl (fun K hK => ?_) AllReadyH.nil
          refine step_callW _ (by rfl) (some 72) rfl 12 #[.tmp 67, .tmp 71] #[22, 22] rfl (fun q w' => by rfl) #[.slice go gs.length gc, qv] (by simp only [List.map_toArray, List.map_cons, List.map_nil]; rfl) (fun u w' => u = .bool false ∧ Below x2.heap.size x2 w') ?_ ?_
          · exact (same_dec x2 _ _ gs TG (HG.out.below (BB.out.trans (hS.mono BB.out.size))) YQ.out).mono fun e w' ⟨h1, h2⟩ => ⟨_, h1, by rw [HD.out], h2⟩
          rintro _ x3 ⟨rfl, hb⟩
          have hS : Below w6.heap.size w6 x3 := hS.trans (hb.mono hS.size)
          clear hb
          refine hK.out _ _ hS (fun _ => ?_)
          simp only [Act.put, List.setIfInBounds_toArray, List.set_cons_zero, List.set_cons_succ]
          clear hK K
          refine take_lawH 7 (some 73) (.bool true) rfl rfl (by kernel_rfl) (by kernel_rfl) (by kernel_rfl) (fun _ _ _ h => h) (Or.inl ⟨by rfl, fun w' hw' => by rfl⟩) hS ?_
          simp only [Act.put, List.setIfInBounds_toArray, List.set_cons_zero, List.set_cons_succ]
          refine wpAnyH_done (by kernel_rfl) ?_ _
          clear hb0_0 hb0_1 hb0_2 hb0_3 hb0_4 hb0_5 hb1_0 hb1_1
          have HB0 : Hid (Vr x3 w.heap.size (he.hv k n c l e t)) := HB0.out.below hS (range_lt HB0.out.1 (Nat.succ_pos _))
          have HB1 : Hid (Vr x3 w1.heap.size ([.slice so ss.length sc, .slice go gs.length gc] : List Value)) := HB1.out.below hS (range_lt HB1.out.1 (Nat.succ_pos _))
          have BB : Hid (Below w.heap.size w x3) := BB.out.trans (hS.mono BB.out.size)
          clear hS
          have hb0_0 := HB0.out.cell 0 _ rfl
          have hb0_1 := HB0.out.cell 1 _ rfl
          have hb0_2 := HB0.out.cell 2 _ rfl
          have hb0_3 := HB0.out.cell 3 _ rfl
          have hb0_4 := HB0.out.cell 4 _ rfl
          have hb0_5 := HB0.out.cell 5 _ rfl
          have hb1_0 := HB1.out.cell 0 _ rfl
          have hb1_1 := HB1.out.cell 1 _ rfl
          have t50 : (1 : Nat) = 1 := rfl
          go_wp2_with (first
            | (have q50 := t50; go_at_call 5; refine (awake_any x3 (HT.out.below BB.out)).mono ?_; rintro e9 w91 ⟨rfl, B9⟩; have HB0 : Hid (Vr w91 w.heap.size (he.hv k n c l e t)) := HB0.out.below B9 (range_lt HB0.out.1 (Nat.succ_pos _)); have HB1 : Hid (Vr w91 w1.heap.size ([.slice so ss.length sc, .slice go gs.length gc] : List Value)) := HB1.out.below B9 (range_lt HB1.out.1 (Nat.succ_pos _)); have BB : Hid (Below w.heap.size w w91) := BB.out.trans (B9.mono BB.out.size); clear hb0_0 hb0_1 hb0_2 hb0_3 hb0_4 hb0_5 hb1_0 hb1_1; have hb0_0 := HB0.out.cell 0 _ rfl; have hb0_1 := HB0.out.cell 1 _ rfl; have hb0_2 := HB0.out.cell 2 _ rfl; have hb0_3 := HB0.out.cell 3 _ rfl; have hb0_4 := HB0.out.cell 4 _ rfl; have hb0_5 := HB0.out.cell 5 _ rfl; have hb1_0 := HB1.out.cell 0 _ rfl; have hb1_1 := HB1.out.cell 1 _ rfl; clear B9; clear t50; have t51 : (1 : Nat) = 1 := rfl))
          go_ret
          exact ⟨rfl, BB.out⟩
      · have SC : Hid (∀ w0, Below w.heap.size w w0 → Calls Tryz.prog 9 #[.slice so ss.length sc] w0 fun x w' => x = .returned (.bool false) ∧ Below w0.heap.size w0 w') := fun w0 hb => (rsector_any w0 _ ss (hs.below hb) false (decide_eq_false hx).symm).mono fun _ _ ⟨h1, h2⟩ => ⟨h1, by rw [h2]; exact Below.refl _ _⟩
        have SZ : Hid (∀ w0 p, Below w.heap.size w w0 → Kys w0 p ks → Calls Tryz.prog 14 #[.pointer (some ⟨p, 0, none⟩), .agg (he.hv k n c l e t).toArray, .slice so ss.length sc, .slice go gs.length gc] w0 fun x w' => x = .returned (.tuple #[.slice none 0 0, .int .i64 2]) ∧ Below w0.heap.size w0 w') := fun w0 p hb hp => zopen_no k n c l e t _ ss w0 p ks hp hl hr hH (hT.below hb) (hs.below hb) _ hx
        clear hk hH hs hg hT hl hr hx
        have t0 : (0 : Nat) = 0 := rfl
        go_enter Tryz.func4, Tryz.ntmps4
        go_wp2_with (first
          | (have q6 := t6; go_at_call 5; refine (awake_any w6 (HT.out.below BB.out)).mono ?_; rintro e9 w7 ⟨rfl, B9⟩; have HB0 : Hid (Vr w7 w.heap.size (he.hv k n c l e t)) := HB0.out.below B9 (range_lt HB0.out.1 (Nat.succ_pos _)); have HB1 : Hid (Vr w7 w1.heap.size ([.slice so ss.length sc, .slice go gs.length gc] : List Value)) := HB1.out.below B9 (range_lt HB1.out.1 (Nat.succ_pos _)); have BB : Hid (Below w.heap.size w w7) := BB.out.trans (B9.mono BB.out.size); clear hb0_0 hb0_1 hb0_2 hb0_3 hb0_4 hb0_5 hb1_0 hb1_1; have hb0_0 := HB0.out.cell 0 _ rfl; have hb0_1 := HB0.out.cell 1 _ rfl; have hb0_2 := HB0.out.cell 2 _ rfl; have hb0_3 := HB0.out.cell 3 _ rfl; have hb0_4 := HB0.out.cell 4 _ rfl; have hb0_5 := HB0.out.cell 5 _ rfl; have hb1_0 := HB1.out.cell 0 _ rfl; have hb1_1 := HB1.out.cell 1 _ rfl; clear B9; clear t6; have t7 : (1 : Nat) = 1 := rfl)
          | (have q5 := t5; go_at_call 9; refine (SC.out w5 BB.out).mono ?_; rintro e9 w6 ⟨rfl, B9⟩; have HB0 : Hid (Vr w6 w.heap.size (he.hv k n c l e t)) := HB0.out.below B9 (range_lt HB0.out.1 (Nat.succ_pos _)); have HB1 : Hid (Vr w6 w1.heap.size ([.slice so ss.length sc, .slice go gs.length gc] : List Value)) := HB1.out.below B9 (range_lt HB1.out.1 (Nat.succ_pos _)); have BB : Hid (Below w.heap.size w w6) := BB.out.trans (B9.mono BB.out.size); clear hb0_0 hb0_1 hb0_2 hb0_3 hb0_4 hb0_5 hb1_0 hb1_1; have hb0_0 := HB0.out.cell 0 _ rfl; have hb0_1 := HB0.out.cell 1 _ rfl; have hb0_2 := HB0.out.cell 2 _ rfl; have hb0_3 := HB0.out.cell 3 _ rfl; have hb0_4 := HB0.out.cell 4 _ rfl; have hb0_5 := HB0.out.cell 5 _ rfl; have hb1_0 := HB1.out.cell 0 _ rfl; have hb1_1 := HB1.out.cell 1 _ rfl; clear B9; clear t5; have t6 : (1 : Nat) = 1 := rfl)
          | (have q4 := t4; go_at_call 8; refine (SG.out w4).mono ?_; rintro e9 w5 ⟨rfl, B9⟩; have HB0 : Hid (Vr w5 w.heap.size (he.hv k n c l e t)) := HB0.out.below B9 (range_lt HB0.out.1 (Nat.succ_pos _)); have HB1 : Hid (Vr w5 w1.heap.size ([.slice so ss.length sc, .slice go gs.length gc] : List Value)) := HB1.out.below B9 (range_lt HB1.out.1 (Nat.succ_pos _)); have BB : Hid (Below w.heap.size w w5) := BB.out.trans (B9.mono BB.out.size); clear hb0_0 hb0_1 hb0_2 hb0_3 hb0_4 hb0_5 hb1_0 hb1_1; have hb0_0 := HB0.out.cell 0 _ rfl; have hb0_1 := HB0.out.cell 1 _ rfl; have hb0_2 := HB0.out.cell 2 _ rfl; have hb0_3 := HB0.out.cell 3 _ rfl; have hb0_4 := HB0.out.cell 4 _ rfl; have hb0_5 := HB0.out.cell 5 _ rfl; have hb1_0 := HB1.out.cell 0 _ rfl; have hb1_1 := HB1.out.cell 1 _ rfl; clear B9; clear t4; have t5 : (1 : Nat) = 1 := rfl)
          | (have q3 := t3; go_at_call 14; refine (SZ.out w3 p9 BB.out HK0.out).mono ?_; rintro e9 w4 ⟨rfl, B9⟩; have HB0 : Hid (Vr w4 w.heap.size (he.hv k n c l e t)) := HB0.out.below B9 (range_lt HB0.out.1 (Nat.succ_pos _)); have HB1 : Hid (Vr w4 w1.heap.size ([.slice so ss.length sc, .slice go gs.length gc] : List Value)) := HB1.out.below B9 (range_lt HB1.out.1 (Nat.succ_pos _)); have BB : Hid (Below w.heap.size w w4) := BB.out.trans (B9.mono BB.out.size); clear hb0_0 hb0_1 hb0_2 hb0_3 hb0_4 hb0_5 hb1_0 hb1_1; have hb0_0 := HB0.out.cell 0 _ rfl; have hb0_1 := HB0.out.cell 1 _ rfl; have hb0_2 := HB0.out.cell 2 _ rfl; have hb0_3 := HB0.out.cell 3 _ rfl; have hb0_4 := HB0.out.cell 4 _ rfl; have hb0_5 := HB0.out.cell 5 _ rfl; have hb1_0 := HB1.out.cell 0 _ rfl; have hb1_1 := HB1.out.cell 1 _ rfl; clear B9 HK0; clear t3; have t4 : (1 : Nat) = 1 := rfl)
          | (have q2 := t2; go_at_call 6; refine (SN.out w2 BB.out).mono ?_; rintro e9 w3 ⟨p9, rfl, K9, B9⟩; have HB0 : Hid (Vr w3 w.heap.size (he.hv k n c l e t)) := HB0.out.below B9 (range_lt HB0.out.1 (Nat.succ_pos _)); have HB1 : Hid (Vr w3 w1.heap.size ([.slice so ss.length sc, .slice go gs.length gc] : List Value)) := HB1.out.below B9 (range_lt HB1.out.1 (Nat.succ_pos _)); have HK0 : Hid (Kys w3 p9 ks) := K9; have BB : Hid (Below w.heap.size w w3) := BB.out.trans (B9.mono BB.out.size); clear hb0_0 hb0_1 hb0_2 hb0_3 hb0_4 hb0_5 hb1_0 hb1_1; have hb0_0 := HB0.out.cell 0 _ rfl; have hb0_1 := HB0.out.cell 1 _ rfl; have hb0_2 := HB0.out.cell 2 _ rfl; have hb0_3 := HB0.out.cell 3 _ rfl; have hb0_4 := HB0.out.cell 4 _ rfl; have hb0_5 := HB0.out.cell 5 _ rfl; have hb1_0 := HB1.out.cell 0 _ rfl; have hb1_1 := HB1.out.cell 1 _ rfl; clear B9 K9; clear t2; have t3 : (1 : Nat) = 1 := rfl)
          | (have q1 := t1; refine box_lawC _ ([.slice so ss.length sc, .slice go gs.length gc] : List Value) rfl ?_; intro w2 X9 B9 l9; have HB0 : Hid (Vr w2 w.heap.size (he.hv k n c l e t)) := HB0.out.below B9 (range_lt HB0.out.1 (Nat.succ_pos _)); have HB1 : Hid (Vr w2 w1.heap.size ([.slice so ss.length sc, .slice go gs.length gc] : List Value)) := X9; have BB : Hid (Below w.heap.size w w2) := BB.out.trans (B9.mono BB.out.size); have hb0_0 := HB0.out.cell 0 _ rfl; have hb0_1 := HB0.out.cell 1 _ rfl; have hb0_2 := HB0.out.cell 2 _ rfl; have hb0_3 := HB0.out.cell 3 _ rfl; have hb0_4 := HB0.out.cell 4 _ rfl; have hb0_5 := HB0.out.cell 5 _ rfl; have hb1_0 := HB1.out.cell 0 _ rfl; have hb1_1 := HB1.out.cell 1 _ rfl; clear X9 B9 l9; clear t1; have t2 : (1 : Nat) = 1 := rfl)
          | (have q0 := t0; refine box_lawC _ (he.hv k n c l e t) rfl ?_; intro w1 X9 B9 l9; have HB0 : Hid (Vr w1 w.heap.size (he.hv k n c l e t)) := X9; have BB : Hid (Below w.heap.size w w1) := B9; clear X9 B9 l9; clear t0; have t1 : (1 : Nat) = 1 := rfl))
        go_ret
        exact ⟨rfl, BB.out⟩
    · have SG : Hid (∀ w0, Calls Tryz.prog 8 #[.agg (he.hv k n c l e t).toArray] w0 fun x w' => x = .returned (.bool false) ∧ Below w0.heap.size w0 w') := fun w0 => right_any k n c l e t w0 false ((decide_eq_false (show ¬ (1 ≤ k ∧ k ≤ 4 ∧ 0 ≤ n ∧ n ≤ 255 ∧ 0 ≤ c ∧ c ≤ 255) from hr)).symm)
      have SZ : Hid (∀ w0 p, Below w.heap.size w w0 → Kys w0 p ks → Calls Tryz.prog 14 #[.pointer (some ⟨p, 0, none⟩), .agg (he.hv k n c l e t).toArray, .slice so ss.length sc, .slice go gs.length gc] w0 fun x w' => x = .returned (.tuple #[.slice none 0 0, .int .i64 2]) ∧ Below w0.heap.size w0 w') := fun w0 p hb hp => zopen_err _ k n c l e t _ _ w0 fun w1 hb1 => zhead_no k n c l e t w1 p ks (hp.below hb1) hr
      clear hk hH hs hg hT hl hr
      have t0 : (0 : Nat) = 0 := rfl
      go_enter Tryz.func4, Tryz.ntmps4
      go_wp2_with (first
        | (have q5 := t5; go_at_call 5; refine (awake_any w5 (HT.out.below BB.out)).mono ?_; rintro e9 w6 ⟨rfl, B9⟩; have HB0 : Hid (Vr w6 w.heap.size (he.hv k n c l e t)) := HB0.out.below B9 (range_lt HB0.out.1 (Nat.succ_pos _)); have HB1 : Hid (Vr w6 w1.heap.size ([.slice so ss.length sc, .slice go gs.length gc] : List Value)) := HB1.out.below B9 (range_lt HB1.out.1 (Nat.succ_pos _)); have BB : Hid (Below w.heap.size w w6) := BB.out.trans (B9.mono BB.out.size); clear hb0_0 hb0_1 hb0_2 hb0_3 hb0_4 hb0_5 hb1_0 hb1_1; have hb0_0 := HB0.out.cell 0 _ rfl; have hb0_1 := HB0.out.cell 1 _ rfl; have hb0_2 := HB0.out.cell 2 _ rfl; have hb0_3 := HB0.out.cell 3 _ rfl; have hb0_4 := HB0.out.cell 4 _ rfl; have hb0_5 := HB0.out.cell 5 _ rfl; have hb1_0 := HB1.out.cell 0 _ rfl; have hb1_1 := HB1.out.cell 1 _ rfl; clear B9; clear t5; have t6 : (1 : Nat) = 1 := rfl)
        | (have q4 := t4; go_at_call 8; refine (SG.out w4).mono ?_; rintro e9 w5 ⟨rfl, B9⟩; have HB0 : Hid (Vr w5 w.heap.size (he.hv k n c l e t)) := HB0.out.below B9 (range_lt HB0.out.1 (Nat.succ_pos _)); have HB1 : Hid (Vr w5 w1.heap.size ([.slice so ss.length sc, .slice go gs.length gc] : List Value)) := HB1.out.below B9 (range_lt HB1.out.1 (Nat.succ_pos _)); have BB : Hid (Below w.heap.size w w5) := BB.out.trans (B9.mono BB.out.size); clear hb0_0 hb0_1 hb0_2 hb0_3 hb0_4 hb0_5 hb1_0 hb1_1; have hb0_0 := HB0.out.cell 0 _ rfl; have hb0_1 := HB0.out.cell 1 _ rfl; have hb0_2 := HB0.out.cell 2 _ rfl; have hb0_3 := HB0.out.cell 3 _ rfl; have hb0_4 := HB0.out.cell 4 _ rfl; have hb0_5 := HB0.out.cell 5 _ rfl; have hb1_0 := HB1.out.cell 0 _ rfl; have hb1_1 := HB1.out.cell 1 _ rfl; clear B9; clear t4; have t5 : (1 : Nat) = 1 := rfl)
        | (have q3 := t3; go_at_call 14; refine (SZ.out w3 p9 BB.out HK0.out).mono ?_; rintro e9 w4 ⟨rfl, B9⟩; have HB0 : Hid (Vr w4 w.heap.size (he.hv k n c l e t)) := HB0.out.below B9 (range_lt HB0.out.1 (Nat.succ_pos _)); have HB1 : Hid (Vr w4 w1.heap.size ([.slice so ss.length sc, .slice go gs.length gc] : List Value)) := HB1.out.below B9 (range_lt HB1.out.1 (Nat.succ_pos _)); have BB : Hid (Below w.heap.size w w4) := BB.out.trans (B9.mono BB.out.size); clear hb0_0 hb0_1 hb0_2 hb0_3 hb0_4 hb0_5 hb1_0 hb1_1; have hb0_0 := HB0.out.cell 0 _ rfl; have hb0_1 := HB0.out.cell 1 _ rfl; have hb0_2 := HB0.out.cell 2 _ rfl; have hb0_3 := HB0.out.cell 3 _ rfl; have hb0_4 := HB0.out.cell 4 _ rfl; have hb0_5 := HB0.out.cell 5 _ rfl; have hb1_0 := HB1.out.cell 0 _ rfl; have hb1_1 := HB1.out.cell 1 _ rfl; clear B9 HK0; clear t3; have t4 : (1 : Nat) = 1 := rfl)
        | (have q2 := t2; go_at_call 6; refine (SN.out w2 BB.out).mono ?_; rintro e9 w3 ⟨p9, rfl, K9, B9⟩; have HB0 : Hid (Vr w3 w.heap.size (he.hv k n c l e t)) := HB0.out.below B9 (range_lt HB0.out.1 (Nat.succ_pos _)); have HB1 : Hid (Vr w3 w1.heap.size ([.slice so ss.length sc, .slice go gs.length gc] : List Value)) := HB1.out.below B9 (range_lt HB1.out.1 (Nat.succ_pos _)); have HK0 : Hid (Kys w3 p9 ks) := K9; have BB : Hid (Below w.heap.size w w3) := BB.out.trans (B9.mono BB.out.size); clear hb0_0 hb0_1 hb0_2 hb0_3 hb0_4 hb0_5 hb1_0 hb1_1; have hb0_0 := HB0.out.cell 0 _ rfl; have hb0_1 := HB0.out.cell 1 _ rfl; have hb0_2 := HB0.out.cell 2 _ rfl; have hb0_3 := HB0.out.cell 3 _ rfl; have hb0_4 := HB0.out.cell 4 _ rfl; have hb0_5 := HB0.out.cell 5 _ rfl; have hb1_0 := HB1.out.cell 0 _ rfl; have hb1_1 := HB1.out.cell 1 _ rfl; clear B9 K9; clear t2; have t3 : (1 : Nat) = 1 := rfl)
        | (have q1 := t1; refine box_lawC _ ([.slice so ss.length sc, .slice go gs.length gc] : List Value) rfl ?_; intro w2 X9 B9 l9; have HB0 : Hid (Vr w2 w.heap.size (he.hv k n c l e t)) := HB0.out.below B9 (range_lt HB0.out.1 (Nat.succ_pos _)); have HB1 : Hid (Vr w2 w1.heap.size ([.slice so ss.length sc, .slice go gs.length gc] : List Value)) := X9; have BB : Hid (Below w.heap.size w w2) := BB.out.trans (B9.mono BB.out.size); have hb0_0 := HB0.out.cell 0 _ rfl; have hb0_1 := HB0.out.cell 1 _ rfl; have hb0_2 := HB0.out.cell 2 _ rfl; have hb0_3 := HB0.out.cell 3 _ rfl; have hb0_4 := HB0.out.cell 4 _ rfl; have hb0_5 := HB0.out.cell 5 _ rfl; have hb1_0 := HB1.out.cell 0 _ rfl; have hb1_1 := HB1.out.cell 1 _ rfl; clear X9 B9 l9; clear t1; have t2 : (1 : Nat) = 1 := rfl)
        | (have q0 := t0; refine box_lawC _ (he.hv k n c l e t) rfl ?_; intro w1 X9 B9 l9; have HB0 : Hid (Vr w1 w.heap.size (he.hv k n c l e t)) := X9; have BB : Hid (Below w.heap.size w w1) := B9; clear X9 B9 l9; clear t0; have t1 : (1 : Nat) = 1 := rfl))
      go_ret
      exact ⟨rfl, BB.out⟩
  · obtain ⟨ko, kc, rfl⟩ : ∃ ao cap, kv = .slice ao ks.length cap := (by obtain ⟨ao, cap, e, _⟩ := hk; exact ⟨ao, cap, e⟩)
    have SN : Hid (∀ w0, Below w.heap.size w w0 → Calls Tryz.prog 6 #[.slice ko ks.length kc] w0 fun x w' => x = .returned (.tuple #[.pointer none, .int .i64 2]) ∧ Below w0.heap.size w0 w') := fun w0 hb => znew_no _ ks w0 (hk.below hb) hl
    have n96 : ((ks.length : Int) != 96) = true := bne_iff_ne.2 (by omega)
    have SZ : Hid (∀ w0, Below w.heap.size w w0 → Calls Tryz.prog 14 #[.pointer none, .agg (he.hv k n c l e t).toArray, .slice so ss.length sc, .slice go gs.length gc] w0 fun x w' => x = .returned (.tuple #[.slice none 0 0, .int .i64 2]) ∧ Below w0.heap.size w0 w') := fun w0 _ => zopen_err _ k n c l e t _ _ w0 fun w1 _ => zhead_nil k n c l e t w1
    clear hk hH hs hg hT hl
    have t0 : (0 : Nat) = 0 := rfl
    go_enter Tryz.func4, Tryz.ntmps4
    go_wp2_with (first
      | (have q4 := t4; go_at_call 5; refine (awake_any w4 (HT.out.below BB.out)).mono ?_; rintro e9 w5 ⟨rfl, B9⟩; have HB0 : Hid (Vr w5 w.heap.size (he.hv k n c l e t)) := HB0.out.below B9 (range_lt HB0.out.1 (Nat.succ_pos _)); have HB1 : Hid (Vr w5 w1.heap.size ([.slice so ss.length sc, .slice go gs.length gc] : List Value)) := HB1.out.below B9 (range_lt HB1.out.1 (Nat.succ_pos _)); have BB : Hid (Below w.heap.size w w5) := BB.out.trans (B9.mono BB.out.size); clear hb0_0 hb0_1 hb0_2 hb0_3 hb0_4 hb0_5 hb1_0 hb1_1; have hb0_0 := HB0.out.cell 0 _ rfl; have hb0_1 := HB0.out.cell 1 _ rfl; have hb0_2 := HB0.out.cell 2 _ rfl; have hb0_3 := HB0.out.cell 3 _ rfl; have hb0_4 := HB0.out.cell 4 _ rfl; have hb0_5 := HB0.out.cell 5 _ rfl; have hb1_0 := HB1.out.cell 0 _ rfl; have hb1_1 := HB1.out.cell 1 _ rfl; clear B9; clear t4; have t5 : (1 : Nat) = 1 := rfl)
      | (have q3 := t3; go_at_call 14; refine (SZ.out w3 BB.out).mono ?_; rintro e9 w4 ⟨rfl, B9⟩; have HB0 : Hid (Vr w4 w.heap.size (he.hv k n c l e t)) := HB0.out.below B9 (range_lt HB0.out.1 (Nat.succ_pos _)); have HB1 : Hid (Vr w4 w1.heap.size ([.slice so ss.length sc, .slice go gs.length gc] : List Value)) := HB1.out.below B9 (range_lt HB1.out.1 (Nat.succ_pos _)); have BB : Hid (Below w.heap.size w w4) := BB.out.trans (B9.mono BB.out.size); clear hb0_0 hb0_1 hb0_2 hb0_3 hb0_4 hb0_5 hb1_0 hb1_1; have hb0_0 := HB0.out.cell 0 _ rfl; have hb0_1 := HB0.out.cell 1 _ rfl; have hb0_2 := HB0.out.cell 2 _ rfl; have hb0_3 := HB0.out.cell 3 _ rfl; have hb0_4 := HB0.out.cell 4 _ rfl; have hb0_5 := HB0.out.cell 5 _ rfl; have hb1_0 := HB1.out.cell 0 _ rfl; have hb1_1 := HB1.out.cell 1 _ rfl; clear B9; clear t3; have t4 : (1 : Nat) = 1 := rfl)
      | (have q2 := t2; go_at_call 6; refine (SN.out w2 BB.out).mono ?_; rintro e9 w3 ⟨rfl, B9⟩; have HB0 : Hid (Vr w3 w.heap.size (he.hv k n c l e t)) := HB0.out.below B9 (range_lt HB0.out.1 (Nat.succ_pos _)); have HB1 : Hid (Vr w3 w1.heap.size ([.slice so ss.length sc, .slice go gs.length gc] : List Value)) := HB1.out.below B9 (range_lt HB1.out.1 (Nat.succ_pos _)); have BB : Hid (Below w.heap.size w w3) := BB.out.trans (B9.mono BB.out.size); clear hb0_0 hb0_1 hb0_2 hb0_3 hb0_4 hb0_5 hb1_0 hb1_1; have hb0_0 := HB0.out.cell 0 _ rfl; have hb0_1 := HB0.out.cell 1 _ rfl; have hb0_2 := HB0.out.cell 2 _ rfl; have hb0_3 := HB0.out.cell 3 _ rfl; have hb0_4 := HB0.out.cell 4 _ rfl; have hb0_5 := HB0.out.cell 5 _ rfl; have hb1_0 := HB1.out.cell 0 _ rfl; have hb1_1 := HB1.out.cell 1 _ rfl; clear B9; clear t2; have t3 : (1 : Nat) = 1 := rfl)
      | (have q1 := t1; refine box_lawC _ ([.slice so ss.length sc, .slice go gs.length gc] : List Value) rfl ?_; intro w2 X9 B9 l9; have HB0 : Hid (Vr w2 w.heap.size (he.hv k n c l e t)) := HB0.out.below B9 (range_lt HB0.out.1 (Nat.succ_pos _)); have HB1 : Hid (Vr w2 w1.heap.size ([.slice so ss.length sc, .slice go gs.length gc] : List Value)) := X9; have BB : Hid (Below w.heap.size w w2) := BB.out.trans (B9.mono BB.out.size); have hb0_0 := HB0.out.cell 0 _ rfl; have hb0_1 := HB0.out.cell 1 _ rfl; have hb0_2 := HB0.out.cell 2 _ rfl; have hb0_3 := HB0.out.cell 3 _ rfl; have hb0_4 := HB0.out.cell 4 _ rfl; have hb0_5 := HB0.out.cell 5 _ rfl; have hb1_0 := HB1.out.cell 0 _ rfl; have hb1_1 := HB1.out.cell 1 _ rfl; clear X9 B9 l9; clear t1; have t2 : (1 : Nat) = 1 := rfl)
      | (have q0 := t0; refine box_lawC _ (he.hv k n c l e t) rfl ?_; intro w1 X9 B9 l9; have HB0 : Hid (Vr w1 w.heap.size (he.hv k n c l e t)) := X9; have BB : Hid (Below w.heap.size w w1) := B9; clear X9 B9 l9; clear t0; have t1 : (1 : Nat) = 1 := rfl))
    go_ret
    exact ⟨rfl, BB.out⟩

set_option maxHeartbeats 8000000 in
theorem walk_g (kv : Value) (ks : List Int) (k n c l e t : Int) (so : Option Addr) (sc : Nat) (ss : List Int) (go : Option Addr) (gc : Nat) (gs : List Int) (w : World) (hk : Byt w kv ks) (hH : Hb l e t) (hs : Byt w (.slice so ss.length sc) ss) (hg : Byt w (.slice go gs.length gc) gs) (hT : Tab w) (hq : (100 < (ss.length : Int))) (hq2 : ¬ ((ss.length : Int) ≤ 4096)) (hz : ¬ (100 < (gs.length : Int))) :
    Calls Tryz.prog 4 #[kv, .agg (he.hv k n c l e t).toArray, .agg #[.slice so ss.length sc, .slice go gs.length gc]] w fun x w' => x = .returned (.bool true) ∧ Below w.heap.size w w' := by
  have HT : Hid (Tab w) := hT
  have HG : Hid (Byt w (.slice go gs.length gc) gs) := hg
  by_cases hl : ks.length = 96
  · obtain ⟨ko, kc, rfl⟩ := byt_form hk hl
    have SN : Hid (∀ w0, Below w.heap.size w w0 → Calls Tryz.prog 6 #[.slice ko 96 kc] w0 fun x w' => ∃ p, x = .returned (.tuple #[.pointer (some ⟨p, 0, none⟩), .int .i64 0]) ∧ Kys w' p ks ∧ Below w0.heap.size w0 w') := fun w0 hb => znew_yes _ ks w0 (hk.below hb) hl
    by_cases hr : Rh k n c
    · have SG : Hid (∀ w0, Calls Tryz.prog 8 #[.agg (he.hv k n c l e t).toArray] w0 fun x w' => x = .returned (.bool true) ∧ Below w0.heap.size w0 w') := fun w0 => right_any k n c l e t w0 true ((decide_eq_true (show (1 ≤ k ∧ k ≤ 4 ∧ 0 ≤ n ∧ n ≤ 255 ∧ 0 ≤ c ∧ c ≤ 255) from hr)).symm)
      have hx : ¬ (16 ≤ ss.length ∧ ss.length ≤ 4096 ∧ ss.length % 16 = 0) := by omega
      have SC : Hid (∀ w0, Below w.heap.size w w0 → Calls Tryz.prog 9 #[.slice so ss.length sc] w0 fun x w' => x = .returned (.bool false) ∧ Below w0.heap.size w0 w') := fun w0 hb => (rsector_any w0 _ ss (hs.below hb) false (decide_eq_false hx).symm).mono fun _ _ ⟨h1, h2⟩ => ⟨h1, by rw [h2]; exact Below.refl _ _⟩
      have SZ : Hid (∀ w0 p, Below w.heap.size w w0 → Kys w0 p ks → Calls Tryz.prog 14 #[.pointer (some ⟨p, 0, none⟩), .agg (he.hv k n c l e t).toArray, .slice so ss.length sc, .slice go gs.length gc] w0 fun x w' => x = .returned (.tuple #[.slice none 0 0, .int .i64 2]) ∧ Below w0.heap.size w0 w') := fun w0 p hb hp => zopen_no k n c l e t _ ss w0 p ks hp hl hr hH (hT.below hb) (hs.below hb) _ hx
      clear hk hH hs hg hT hl hr hx
      have t0 : (0 : Nat) = 0 := rfl
      go_enter Tryz.func4, Tryz.ntmps4
      go_wp2_with (first
        | (have q6 := t6; go_at_call 5; refine (awake_any w6 (HT.out.below BB.out)).mono ?_; rintro e9 w7 ⟨rfl, B9⟩; have HB0 : Hid (Vr w7 w.heap.size (he.hv k n c l e t)) := HB0.out.below B9 (range_lt HB0.out.1 (Nat.succ_pos _)); have HB1 : Hid (Vr w7 w1.heap.size ([.slice so ss.length sc, .slice go gs.length gc] : List Value)) := HB1.out.below B9 (range_lt HB1.out.1 (Nat.succ_pos _)); have BB : Hid (Below w.heap.size w w7) := BB.out.trans (B9.mono BB.out.size); clear hb0_0 hb0_1 hb0_2 hb0_3 hb0_4 hb0_5 hb1_0 hb1_1; have hb0_0 := HB0.out.cell 0 _ rfl; have hb0_1 := HB0.out.cell 1 _ rfl; have hb0_2 := HB0.out.cell 2 _ rfl; have hb0_3 := HB0.out.cell 3 _ rfl; have hb0_4 := HB0.out.cell 4 _ rfl; have hb0_5 := HB0.out.cell 5 _ rfl; have hb1_0 := HB1.out.cell 0 _ rfl; have hb1_1 := HB1.out.cell 1 _ rfl; clear B9; clear t6; have t7 : (1 : Nat) = 1 := rfl)
        | (have q5 := t5; go_at_call 9; refine (SC.out w5 BB.out).mono ?_; rintro e9 w6 ⟨rfl, B9⟩; have HB0 : Hid (Vr w6 w.heap.size (he.hv k n c l e t)) := HB0.out.below B9 (range_lt HB0.out.1 (Nat.succ_pos _)); have HB1 : Hid (Vr w6 w1.heap.size ([.slice so ss.length sc, .slice go gs.length gc] : List Value)) := HB1.out.below B9 (range_lt HB1.out.1 (Nat.succ_pos _)); have BB : Hid (Below w.heap.size w w6) := BB.out.trans (B9.mono BB.out.size); clear hb0_0 hb0_1 hb0_2 hb0_3 hb0_4 hb0_5 hb1_0 hb1_1; have hb0_0 := HB0.out.cell 0 _ rfl; have hb0_1 := HB0.out.cell 1 _ rfl; have hb0_2 := HB0.out.cell 2 _ rfl; have hb0_3 := HB0.out.cell 3 _ rfl; have hb0_4 := HB0.out.cell 4 _ rfl; have hb0_5 := HB0.out.cell 5 _ rfl; have hb1_0 := HB1.out.cell 0 _ rfl; have hb1_1 := HB1.out.cell 1 _ rfl; clear B9; clear t5; have t6 : (1 : Nat) = 1 := rfl)
        | (have q4 := t4; go_at_call 8; refine (SG.out w4).mono ?_; rintro e9 w5 ⟨rfl, B9⟩; have HB0 : Hid (Vr w5 w.heap.size (he.hv k n c l e t)) := HB0.out.below B9 (range_lt HB0.out.1 (Nat.succ_pos _)); have HB1 : Hid (Vr w5 w1.heap.size ([.slice so ss.length sc, .slice go gs.length gc] : List Value)) := HB1.out.below B9 (range_lt HB1.out.1 (Nat.succ_pos _)); have BB : Hid (Below w.heap.size w w5) := BB.out.trans (B9.mono BB.out.size); clear hb0_0 hb0_1 hb0_2 hb0_3 hb0_4 hb0_5 hb1_0 hb1_1; have hb0_0 := HB0.out.cell 0 _ rfl; have hb0_1 := HB0.out.cell 1 _ rfl; have hb0_2 := HB0.out.cell 2 _ rfl; have hb0_3 := HB0.out.cell 3 _ rfl; have hb0_4 := HB0.out.cell 4 _ rfl; have hb0_5 := HB0.out.cell 5 _ rfl; have hb1_0 := HB1.out.cell 0 _ rfl; have hb1_1 := HB1.out.cell 1 _ rfl; clear B9; clear t4; have t5 : (1 : Nat) = 1 := rfl)
        | (have q3 := t3; go_at_call 14; refine (SZ.out w3 p9 BB.out HK0.out).mono ?_; rintro e9 w4 ⟨rfl, B9⟩; have HB0 : Hid (Vr w4 w.heap.size (he.hv k n c l e t)) := HB0.out.below B9 (range_lt HB0.out.1 (Nat.succ_pos _)); have HB1 : Hid (Vr w4 w1.heap.size ([.slice so ss.length sc, .slice go gs.length gc] : List Value)) := HB1.out.below B9 (range_lt HB1.out.1 (Nat.succ_pos _)); have BB : Hid (Below w.heap.size w w4) := BB.out.trans (B9.mono BB.out.size); clear hb0_0 hb0_1 hb0_2 hb0_3 hb0_4 hb0_5 hb1_0 hb1_1; have hb0_0 := HB0.out.cell 0 _ rfl; have hb0_1 := HB0.out.cell 1 _ rfl; have hb0_2 := HB0.out.cell 2 _ rfl; have hb0_3 := HB0.out.cell 3 _ rfl; have hb0_4 := HB0.out.cell 4 _ rfl; have hb0_5 := HB0.out.cell 5 _ rfl; have hb1_0 := HB1.out.cell 0 _ rfl; have hb1_1 := HB1.out.cell 1 _ rfl; clear B9 HK0; clear t3; have t4 : (1 : Nat) = 1 := rfl)
        | (have q2 := t2; go_at_call 6; refine (SN.out w2 BB.out).mono ?_; rintro e9 w3 ⟨p9, rfl, K9, B9⟩; have HB0 : Hid (Vr w3 w.heap.size (he.hv k n c l e t)) := HB0.out.below B9 (range_lt HB0.out.1 (Nat.succ_pos _)); have HB1 : Hid (Vr w3 w1.heap.size ([.slice so ss.length sc, .slice go gs.length gc] : List Value)) := HB1.out.below B9 (range_lt HB1.out.1 (Nat.succ_pos _)); have HK0 : Hid (Kys w3 p9 ks) := K9; have BB : Hid (Below w.heap.size w w3) := BB.out.trans (B9.mono BB.out.size); clear hb0_0 hb0_1 hb0_2 hb0_3 hb0_4 hb0_5 hb1_0 hb1_1; have hb0_0 := HB0.out.cell 0 _ rfl; have hb0_1 := HB0.out.cell 1 _ rfl; have hb0_2 := HB0.out.cell 2 _ rfl; have hb0_3 := HB0.out.cell 3 _ rfl; have hb0_4 := HB0.out.cell 4 _ rfl; have hb0_5 := HB0.out.cell 5 _ rfl; have hb1_0 := HB1.out.cell 0 _ rfl; have hb1_1 := HB1.out.cell 1 _ rfl; clear B9 K9; clear t2; have t3 : (1 : Nat) = 1 := rfl)
        | (have q1 := t1; refine box_lawC _ ([.slice so ss.length sc, .slice go gs.length gc] : List Value) rfl ?_; intro w2 X9 B9 l9; have HB0 : Hid (Vr w2 w.heap.size (he.hv k n c l e t)) := HB0.out.below B9 (range_lt HB0.out.1 (Nat.succ_pos _)); have HB1 : Hid (Vr w2 w1.heap.size ([.slice so ss.length sc, .slice go gs.length gc] : List Value)) := X9; have BB : Hid (Below w.heap.size w w2) := BB.out.trans (B9.mono BB.out.size); have hb0_0 := HB0.out.cell 0 _ rfl; have hb0_1 := HB0.out.cell 1 _ rfl; have hb0_2 := HB0.out.cell 2 _ rfl; have hb0_3 := HB0.out.cell 3 _ rfl; have hb0_4 := HB0.out.cell 4 _ rfl; have hb0_5 := HB0.out.cell 5 _ rfl; have hb1_0 := HB1.out.cell 0 _ rfl; have hb1_1 := HB1.out.cell 1 _ rfl; clear X9 B9 l9; clear t1; have t2 : (1 : Nat) = 1 := rfl)
        | (have q0 := t0; refine box_lawC _ (he.hv k n c l e t) rfl ?_; intro w1 X9 B9 l9; have HB0 : Hid (Vr w1 w.heap.size (he.hv k n c l e t)) := X9; have BB : Hid (Below w.heap.size w w1) := B9; clear X9 B9 l9; clear t0; have t1 : (1 : Nat) = 1 := rfl))
      go_ret
      exact ⟨rfl, BB.out⟩
    · have SG : Hid (∀ w0, Calls Tryz.prog 8 #[.agg (he.hv k n c l e t).toArray] w0 fun x w' => x = .returned (.bool false) ∧ Below w0.heap.size w0 w') := fun w0 => right_any k n c l e t w0 false ((decide_eq_false (show ¬ (1 ≤ k ∧ k ≤ 4 ∧ 0 ≤ n ∧ n ≤ 255 ∧ 0 ≤ c ∧ c ≤ 255) from hr)).symm)
      have SZ : Hid (∀ w0 p, Below w.heap.size w w0 → Kys w0 p ks → Calls Tryz.prog 14 #[.pointer (some ⟨p, 0, none⟩), .agg (he.hv k n c l e t).toArray, .slice so ss.length sc, .slice go gs.length gc] w0 fun x w' => x = .returned (.tuple #[.slice none 0 0, .int .i64 2]) ∧ Below w0.heap.size w0 w') := fun w0 p hb hp => zopen_err _ k n c l e t _ _ w0 fun w1 hb1 => zhead_no k n c l e t w1 p ks (hp.below hb1) hr
      clear hk hH hs hg hT hl hr
      have t0 : (0 : Nat) = 0 := rfl
      go_enter Tryz.func4, Tryz.ntmps4
      go_wp2_with (first
        | (have q5 := t5; go_at_call 5; refine (awake_any w5 (HT.out.below BB.out)).mono ?_; rintro e9 w6 ⟨rfl, B9⟩; have HB0 : Hid (Vr w6 w.heap.size (he.hv k n c l e t)) := HB0.out.below B9 (range_lt HB0.out.1 (Nat.succ_pos _)); have HB1 : Hid (Vr w6 w1.heap.size ([.slice so ss.length sc, .slice go gs.length gc] : List Value)) := HB1.out.below B9 (range_lt HB1.out.1 (Nat.succ_pos _)); have BB : Hid (Below w.heap.size w w6) := BB.out.trans (B9.mono BB.out.size); clear hb0_0 hb0_1 hb0_2 hb0_3 hb0_4 hb0_5 hb1_0 hb1_1; have hb0_0 := HB0.out.cell 0 _ rfl; have hb0_1 := HB0.out.cell 1 _ rfl; have hb0_2 := HB0.out.cell 2 _ rfl; have hb0_3 := HB0.out.cell 3 _ rfl; have hb0_4 := HB0.out.cell 4 _ rfl; have hb0_5 := HB0.out.cell 5 _ rfl; have hb1_0 := HB1.out.cell 0 _ rfl; have hb1_1 := HB1.out.cell 1 _ rfl; clear B9; clear t5; have t6 : (1 : Nat) = 1 := rfl)
        | (have q4 := t4; go_at_call 8; refine (SG.out w4).mono ?_; rintro e9 w5 ⟨rfl, B9⟩; have HB0 : Hid (Vr w5 w.heap.size (he.hv k n c l e t)) := HB0.out.below B9 (range_lt HB0.out.1 (Nat.succ_pos _)); have HB1 : Hid (Vr w5 w1.heap.size ([.slice so ss.length sc, .slice go gs.length gc] : List Value)) := HB1.out.below B9 (range_lt HB1.out.1 (Nat.succ_pos _)); have BB : Hid (Below w.heap.size w w5) := BB.out.trans (B9.mono BB.out.size); clear hb0_0 hb0_1 hb0_2 hb0_3 hb0_4 hb0_5 hb1_0 hb1_1; have hb0_0 := HB0.out.cell 0 _ rfl; have hb0_1 := HB0.out.cell 1 _ rfl; have hb0_2 := HB0.out.cell 2 _ rfl; have hb0_3 := HB0.out.cell 3 _ rfl; have hb0_4 := HB0.out.cell 4 _ rfl; have hb0_5 := HB0.out.cell 5 _ rfl; have hb1_0 := HB1.out.cell 0 _ rfl; have hb1_1 := HB1.out.cell 1 _ rfl; clear B9; clear t4; have t5 : (1 : Nat) = 1 := rfl)
        | (have q3 := t3; go_at_call 14; refine (SZ.out w3 p9 BB.out HK0.out).mono ?_; rintro e9 w4 ⟨rfl, B9⟩; have HB0 : Hid (Vr w4 w.heap.size (he.hv k n c l e t)) := HB0.out.below B9 (range_lt HB0.out.1 (Nat.succ_pos _)); have HB1 : Hid (Vr w4 w1.heap.size ([.slice so ss.length sc, .slice go gs.length gc] : List Value)) := HB1.out.below B9 (range_lt HB1.out.1 (Nat.succ_pos _)); have BB : Hid (Below w.heap.size w w4) := BB.out.trans (B9.mono BB.out.size); clear hb0_0 hb0_1 hb0_2 hb0_3 hb0_4 hb0_5 hb1_0 hb1_1; have hb0_0 := HB0.out.cell 0 _ rfl; have hb0_1 := HB0.out.cell 1 _ rfl; have hb0_2 := HB0.out.cell 2 _ rfl; have hb0_3 := HB0.out.cell 3 _ rfl; have hb0_4 := HB0.out.cell 4 _ rfl; have hb0_5 := HB0.out.cell 5 _ rfl; have hb1_0 := HB1.out.cell 0 _ rfl; have hb1_1 := HB1.out.cell 1 _ rfl; clear B9 HK0; clear t3; have t4 : (1 : Nat) = 1 := rfl)
        | (have q2 := t2; go_at_call 6; refine (SN.out w2 BB.out).mono ?_; rintro e9 w3 ⟨p9, rfl, K9, B9⟩; have HB0 : Hid (Vr w3 w.heap.size (he.hv k n c l e t)) := HB0.out.below B9 (range_lt HB0.out.1 (Nat.succ_pos _)); have HB1 : Hid (Vr w3 w1.heap.size ([.slice so ss.length sc, .slice go gs.length gc] : List Value)) := HB1.out.below B9 (range_lt HB1.out.1 (Nat.succ_pos _)); have HK0 : Hid (Kys w3 p9 ks) := K9; have BB : Hid (Below w.heap.size w w3) := BB.out.trans (B9.mono BB.out.size); clear hb0_0 hb0_1 hb0_2 hb0_3 hb0_4 hb0_5 hb1_0 hb1_1; have hb0_0 := HB0.out.cell 0 _ rfl; have hb0_1 := HB0.out.cell 1 _ rfl; have hb0_2 := HB0.out.cell 2 _ rfl; have hb0_3 := HB0.out.cell 3 _ rfl; have hb0_4 := HB0.out.cell 4 _ rfl; have hb0_5 := HB0.out.cell 5 _ rfl; have hb1_0 := HB1.out.cell 0 _ rfl; have hb1_1 := HB1.out.cell 1 _ rfl; clear B9 K9; clear t2; have t3 : (1 : Nat) = 1 := rfl)
        | (have q1 := t1; refine box_lawC _ ([.slice so ss.length sc, .slice go gs.length gc] : List Value) rfl ?_; intro w2 X9 B9 l9; have HB0 : Hid (Vr w2 w.heap.size (he.hv k n c l e t)) := HB0.out.below B9 (range_lt HB0.out.1 (Nat.succ_pos _)); have HB1 : Hid (Vr w2 w1.heap.size ([.slice so ss.length sc, .slice go gs.length gc] : List Value)) := X9; have BB : Hid (Below w.heap.size w w2) := BB.out.trans (B9.mono BB.out.size); have hb0_0 := HB0.out.cell 0 _ rfl; have hb0_1 := HB0.out.cell 1 _ rfl; have hb0_2 := HB0.out.cell 2 _ rfl; have hb0_3 := HB0.out.cell 3 _ rfl; have hb0_4 := HB0.out.cell 4 _ rfl; have hb0_5 := HB0.out.cell 5 _ rfl; have hb1_0 := HB1.out.cell 0 _ rfl; have hb1_1 := HB1.out.cell 1 _ rfl; clear X9 B9 l9; clear t1; have t2 : (1 : Nat) = 1 := rfl)
        | (have q0 := t0; refine box_lawC _ (he.hv k n c l e t) rfl ?_; intro w1 X9 B9 l9; have HB0 : Hid (Vr w1 w.heap.size (he.hv k n c l e t)) := X9; have BB : Hid (Below w.heap.size w w1) := B9; clear X9 B9 l9; clear t0; have t1 : (1 : Nat) = 1 := rfl))
      go_ret
      exact ⟨rfl, BB.out⟩
  · obtain ⟨ko, kc, rfl⟩ : ∃ ao cap, kv = .slice ao ks.length cap := (by obtain ⟨ao, cap, e, _⟩ := hk; exact ⟨ao, cap, e⟩)
    have SN : Hid (∀ w0, Below w.heap.size w w0 → Calls Tryz.prog 6 #[.slice ko ks.length kc] w0 fun x w' => x = .returned (.tuple #[.pointer none, .int .i64 2]) ∧ Below w0.heap.size w0 w') := fun w0 hb => znew_no _ ks w0 (hk.below hb) hl
    have n96 : ((ks.length : Int) != 96) = true := bne_iff_ne.2 (by omega)
    have SZ : Hid (∀ w0, Below w.heap.size w w0 → Calls Tryz.prog 14 #[.pointer none, .agg (he.hv k n c l e t).toArray, .slice so ss.length sc, .slice go gs.length gc] w0 fun x w' => x = .returned (.tuple #[.slice none 0 0, .int .i64 2]) ∧ Below w0.heap.size w0 w') := fun w0 _ => zopen_err _ k n c l e t _ _ w0 fun w1 _ => zhead_nil k n c l e t w1
    clear hk hH hs hg hT hl
    have t0 : (0 : Nat) = 0 := rfl
    go_enter Tryz.func4, Tryz.ntmps4
    go_wp2_with (first
      | (have q4 := t4; go_at_call 5; refine (awake_any w4 (HT.out.below BB.out)).mono ?_; rintro e9 w5 ⟨rfl, B9⟩; have HB0 : Hid (Vr w5 w.heap.size (he.hv k n c l e t)) := HB0.out.below B9 (range_lt HB0.out.1 (Nat.succ_pos _)); have HB1 : Hid (Vr w5 w1.heap.size ([.slice so ss.length sc, .slice go gs.length gc] : List Value)) := HB1.out.below B9 (range_lt HB1.out.1 (Nat.succ_pos _)); have BB : Hid (Below w.heap.size w w5) := BB.out.trans (B9.mono BB.out.size); clear hb0_0 hb0_1 hb0_2 hb0_3 hb0_4 hb0_5 hb1_0 hb1_1; have hb0_0 := HB0.out.cell 0 _ rfl; have hb0_1 := HB0.out.cell 1 _ rfl; have hb0_2 := HB0.out.cell 2 _ rfl; have hb0_3 := HB0.out.cell 3 _ rfl; have hb0_4 := HB0.out.cell 4 _ rfl; have hb0_5 := HB0.out.cell 5 _ rfl; have hb1_0 := HB1.out.cell 0 _ rfl; have hb1_1 := HB1.out.cell 1 _ rfl; clear B9; clear t4; have t5 : (1 : Nat) = 1 := rfl)
      | (have q3 := t3; go_at_call 14; refine (SZ.out w3 BB.out).mono ?_; rintro e9 w4 ⟨rfl, B9⟩; have HB0 : Hid (Vr w4 w.heap.size (he.hv k n c l e t)) := HB0.out.below B9 (range_lt HB0.out.1 (Nat.succ_pos _)); have HB1 : Hid (Vr w4 w1.heap.size ([.slice so ss.length sc, .slice go gs.length gc] : List Value)) := HB1.out.below B9 (range_lt HB1.out.1 (Nat.succ_pos _)); have BB : Hid (Below w.heap.size w w4) := BB.out.trans (B9.mono BB.out.size); clear hb0_0 hb0_1 hb0_2 hb0_3 hb0_4 hb0_5 hb1_0 hb1_1; have hb0_0 := HB0.out.cell 0 _ rfl; have hb0_1 := HB0.out.cell 1 _ rfl; have hb0_2 := HB0.out.cell 2 _ rfl; have hb0_3 := HB0.out.cell 3 _ rfl; have hb0_4 := HB0.out.cell 4 _ rfl; have hb0_5 := HB0.out.cell 5 _ rfl; have hb1_0 := HB1.out.cell 0 _ rfl; have hb1_1 := HB1.out.cell 1 _ rfl; clear B9; clear t3; have t4 : (1 : Nat) = 1 := rfl)
      | (have q2 := t2; go_at_call 6; refine (SN.out w2 BB.out).mono ?_; rintro e9 w3 ⟨rfl, B9⟩; have HB0 : Hid (Vr w3 w.heap.size (he.hv k n c l e t)) := HB0.out.below B9 (range_lt HB0.out.1 (Nat.succ_pos _)); have HB1 : Hid (Vr w3 w1.heap.size ([.slice so ss.length sc, .slice go gs.length gc] : List Value)) := HB1.out.below B9 (range_lt HB1.out.1 (Nat.succ_pos _)); have BB : Hid (Below w.heap.size w w3) := BB.out.trans (B9.mono BB.out.size); clear hb0_0 hb0_1 hb0_2 hb0_3 hb0_4 hb0_5 hb1_0 hb1_1; have hb0_0 := HB0.out.cell 0 _ rfl; have hb0_1 := HB0.out.cell 1 _ rfl; have hb0_2 := HB0.out.cell 2 _ rfl; have hb0_3 := HB0.out.cell 3 _ rfl; have hb0_4 := HB0.out.cell 4 _ rfl; have hb0_5 := HB0.out.cell 5 _ rfl; have hb1_0 := HB1.out.cell 0 _ rfl; have hb1_1 := HB1.out.cell 1 _ rfl; clear B9; clear t2; have t3 : (1 : Nat) = 1 := rfl)
      | (have q1 := t1; refine box_lawC _ ([.slice so ss.length sc, .slice go gs.length gc] : List Value) rfl ?_; intro w2 X9 B9 l9; have HB0 : Hid (Vr w2 w.heap.size (he.hv k n c l e t)) := HB0.out.below B9 (range_lt HB0.out.1 (Nat.succ_pos _)); have HB1 : Hid (Vr w2 w1.heap.size ([.slice so ss.length sc, .slice go gs.length gc] : List Value)) := X9; have BB : Hid (Below w.heap.size w w2) := BB.out.trans (B9.mono BB.out.size); have hb0_0 := HB0.out.cell 0 _ rfl; have hb0_1 := HB0.out.cell 1 _ rfl; have hb0_2 := HB0.out.cell 2 _ rfl; have hb0_3 := HB0.out.cell 3 _ rfl; have hb0_4 := HB0.out.cell 4 _ rfl; have hb0_5 := HB0.out.cell 5 _ rfl; have hb1_0 := HB1.out.cell 0 _ rfl; have hb1_1 := HB1.out.cell 1 _ rfl; clear X9 B9 l9; clear t1; have t2 : (1 : Nat) = 1 := rfl)
      | (have q0 := t0; refine box_lawC _ (he.hv k n c l e t) rfl ?_; intro w1 X9 B9 l9; have HB0 : Hid (Vr w1 w.heap.size (he.hv k n c l e t)) := X9; have BB : Hid (Below w.heap.size w w1) := B9; clear X9 B9 l9; clear t0; have t1 : (1 : Nat) = 1 := rfl))
    go_ret
    exact ⟨rfl, BB.out⟩

set_option maxHeartbeats 2000000 in
theorem walk_a (kv : Value) (k n c l e t : Int) (so : Option Addr) (sc : Nat) (ss : List Int) (go : Option Addr) (gc : Nat) (gs : List Int) (w : World) (hT : Tab w) (hq : (100 < (ss.length : Int))) (hq2 : (ss.length : Int) ≤ 4096) :
    Calls Tryz.prog 4 #[kv, .agg (he.hv k n c l e t).toArray, .agg #[.slice so ss.length sc, .slice go gs.length gc]] w fun x w' => x = .returned (.bool true) ∧ Below w.heap.size w w' := by
  have HT : Hid (Tab w) := hT
  clear hT
  have t0 : (0 : Nat) = 0 := rfl
  go_enter Tryz.func4, Tryz.ntmps4
  go_wp2_with (first
    | (have q2 := t2; go_at_call 5; refine (awake_any w2 (HT.out.below BB.out)).mono ?_; rintro e9 w3 ⟨rfl, B9⟩; have HB0 : Hid (Vr w3 w.heap.size (he.hv k n c l e t)) := HB0.out.below B9 (range_lt HB0.out.1 (Nat.succ_pos _)); have HB1 : Hid (Vr w3 w1.heap.size ([.slice so ss.length sc, .slice go gs.length gc] : List Value)) := HB1.out.below B9 (range_lt HB1.out.1 (Nat.succ_pos _)); have BB : Hid (Below w.heap.size w w3) := BB.out.trans (B9.mono BB.out.size); clear hb0_0 hb0_1 hb0_2 hb0_3 hb0_4 hb0_5 hb1_0 hb1_1; have hb0_0 := HB0.out.cell 0 _ rfl; have hb0_1 := HB0.out.cell 1 _ rfl; have hb0_2 := HB0.out.cell 2 _ rfl; have hb0_3 := HB0.out.cell 3 _ rfl; have hb0_4 := HB0.out.cell 4 _ rfl; have hb0_5 := HB0.out.cell 5 _ rfl; have hb1_0 := HB1.out.cell 0 _ rfl; have hb1_1 := HB1.out.cell 1 _ rfl; clear B9; clear t2; have t3 : (1 : Nat) = 1 := rfl)
    | (have q1 := t1; refine box_lawC _ ([.slice so ss.length sc, .slice go gs.length gc] : List Value) rfl ?_; intro w2 X9 B9 l9; have HB0 : Hid (Vr w2 w.heap.size (he.hv k n c l e t)) := HB0.out.below B9 (range_lt HB0.out.1 (Nat.succ_pos _)); have HB1 : Hid (Vr w2 w1.heap.size ([.slice so ss.length sc, .slice go gs.length gc] : List Value)) := X9; have BB : Hid (Below w.heap.size w w2) := BB.out.trans (B9.mono BB.out.size); have hb0_0 := HB0.out.cell 0 _ rfl; have hb0_1 := HB0.out.cell 1 _ rfl; have hb0_2 := HB0.out.cell 2 _ rfl; have hb0_3 := HB0.out.cell 3 _ rfl; have hb0_4 := HB0.out.cell 4 _ rfl; have hb0_5 := HB0.out.cell 5 _ rfl; have hb1_0 := HB1.out.cell 0 _ rfl; have hb1_1 := HB1.out.cell 1 _ rfl; clear X9 B9 l9; clear t1; have t2 : (1 : Nat) = 1 := rfl)
    | (have q0 := t0; refine box_lawC _ (he.hv k n c l e t) rfl ?_; intro w1 X9 B9 l9; have HB0 : Hid (Vr w1 w.heap.size (he.hv k n c l e t)) := X9; have BB : Hid (Below w.heap.size w w1) := B9; clear X9 B9 l9; clear t0; have t1 : (1 : Nat) = 1 := rfl))
  go_ret
  exact ⟨rfl, BB.out⟩

set_option maxHeartbeats 2000000 in
theorem walk_b (kv : Value) (k n c l e t : Int) (so : Option Addr) (sc : Nat) (ss : List Int) (go : Option Addr) (gc : Nat) (gs : List Int) (w : World) (hT : Tab w) (hq : ¬ (100 < (ss.length : Int))) (hz : (100 < (gs.length : Int))) :
    Calls Tryz.prog 4 #[kv, .agg (he.hv k n c l e t).toArray, .agg #[.slice so ss.length sc, .slice go gs.length gc]] w fun x w' => x = .returned (.bool true) ∧ Below w.heap.size w w' := by
  have HT : Hid (Tab w) := hT
  clear hT
  have t0 : (0 : Nat) = 0 := rfl
  go_enter Tryz.func4, Tryz.ntmps4
  go_wp2_with (first
    | (have q2 := t2; go_at_call 5; refine (awake_any w2 (HT.out.below BB.out)).mono ?_; rintro e9 w3 ⟨rfl, B9⟩; have HB0 : Hid (Vr w3 w.heap.size (he.hv k n c l e t)) := HB0.out.below B9 (range_lt HB0.out.1 (Nat.succ_pos _)); have HB1 : Hid (Vr w3 w1.heap.size ([.slice so ss.length sc, .slice go gs.length gc] : List Value)) := HB1.out.below B9 (range_lt HB1.out.1 (Nat.succ_pos _)); have BB : Hid (Below w.heap.size w w3) := BB.out.trans (B9.mono BB.out.size); clear hb0_0 hb0_1 hb0_2 hb0_3 hb0_4 hb0_5 hb1_0 hb1_1; have hb0_0 := HB0.out.cell 0 _ rfl; have hb0_1 := HB0.out.cell 1 _ rfl; have hb0_2 := HB0.out.cell 2 _ rfl; have hb0_3 := HB0.out.cell 3 _ rfl; have hb0_4 := HB0.out.cell 4 _ rfl; have hb0_5 := HB0.out.cell 5 _ rfl; have hb1_0 := HB1.out.cell 0 _ rfl; have hb1_1 := HB1.out.cell 1 _ rfl; clear B9; clear t2; have t3 : (1 : Nat) = 1 := rfl)
    | (have q1 := t1; refine box_lawC _ ([.slice so ss.length sc, .slice go gs.length gc] : List Value) rfl ?_; intro w2 X9 B9 l9; have HB0 : Hid (Vr w2 w.heap.size (he.hv k n c l e t)) := HB0.out.below B9 (range_lt HB0.out.1 (Nat.succ_pos _)); have HB1 : Hid (Vr w2 w1.heap.size ([.slice so ss.length sc, .slice go gs.length gc] : List Value)) := X9; have BB : Hid (Below w.heap.size w w2) := BB.out.trans (B9.mono BB.out.size); have hb0_0 := HB0.out.cell 0 _ rfl; have hb0_1 := HB0.out.cell 1 _ rfl; have hb0_2 := HB0.out.cell 2 _ rfl; have hb0_3 := HB0.out.cell 3 _ rfl; have hb0_4 := HB0.out.cell 4 _ rfl; have hb0_5 := HB0.out.cell 5 _ rfl; have hb1_0 := HB1.out.cell 0 _ rfl; have hb1_1 := HB1.out.cell 1 _ rfl; clear X9 B9 l9; clear t1; have t2 : (1 : Nat) = 1 := rfl)
    | (have q0 := t0; refine box_lawC _ (he.hv k n c l e t) rfl ?_; intro w1 X9 B9 l9; have HB0 : Hid (Vr w1 w.heap.size (he.hv k n c l e t)) := X9; have BB : Hid (Below w.heap.size w w1) := B9; clear X9 B9 l9; clear t0; have t1 : (1 : Nat) = 1 := rfl))
  go_ret
  exact ⟨rfl, BB.out⟩

set_option maxHeartbeats 2000000 in
theorem walk_c (kv : Value) (k n c l e t : Int) (so : Option Addr) (sc : Nat) (ss : List Int) (go : Option Addr) (gc : Nat) (gs : List Int) (w : World) (hT : Tab w) (hq : (100 < (ss.length : Int))) (hq2 : ¬ ((ss.length : Int) ≤ 4096)) (hz : (100 < (gs.length : Int))) :
    Calls Tryz.prog 4 #[kv, .agg (he.hv k n c l e t).toArray, .agg #[.slice so ss.length sc, .slice go gs.length gc]] w fun x w' => x = .returned (.bool true) ∧ Below w.heap.size w w' := by
  have HT : Hid (Tab w) := hT
  clear hT
  have t0 : (0 : Nat) = 0 := rfl
  go_enter Tryz.func4, Tryz.ntmps4
  go_wp2_with (first
    | (have q2 := t2; go_at_call 5; refine (awake_any w2 (HT.out.below BB.out)).mono ?_; rintro e9 w3 ⟨rfl, B9⟩; have HB0 : Hid (Vr w3 w.heap.size (he.hv k n c l e t)) := HB0.out.below B9 (range_lt HB0.out.1 (Nat.succ_pos _)); have HB1 : Hid (Vr w3 w1.heap.size ([.slice so ss.length sc, .slice go gs.length gc] : List Value)) := HB1.out.below B9 (range_lt HB1.out.1 (Nat.succ_pos _)); have BB : Hid (Below w.heap.size w w3) := BB.out.trans (B9.mono BB.out.size); clear hb0_0 hb0_1 hb0_2 hb0_3 hb0_4 hb0_5 hb1_0 hb1_1; have hb0_0 := HB0.out.cell 0 _ rfl; have hb0_1 := HB0.out.cell 1 _ rfl; have hb0_2 := HB0.out.cell 2 _ rfl; have hb0_3 := HB0.out.cell 3 _ rfl; have hb0_4 := HB0.out.cell 4 _ rfl; have hb0_5 := HB0.out.cell 5 _ rfl; have hb1_0 := HB1.out.cell 0 _ rfl; have hb1_1 := HB1.out.cell 1 _ rfl; clear B9; clear t2; have t3 : (1 : Nat) = 1 := rfl)
    | (have q1 := t1; refine box_lawC _ ([.slice so ss.length sc, .slice go gs.length gc] : List Value) rfl ?_; intro w2 X9 B9 l9; have HB0 : Hid (Vr w2 w.heap.size (he.hv k n c l e t)) := HB0.out.below B9 (range_lt HB0.out.1 (Nat.succ_pos _)); have HB1 : Hid (Vr w2 w1.heap.size ([.slice so ss.length sc, .slice go gs.length gc] : List Value)) := X9; have BB : Hid (Below w.heap.size w w2) := BB.out.trans (B9.mono BB.out.size); have hb0_0 := HB0.out.cell 0 _ rfl; have hb0_1 := HB0.out.cell 1 _ rfl; have hb0_2 := HB0.out.cell 2 _ rfl; have hb0_3 := HB0.out.cell 3 _ rfl; have hb0_4 := HB0.out.cell 4 _ rfl; have hb0_5 := HB0.out.cell 5 _ rfl; have hb1_0 := HB1.out.cell 0 _ rfl; have hb1_1 := HB1.out.cell 1 _ rfl; clear X9 B9 l9; clear t1; have t2 : (1 : Nat) = 1 := rfl)
    | (have q0 := t0; refine box_lawC _ (he.hv k n c l e t) rfl ?_; intro w1 X9 B9 l9; have HB0 : Hid (Vr w1 w.heap.size (he.hv k n c l e t)) := X9; have BB : Hid (Below w.heap.size w w1) := B9; clear X9 B9 l9; clear t0; have t1 : (1 : Nat) = 1 := rfl))
  go_ret
  exact ⟨rfl, BB.out⟩

theorem walk (kv : Value) (ks : List Int) (k n c l e t : Int) (sv : Value) (ss : List Int) (gv : Value) (gs : List Int) (w : World) (hk : Byt w kv ks) (hH : Hb l e t) (hs : Byt w sv ss) (hg : Byt w gv gs) (hT : Tab w) :
    Calls Tryz.prog 4 #[kv, .agg (he.hv k n c l e t).toArray, .agg #[sv, gv]] w fun x w' => x = .returned (.bool true) ∧ Below w.heap.size w w' := by
  obtain ⟨so, sc, rfl⟩ : ∃ ao cap, sv = .slice ao ss.length cap := (by obtain ⟨ao, cap, e, _⟩ := hs; exact ⟨ao, cap, e⟩)
  obtain ⟨go, gc, rfl⟩ : ∃ ao cap, gv = .slice ao gs.length cap := (by obtain ⟨ao, cap, e, _⟩ := hg; exact ⟨ao, cap, e⟩)
  by_cases h1 : 100 < (ss.length : Int)
  · by_cases h2 : (ss.length : Int) ≤ 4096
    · exact walk_a kv k n c l e t so sc ss go gc gs w hT h1 h2
    · by_cases h3 : 100 < (gs.length : Int)
      · exact walk_c kv k n c l e t so sc ss go gc gs w hT h1 h2 h3
      · exact walk_g kv ks k n c l e t so sc ss go gc gs w hk hH hs hg hT h1 h2 h3
  · by_cases h3 : 100 < (gs.length : Int)
    · exact walk_b kv k n c l e t so sc ss go gc gs w hT h1 h3
    · exact walk_s kv ks k n c l e t so sc ss go gc gs w hk hH hs hg hT h1 h3

theorem params : ∀ t ∈ Tryz.f4.params.toList, Tryz.prog.readableRec t = true ∧ t < Tryz.prog.types.size := by
  rw [Tryz.params4]
  intro t ht
  simp at ht
  rcases ht with rfl | rfl | rfl
  · exact ⟨by kernel_rfl, of_decide_eq_true (by kernel_rfl)⟩
  · exact ⟨by kernel_rfl, of_decide_eq_true (by kernel_rfl)⟩
  · exact ⟨by kernel_rfl, of_decide_eq_true (by kernel_rfl)⟩

theorem contract (H : Type) (enc : TypeId × Value → H) (W : World) (base : Nat) (args : Array Value) (ds gs : List (DataW H)) (before : List MemPlace)
    (hval : ∀ (j : Nat) t v, Tryz.f4.params[j]? = some t → args[j]? = some v → Value.okWide Tryz.prog W .any base t v)
    (hW : DataW.Whole enc Tryz.prog Tryz.f4.params.toList Rows.sealOpensSpec.vars false W args.toList ds gs before) (hL : laidMetH Tryz.prog Rows.sealOpensRow.laid W) :
    Calls Tryz.prog 4 args W fun e W' => ∃ v, e = .returned v ∧ Rows.sealOpensSpec.post enc Tryz.prog Tryz.f4 false true false false W args v W' := by
  have hW' := hW
  obtain ⟨p, q, hA0, hV, rfl, hfz, hnd⟩ := hW
  have hA : DataW.TrodAll enc Tryz.prog W 0 (fun _ => true) true Tryz.f4.params.toList args.toList ds p := hA0
  rw [Tryz.params4] at hA hval
  obtain ⟨v0, v1, v2, d0, d1, d2, p0, p1, p2, rfl, rfl, rfl, h0, h1, h2⟩ := trodAll_three hA
  obtain ⟨rfl, rfl⟩ := trodVars_none hV
  obtain ⟨xs0, b0⟩ := byt_open (hval 0 22 v0 rfl rfl) h0
  obtain ⟨hk1, hn1, hc1, hl1, he1, ht1, rfl, hf1⟩ := head_open (hval 1 26 v1 rfl rfl) h1
  obtain ⟨va2, vb2, xs2, ys2, rfl, b2, c2⟩ := pair_open (hval 2 41 v2 rfl rfl) h2
  clear hA0
  refine (walk v0 xs0 hk1 hn1 hc1 hl1 he1 ht1 va2 xs2 vb2 ys2 W b0 hf1 b2 c2 (table hL)).mono fun e W' ⟨he, hg⟩ => ?_
  subst he
  exact ⟨_, rfl, post_law rfl (by kernel_rfl) params rfl rfl rfl hW' hg⟩

theorem laid_met (os : Os) : laidMet Tryz.prog Rows.sealOpensRow.laid (({ World.holding Tryz.prog os ⟨#[], #[], []⟩ with heap := (World.holding Tryz.prog os ⟨#[], #[], []⟩).heap.modify 0 fun | .cells _ t frozen => .cells #[.int .i64 1, .int .i64 1, .int .i64 1, .int .i64 1, .int .i64 4, .int .i64 8, .int .i64 8] t frozen | o => o } : World).forCall (fun _ _ => 0) ⟨#[], #[.slice none 0 0, .agg #[.int .i64 0, .int .i64 0, .int .i64 0, .int .u32 0, .int .u64 0, .int .u64 0], .agg #[.slice none 0 0, .slice none 0 0]], []⟩).memory :=
  laidMet_of_run' 8 (by kernel_rfl) (by kernel_rfl)
theorem reads (os : Os) {H : Type} (enc : TypeId × Value → H) : ∃ places, DataW.whole enc Tryz.prog (({ World.holding Tryz.prog os ⟨#[], #[], []⟩ with heap := (World.holding Tryz.prog os ⟨#[], #[], []⟩).heap.modify 0 fun | .cells _ t frozen => .cells #[.int .i64 1, .int .i64 1, .int .i64 1, .int .i64 1, .int .i64 4, .int .i64 8, .int .i64 8] t frozen | o => o } : World).forCall (fun _ _ => 0) ⟨#[], #[.slice none 0 0, .agg #[.int .i64 0, .int .i64 0, .int .i64 0, .int .u32 0, .int .u64 0, .int .u64 0], .agg #[.slice none 0 0, .slice none 0 0]], []⟩).memory Tryz.f4.params.toList Rows.sealOpensSpec.vars false #[Value.slice none 0 0, Value.agg #[.int .i64 0, .int .i64 0, .int .i64 0, .int .u32 0, .int .u64 0, .int .u64 0], Value.agg #[.slice none 0 0, .slice none 0 0]].toList 8 = some ([.nil, .agg [.lit (.int .i64 0), .lit (.int .i64 0), .lit (.int .i64 0), .lit (.int .u32 0), .lit (.int .u64 0), .lit (.int .u64 0)], .agg [.nil, .nil]], [], places) :=
  ⟨[], by kernel_rfl⟩

set_option maxRecDepth 100000 in
theorem lifted (os : Os) (started : os.Started) (H : Type) (enc : TypeId × Value → H) (F : Stop.Interp) :
    ReturnsInHanded {} Tryz.checked os 4 .any ((OpenSpec.ofChange Rows.sealOpensSpec).preRow enc Tryz.prog Tryz.f4 Rows.sealOpensRow.domain false Rows.sealOpensRow.laid) (((OpenSpec.ofChange Rows.sealOpensSpec).at F).post enc Tryz.prog Tryz.f4 false true false false) := by
  obtain ⟨places, hx⟩ := reads os enc
  refine returnsInHanded_of_row (C := Tryz.checked) (s := OpenSpec.ofChange Rows.sealOpensSpec) own started (by kernel_rfl) Tryz.func4
    (witness_row_at (enc := enc) (C := Tryz.checked) false ({ World.holding Tryz.prog os ⟨#[], #[], []⟩ with heap := (World.holding Tryz.prog os ⟨#[], #[], []⟩).heap.modify 0 fun | .cells _ t frozen => .cells #[.int .i64 1, .int .i64 1, .int .i64 1, .int .i64 1, .int .i64 4, .int .i64 8, .int .i64 8] t frozen | o => o } : World) #[.slice none 0 0, .agg #[.int .i64 0, .int .i64 0, .int .i64 0, .int .u32 0, .int .u64 0, .int .u64 0], .agg #[.slice none 0 0, .slice none 0 0]] rfl (by kernel_rfl) (by kernel_rfl) (by kernel_rfl)
      (OpenSpec.preRow_of_cond 8 hx (by kernel_rfl) (fun k hk => by cases hk) (by kernel_rfl) (laid_met os))) ?_
  intro W base args ds gs before hval hW _ _ _ hL _ _
  exact contract H enc W base args ds gs before hval hW hL

theorem said : Rows.SealOpensSaid :=
  OpenClaim.holds_of_cond 4 Tryz.f4 rfl rfl rfl rfl rfl rfl rfl ⟨rfl, rfl, rfl, rfl, rfl⟩ rfl rfl rfl rfl rfl (by kernel_rfl) Tryz.func4 (by kernel_rfl)
    (of_decide_eq_true (by kernel_rfl)) (by unfold Func.isWrapper; first | (rw [if_pos (by decide +kernel)]; kernel_rfl) | (rw [if_neg (by decide +kernel)]; exact ⟨rfl, rfl⟩))
    (fun os started H enc _ F => by rw [OpenClaim.pre_eq_preRow]; exact lifted os started H enc F)

theorem plain (f : FuncId) (fn : Func) (hf : Tryz.pinned.checked.prog.funcNamed "nepenthe/nepenthelaw16.SealOpens" = some f) (hfn : Tryz.pinned.checked.prog.funcs[f]? = some fn) :
    false = Tryz.pinned.checked.prog.looks [] ∧ ∀ (j : Nat) t, fn.params[j]? = some t → Tryz.pinned.checked.prog.wantsStandIn t = false := by
  obtain rfl : f = 4 := Option.some.inj ((show Tryz.prog.funcNamed "nepenthe/nepenthelaw16.SealOpens" = some 4 by kernel_rfl).symm.trans hf) |>.symm
  obtain rfl : fn = Tryz.f4 := (Option.some.inj (Tryz.func4.symm.trans hfn)).symm
  refine ⟨by kernel_rfl, fun j t ht => ?_⟩
  rw [Tryz.params4] at ht
  have hm := Array.mem_of_getElem? ht
  simp at hm
  rcases hm with rfl | rfl | rfl
  · exact (show Tryz.prog.wantsStandIn 22 = false by kernel_rfl)
  · exact (show Tryz.prog.wantsStandIn 26 = false by kernel_rfl)
  · exact (show Tryz.prog.wantsStandIn 41 = false by kernel_rfl)
end Go.Proofs.YtbkaecjkgjkheaaGreatDoor.sealOpens

namespace Go.Proofs.YtbkaecjkgjkheaaGreatDoor
theorem sealOpens_card : Rows.SealOpensCardSaid :=
  Claim7.holds_tied_plain_at .later [] _ _ _ _ sealOpens.said (fun _ h => by cases h) (by kernel_rfl) (fun _ h => by cases h) sealOpens_row_tie rfl ⟨rfl, rfl⟩ (by kernel_rfl) rfl sealOpens.plain (by kernel_rfl)
#print axioms sealOpens_card
end Go.Proofs.YtbkaecjkgjkheaaGreatDoor
