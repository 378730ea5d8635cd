/- Any sector of up to 100 bytes, or what is none, sealed under any keys and head, or why not: as the document says. Of sectors of 101 to 4096 bytes: the program answers. No condition. -/
import Derived.Test.YtbkaecjkgjkheaaGreatDoorCards
import Derived.Test.YtbkaecjkgjkheaaGreatDoorTie
import Derived.Test.YtbkaecjkgjkheaaGreatDoorPackQ
import Derived.Test.YtbkaecjkgjkheaaGreatDoorPackU
namespace Go.Proofs.YtbkaecjkgjkheaaGreatDoor.sealSeals
open Go.ChangeShapes Go.WideShapes Go.ChangeAt Go.RowKit Go.Proofs.YtbkaecjkgjkheaaGreatDoor.se Go.Proofs.YtbkaecjkgjkheaaGreatDoor.he
set_option maxRecDepth 20000

set_option maxHeartbeats 8000000 in
theorem walk_s (kv : Value) (ks : List Int) (k n c l e t : Int) (so : Option Addr) (sc : Nat) (ss : List Int) (w : World) (hk : Byt w kv ks) (hH : Hb l e t) (hs : Byt w (.slice so ss.length sc) ss) (hT : Tab w) (hq : ¬ (100 < (ss.length : Int))) :
    Calls Tryz.prog 3 #[kv, .agg (he.hv k n c l e t).toArray, .slice so ss.length sc] w fun x w' => x = .returned (.bool true) ∧ Below w.heap.size w w' := by
  have HT : Hid (Tab w) := hT
  by_cases hl : ks.length = 96
  · obtain ⟨ko, kc, rfl⟩ := byt_form hk hl
    have SN : Hid (∀ w0, Below w.heap.size w w0 → Calls Tryz.prog 6 #[.slice ko 96 kc] w0 fun x w' => ∃ p, x = .returned (.tuple #[.pointer (some ⟨p, 0, none⟩), .int .i64 0]) ∧ Kys w' p ks ∧ Below w0.heap.size w0 w') := fun w0 hb => znew_yes _ ks w0 (hk.below hb) hl
    by_cases hr : Rh k n c
    · have SG : Hid (∀ w0, Calls Tryz.prog 8 #[.agg (he.hv k n c l e t).toArray] w0 fun x w' => x = .returned (.bool true) ∧ Below w0.heap.size w0 w') := fun w0 => right_any k n c l e t w0 true ((decide_eq_true (show (1 ≤ k ∧ k ≤ 4 ∧ 0 ≤ n ∧ n ≤ 255 ∧ 0 ≤ c ∧ c ≤ 255) from hr)).symm)
      by_cases hx : 16 ≤ ss.length ∧ ss.length ≤ 4096 ∧ ss.length % 16 = 0
      · have SC : Hid (∀ w0, Below w.heap.size w w0 → Calls Tryz.prog 9 #[.slice so ss.length sc] w0 fun x w' => x = .returned (.bool true) ∧ Below w0.heap.size w0 w') := fun w0 hb => (rsector_any w0 _ ss (hs.below hb) true (decide_eq_true hx).symm).mono fun _ _ ⟨h1, h2⟩ => ⟨h1, by rw [h2]; exact Below.refl _ _⟩
        obtain ⟨N, hN⟩ : ∃ N, N = ss.length / 16 := ⟨_, rfl⟩
        have hsl : ss.length = 16 * N := by omega
        have hN1 : 1 ≤ N := by omega
        have hN2 : N ≤ 256 := by omega
        have ha := hk.all
        have SB : Hid (∀ w0, Calls Tryz.prog 11 #[] w0 fun x w' => ∃ r, x = .returned r ∧ Byt w' r ptab ∧ Below w0.heap.size w0 w') := rtable_any
        have SZ : Hid (∀ w0 p, Below w.heap.size w w0 → Kys w0 p ks → Calls Tryz.prog 7 #[.pointer (some ⟨p, 0, none⟩), .agg (he.hv k n c l e t).toArray, .slice so ss.length sc] w0 fun x w' => ∃ xo xc ao cap, x = .returned (.tuple #[.slice xo ss.length xc, .slice ao 32 cap, .int .i64 0]) ∧ Byt w' (.slice xo ss.length xc) (xt.run (xt.xe (kd ks)) (nm16 (encr (kt ks) (twk e t))) ss N) ∧ Byt w' (.slice ao 32 cap) (mc.tagB (mc.blk (kg ks)) ((he.hb k n c l e t) ++ (xt.run (xt.xe (kd ks)) (nm16 (encr (kt ks) (twk e t))) ss N))) ∧ Below w0.heap.size w0 w') := fun w0 p hb hp => zseal_yes k n c l e t _ ss w0 p ks hp hl hr hH (hT.below hb) (hs.below hb) ha N hsl hN1 hN2
        have e1 : (xt.run (xt.xe (kd ks)) (nm16 (encr (kt ks) (twk e t))) ss N).length = ss.length := enc_len _ hl ha hs.all hsl
        have SX : Hid (∀ w0 bv, Below w.heap.size w w0 → Byt w0 bv ptab → Calls Tryz.prog 10 #[.slice ko 96 kc, .agg (he.hv k n c l e t).toArray, .slice so ss.length sc, bv] w0 fun x w' => ∃ u, x = .returned u ∧ (∃ zo zc, u = .slice zo ss.length zc ∧ Byt w' (.slice zo ss.length zc) (xt.run (xt.xe (kd ks)) (nm16 (encr (kt ks) (twk e t))) ss N)) ∧ Below w0.heap.size w0 w') := fun w0 bv hb h1 => (rzseal_any _ ks k n c l e t _ bv ss N w0 (hk.below hb) hl hH (hs.below hb) h1 hsl hN2).mono fun _ _ ⟨r, a1, a2, a3⟩ => by
          obtain ⟨zo, zc, rfl⟩ := byt_form a2 e1
          exact ⟨_, a1, ⟨zo, zc, rfl, a2⟩, a3⟩
        have SQ : Hid (∀ w0 zv, Below w.heap.size w w0 → Byt w0 zv (xt.run (xt.xe (kd ks)) (nm16 (encr (kt ks) (twk e t))) ss N) → Calls Tryz.prog 13 #[.slice ko 96 kc, .agg (he.hv k n c l e t).toArray, zv] w0 fun x w' => ∃ r, x = .returned r ∧ Byt w' r (mc.tagB (mc.blk (kg ks)) ((he.hb k n c l e t) ++ (xt.run (xt.xe (kd ks)) (nm16 (encr (kt ks) (twk e t))) ss N))) ∧ Below w0.heap.size w0 w') := fun w0 zv hb h1 => rztag_any _ ks k n c l e t zv _ w0 (hk.below hb) hl hr hH h1 (by rw [e1]; omega)
        generalize (mc.tagB (mc.blk (kg ks)) ((he.hb k n c l e t) ++ (xt.run (xt.xe (kd ks)) (nm16 (encr (kt ks) (twk e t))) ss N))) = TG at SZ SQ
        generalize (xt.run (xt.xe (kd ks)) (nm16 (encr (kt ks) (twk e t))) ss N) = EX at SZ SX SQ e1
        generalize ptab = PT at SB SX
        clear hk hH hs hT hl hr hx e1 hN hsl hN1 hN2 ha
        have t0 : (0 : Nat) = 0 := rfl
        go_enter Tryz.func3, Tryz.ntmps3
        go_wp2_with (first
          | (have q4 := t4; go_at_call 9; refine (SC.out w4 BB.out).mono ?_; rintro e9 w5 ⟨rfl, B9⟩; have HB0 : Hid (Vr w5 w.heap.size (he.hv k n c l e t)) := HB0.out.below B9 (range_lt HB0.out.1 (Nat.succ_pos _)); have HX : Hid (Byt w5 (.slice xo ss.length xc) EX) := HX.out.below B9; have HA : Hid (Byt w5 (.slice ao 32 cap) TG) := HA.out.below B9; have BB : Hid (Below w.heap.size w w5) := BB.out.trans (B9.mono BB.out.size); clear hb0_0 hb0_1 hb0_2 hb0_3 hb0_4 hb0_5; have hb0_0 := HB0.out.cell 0 _ rfl; have hb0_1 := HB0.out.cell 1 _ rfl; have hb0_2 := HB0.out.cell 2 _ rfl; have hb0_3 := HB0.out.cell 3 _ rfl; have hb0_4 := HB0.out.cell 4 _ rfl; have hb0_5 := HB0.out.cell 5 _ rfl; clear B9; clear t4; have t5 : (1 : Nat) = 1 := rfl)
          | (have q3 := t3; go_at_call 8; refine (SG.out w3).mono ?_; rintro e9 w4 ⟨rfl, B9⟩; have HB0 : Hid (Vr w4 w.heap.size (he.hv k n c l e t)) := HB0.out.below B9 (range_lt HB0.out.1 (Nat.succ_pos _)); have HX : Hid (Byt w4 (.slice xo ss.length xc) EX) := HX.out.below B9; have HA : Hid (Byt w4 (.slice ao 32 cap) TG) := HA.out.below B9; have BB : Hid (Below w.heap.size w w4) := BB.out.trans (B9.mono BB.out.size); clear hb0_0 hb0_1 hb0_2 hb0_3 hb0_4 hb0_5; have hb0_0 := HB0.out.cell 0 _ rfl; have hb0_1 := HB0.out.cell 1 _ rfl; have hb0_2 := HB0.out.cell 2 _ rfl; have hb0_3 := HB0.out.cell 3 _ rfl; have hb0_4 := HB0.out.cell 4 _ rfl; have hb0_5 := HB0.out.cell 5 _ rfl; clear B9; clear t3; have t4 : (1 : Nat) = 1 := rfl)
          | (have q2 := t2; go_at_call 7; refine (SZ.out w2 p9 BB.out HK0.out).mono ?_; rintro e9 w3 ⟨xo, xc, ao, cap, rfl, Y8, Y9, B9⟩; have HB0 : Hid (Vr w3 w.heap.size (he.hv k n c l e t)) := HB0.out.below B9 (range_lt HB0.out.1 (Nat.succ_pos _)); have HX : Hid (Byt w3 (.slice xo ss.length xc) EX) := Y8; have HA : Hid (Byt w3 (.slice ao 32 cap) TG) := Y9; have BB : Hid (Below w.heap.size w w3) := BB.out.trans (B9.mono BB.out.size); clear hb0_0 hb0_1 hb0_2 hb0_3 hb0_4 hb0_5; have hb0_0 := HB0.out.cell 0 _ rfl; have hb0_1 := HB0.out.cell 1 _ rfl; have hb0_2 := HB0.out.cell 2 _ rfl; have hb0_3 := HB0.out.cell 3 _ rfl; have hb0_4 := HB0.out.cell 4 _ rfl; have hb0_5 := HB0.out.cell 5 _ rfl; clear B9 Y8 Y9 HK0; clear t2; have t3 : (1 : Nat) = 1 := rfl)
          | (have q1 := t1; go_at_call 6; refine (SN.out w1 BB.out).mono ?_; rintro e9 w2 ⟨p9, rfl, K9, B9⟩; have HB0 : Hid (Vr w2 w.heap.size (he.hv k n c l e t)) := HB0.out.below B9 (range_lt HB0.out.1 (Nat.succ_pos _)); have HK0 : Hid (Kys w2 p9 ks) := K9; have BB : Hid (Below w.heap.size w w2) := BB.out.trans (B9.mono BB.out.size); clear hb0_0 hb0_1 hb0_2 hb0_3 hb0_4 hb0_5; have hb0_0 := HB0.out.cell 0 _ rfl; have hb0_1 := HB0.out.cell 1 _ rfl; have hb0_2 := HB0.out.cell 2 _ rfl; have hb0_3 := HB0.out.cell 3 _ rfl; have hb0_4 := HB0.out.cell 4 _ rfl; have hb0_5 := HB0.out.cell 5 _ rfl; clear B9 K9; clear t1; have t2 : (1 : Nat) = 1 := rfl)
          | (have q0 := t0; refine box_lawC _ (he.hv k n c l e t) rfl ?_; intro w1 X9 B9 l9; have HB0 : Hid (Vr w1 w.heap.size (he.hv k n c l e t)) := X9; have BB : Hid (Below w.heap.size w w1) := B9; have hb0_0 := HB0.out.cell 0 _ rfl; have hb0_1 := HB0.out.cell 1 _ rfl; have hb0_2 := HB0.out.cell 2 _ rfl; have hb0_3 := HB0.out.cell 3 _ rfl; have hb0_4 := HB0.out.cell 4 _ rfl; have hb0_5 := HB0.out.cell 5 _ rfl; clear X9 B9 l9; clear t0; have t1 : (1 : Nat) = 1 := rfl))
        refine wp_region_held_drew (S := fun w' => Below w5.heap.size w5 w') (by kernel_rfl) (Below.refl _ _).drew (fun hS => ?_)
        obtain ⟨x1, hx0⟩ : ∃ x, x = w5.drew := ⟨_, rfl⟩
        rw [← hx0] at hS  ⊢
        clear hx0
        refine take_lawH 0 (some 76) (.slice ko 96 kc) rfl rfl (by kernel_rfl) (by kernel_rfl) (by kernel_rfl) (fun _ _ _ h => h) (Or.inl ⟨by rfl, fun w' hw' => by rfl⟩) hS ?_
        simp only [Act.put, List.setIfInBounds_toArray, List.set_cons_zero, List.set_cons_succ]
        refine take_lawH 1 (some 77) (.agg (he.hv k n c l e t).toArray) rfl rfl (by kernel_rfl) (by kernel_rfl) (by kernel_rfl) (fun _ _ _ h => h) (Or.inl ⟨by rfl, fun w' hw' => by exact exec_loadN 26 (.tmp 4) rfl _ rfl _ _ (load_cells rowy_head (HB0.out.below hw' (range_lt HB0.out.1 (Nat.succ_pos _))).1)⟩) hS ?_
        simp only [Act.put, List.setIfInBounds_toArray, List.set_cons_zero, List.set_cons_succ]
        refine take_lawH 2 (some 78) (.slice so ss.length sc) rfl rfl (by kernel_rfl) (by kernel_rfl) (by kernel_rfl) (fun _ _ _ h => h) (Or.inl ⟨by rfl, fun w' hw' => by rfl⟩) hS ?_
        simp only [Act.put, List.setIfInBounds_toArray, List.set_cons_zero, List.set_cons_succ]
        refine wpAnyH_ready (rs := [3]) (by kernel_rfl) (by simp) ?_
        refine AllReadyH.cons rfl (fun K hK => ?_) AllReadyH.nil
        refine step_callW _ (by rfl) (some 79) rfl 11 #[] #[] rfl (fun q w' => by rfl) #[] (by simp only [List.map_toArray, List.map_nil]) (fun u w' => Byt w' u PT ∧ Below x1.heap.size x1 w') ?_ ?_
        · exact (SB.out x1).mono fun e w' ⟨r, h1, h2, h3⟩ => ⟨r, h1, h2, h3⟩
        rintro tb9 x2 ⟨y1, hb⟩
        have YB : Hid (Byt x2 tb9 PT) := y1
        clear y1
        have hS : Below w5.heap.size w5 x2 := hS.trans (hb.mono hS.size)
        clear hb
        refine hK.out _ _ hS (fun _ => ?_)
        simp only [Act.put, List.setIfInBounds_toArray, List.set_cons_zero, List.set_cons_succ]
        clear hK K
        refine wpAnyH_ready (rs := [4]) (by kernel_rfl) (by simp) ?_
        refine AllReadyH.cons rfl (fun K hK => ?_) AllReadyH.nil
        refine step_callW _ (by rfl) (some 80) rfl 10 #[.tmp 76, .tmp 77, .tmp 78, .tmp 79] #[22, 26, 22, 22] rfl (fun q w' => by rfl) #[.slice ko 96 kc, .agg (he.hv k n c l e t).toArray, .slice so ss.length sc, tb9] (by simp only [List.map_toArray, List.map_cons, List.map_nil]; rfl) (fun u w' => (∃ zo zc, u = .slice zo ss.length zc ∧ Byt w' (.slice zo ss.length zc) EX) ∧ Below x2.heap.size x2 w') ?_ ?_
        · exact SX.out x2 tb9 (BB.out.trans (hS.mono BB.out.size)) YB.out
        rintro _ x3 ⟨⟨zo, zc, rfl, y1⟩, hb⟩
        have YZ : Hid (Byt x3 (.slice zo ss.length zc) EX) := y1
        clear y1
        have hS : Below w5.heap.size w5 x3 := hS.trans (hb.mono hS.size)
        clear hb
        refine hK.out _ _ hS (fun _ => ?_)
        simp only [Act.put, List.setIfInBounds_toArray, List.set_cons_zero, List.set_cons_succ]
        clear hK K
        refine take_lawH 5 (some 12) (.slice zo ss.length zc) rfl rfl (by kernel_rfl) (by kernel_rfl) (by kernel_rfl) (fun _ _ _ h => h) (Or.inl ⟨by rfl, fun w' hw' => by rfl⟩) hS ?_
        simp only [Act.put, List.setIfInBounds_toArray, List.set_cons_zero, List.set_cons_succ]
        refine wpAnyH_done (by kernel_rfl) ?_ _
        clear hb0_0 hb0_1 hb0_2 hb0_3 hb0_4 hb0_5
        have HB0 : Hid (Vr x3 w.heap.size (he.hv k n c l e t)) := HB0.out.below hS (range_lt HB0.out.1 (Nat.succ_pos _))
        have HX : Hid (Byt x3 (.slice xo ss.length xc) EX) := HX.out.below hS
        have HA : Hid (Byt x3 (.slice ao 32 cap) TG) := HA.out.below hS
        have BB : Hid (Below w.heap.size w x3) := BB.out.trans (hS.mono BB.out.size)
        clear hS
        have hb0_0 := HB0.out.cell 0 _ rfl
        have hb0_1 := HB0.out.cell 1 _ rfl
        have hb0_2 := HB0.out.cell 2 _ rfl
        have hb0_3 := HB0.out.cell 3 _ rfl
        have hb0_4 := HB0.out.cell 4 _ rfl
        have hb0_5 := HB0.out.cell 5 _ rfl
        have t50 : (1 : Nat) = 1 := rfl
        go_wp2_with (first
          | (have q53 := t53; go_at_call 5; refine (awake_any w93 (HT.out.below BB.out)).mono ?_; rintro e9 w94 ⟨rfl, B9⟩; have HB0 : Hid (Vr w94 w.heap.size (he.hv k n c l e t)) := HB0.out.below B9 (range_lt HB0.out.1 (Nat.succ_pos _)); have HX : Hid (Byt w94 (.slice xo ss.length xc) EX) := HX.out.below B9; have HA : Hid (Byt w94 (.slice ao 32 cap) TG) := HA.out.below B9; have YZ : Hid (Byt w94 (.slice zo ss.length zc) EX) := YZ.out.below B9; have HQ : Hid (Byt w94 qv TG) := HQ.out.below B9; have BB : Hid (Below w.heap.size w w94) := BB.out.trans (B9.mono BB.out.size); clear hb0_0 hb0_1 hb0_2 hb0_3 hb0_4 hb0_5; have hb0_0 := HB0.out.cell 0 _ rfl; have hb0_1 := HB0.out.cell 1 _ rfl; have hb0_2 := HB0.out.cell 2 _ rfl; have hb0_3 := HB0.out.cell 3 _ rfl; have hb0_4 := HB0.out.cell 4 _ rfl; have hb0_5 := HB0.out.cell 5 _ rfl; clear B9; clear t53; have t54 : (1 : Nat) = 1 := rfl)
          | (have q52 := t52; go_at_call 12; refine (same_yes w92 _ _ TG HA.out HQ.out).mono ?_; rintro e9 w93 ⟨rfl, B9⟩; have HB0 : Hid (Vr w93 w.heap.size (he.hv k n c l e t)) := HB0.out.below B9 (range_lt HB0.out.1 (Nat.succ_pos _)); have HX : Hid (Byt w93 (.slice xo ss.length xc) EX) := HX.out.below B9; have HA : Hid (Byt w93 (.slice ao 32 cap) TG) := HA.out.below B9; have YZ : Hid (Byt w93 (.slice zo ss.length zc) EX) := YZ.out.below B9; have HQ : Hid (Byt w93 qv TG) := HQ.out.below B9; have BB : Hid (Below w.heap.size w w93) := BB.out.trans (B9.mono BB.out.size); clear hb0_0 hb0_1 hb0_2 hb0_3 hb0_4 hb0_5; have hb0_0 := HB0.out.cell 0 _ rfl; have hb0_1 := HB0.out.cell 1 _ rfl; have hb0_2 := HB0.out.cell 2 _ rfl; have hb0_3 := HB0.out.cell 3 _ rfl; have hb0_4 := HB0.out.cell 4 _ rfl; have hb0_5 := HB0.out.cell 5 _ rfl; clear B9; clear t52; have t53 : (1 : Nat) = 1 := rfl)
          | (have q51 := t51; go_at_call 13; refine (SQ.out w91 _ BB.out YZ.out).mono ?_; rintro e9 w92 ⟨qv, rfl, Y9, B9⟩; have HB0 : Hid (Vr w92 w.heap.size (he.hv k n c l e t)) := HB0.out.below B9 (range_lt HB0.out.1 (Nat.succ_pos _)); have HX : Hid (Byt w92 (.slice xo ss.length xc) EX) := HX.out.below B9; have HA : Hid (Byt w92 (.slice ao 32 cap) TG) := HA.out.below B9; have YZ : Hid (Byt w92 (.slice zo ss.length zc) EX) := YZ.out.below B9; have HQ : Hid (Byt w92 qv TG) := Y9; have BB : Hid (Below w.heap.size w w92) := BB.out.trans (B9.mono BB.out.size); clear hb0_0 hb0_1 hb0_2 hb0_3 hb0_4 hb0_5; have hb0_0 := HB0.out.cell 0 _ rfl; have hb0_1 := HB0.out.cell 1 _ rfl; have hb0_2 := HB0.out.cell 2 _ rfl; have hb0_3 := HB0.out.cell 3 _ rfl; have hb0_4 := HB0.out.cell 4 _ rfl; have hb0_5 := HB0.out.cell 5 _ rfl; clear B9 Y9; clear t51; have t52 : (1 : Nat) = 1 := rfl)
          | (have q50 := t50; go_at_call 12; refine (same_yes x3 _ _ EX HX.out YZ.out).mono ?_; rintro e9 w91 ⟨rfl, B9⟩; have HB0 : Hid (Vr w91 w.heap.size (he.hv k n c l e t)) := HB0.out.below B9 (range_lt HB0.out.1 (Nat.succ_pos _)); have HX : Hid (Byt w91 (.slice xo ss.length xc) EX) := HX.out.below B9; have HA : Hid (Byt w91 (.slice ao 32 cap) TG) := HA.out.below B9; have YZ : Hid (Byt w91 (.slice zo ss.length zc) EX) := YZ.out.below B9; have BB : Hid (Below w.heap.size w w91) := BB.out.trans (B9.mono BB.out.size); clear hb0_0 hb0_1 hb0_2 hb0_3 hb0_4 hb0_5; have hb0_0 := HB0.out.cell 0 _ rfl; have hb0_1 := HB0.out.cell 1 _ rfl; have hb0_2 := HB0.out.cell 2 _ rfl; have hb0_3 := HB0.out.cell 3 _ rfl; have hb0_4 := HB0.out.cell 4 _ rfl; have hb0_5 := HB0.out.cell 5 _ rfl; clear B9; clear t50; have t51 : (1 : Nat) = 1 := rfl))
        go_ret
        exact ⟨rfl, BB.out⟩
      · have SC : Hid (∀ w0, Below w.heap.size w w0 → Calls Tryz.prog 9 #[.slice so ss.length sc] w0 fun x w' => x = .returned (.bool false) ∧ Below w0.heap.size w0 w') := fun w0 hb => (rsector_any w0 _ ss (hs.below hb) false (decide_eq_false hx).symm).mono fun _ _ ⟨h1, h2⟩ => ⟨h1, by rw [h2]; exact Below.refl _ _⟩
        have SZ : Hid (∀ w0 p, Below w.heap.size w w0 → Kys w0 p ks → Calls Tryz.prog 7 #[.pointer (some ⟨p, 0, none⟩), .agg (he.hv k n c l e t).toArray, .slice so ss.length sc] w0 fun x w' => x = .returned (.tuple #[.slice none 0 0, .slice none 0 0, .int .i64 2]) ∧ Below w0.heap.size w0 w') := fun w0 p hb hp => zseal_no k n c l e t _ ss w0 p ks hp hl hr hH (hT.below hb) (hs.below hb) hx
        clear hk hH hs hT hl hr hx
        have t0 : (0 : Nat) = 0 := rfl
        go_enter Tryz.func3, Tryz.ntmps3
        go_wp2_with (first
          | (have q5 := t5; go_at_call 5; refine (awake_any w5 (HT.out.below BB.out)).mono ?_; rintro e9 w6 ⟨rfl, B9⟩; have HB0 : Hid (Vr w6 w.heap.size (he.hv k n c l e t)) := HB0.out.below B9 (range_lt HB0.out.1 (Nat.succ_pos _)); have BB : Hid (Below w.heap.size w w6) := BB.out.trans (B9.mono BB.out.size); clear hb0_0 hb0_1 hb0_2 hb0_3 hb0_4 hb0_5; have hb0_0 := HB0.out.cell 0 _ rfl; have hb0_1 := HB0.out.cell 1 _ rfl; have hb0_2 := HB0.out.cell 2 _ rfl; have hb0_3 := HB0.out.cell 3 _ rfl; have hb0_4 := HB0.out.cell 4 _ rfl; have hb0_5 := HB0.out.cell 5 _ rfl; clear B9; clear t5; have t6 : (1 : Nat) = 1 := rfl)
          | (have q4 := t4; go_at_call 9; refine (SC.out w4 BB.out).mono ?_; rintro e9 w5 ⟨rfl, B9⟩; have HB0 : Hid (Vr w5 w.heap.size (he.hv k n c l e t)) := HB0.out.below B9 (range_lt HB0.out.1 (Nat.succ_pos _)); have BB : Hid (Below w.heap.size w w5) := BB.out.trans (B9.mono BB.out.size); clear hb0_0 hb0_1 hb0_2 hb0_3 hb0_4 hb0_5; have hb0_0 := HB0.out.cell 0 _ rfl; have hb0_1 := HB0.out.cell 1 _ rfl; have hb0_2 := HB0.out.cell 2 _ rfl; have hb0_3 := HB0.out.cell 3 _ rfl; have hb0_4 := HB0.out.cell 4 _ rfl; have hb0_5 := HB0.out.cell 5 _ rfl; clear B9; clear t4; have t5 : (1 : Nat) = 1 := rfl)
          | (have q3 := t3; go_at_call 8; refine (SG.out w3).mono ?_; rintro e9 w4 ⟨rfl, B9⟩; have HB0 : Hid (Vr w4 w.heap.size (he.hv k n c l e t)) := HB0.out.below B9 (range_lt HB0.out.1 (Nat.succ_pos _)); have BB : Hid (Below w.heap.size w w4) := BB.out.trans (B9.mono BB.out.size); clear hb0_0 hb0_1 hb0_2 hb0_3 hb0_4 hb0_5; have hb0_0 := HB0.out.cell 0 _ rfl; have hb0_1 := HB0.out.cell 1 _ rfl; have hb0_2 := HB0.out.cell 2 _ rfl; have hb0_3 := HB0.out.cell 3 _ rfl; have hb0_4 := HB0.out.cell 4 _ rfl; have hb0_5 := HB0.out.cell 5 _ rfl; clear B9; clear t3; have t4 : (1 : Nat) = 1 := rfl)
          | (have q2 := t2; go_at_call 7; refine (SZ.out w2 p9 BB.out HK0.out).mono ?_; rintro e9 w3 ⟨rfl, B9⟩; have HB0 : Hid (Vr w3 w.heap.size (he.hv k n c l e t)) := HB0.out.below B9 (range_lt HB0.out.1 (Nat.succ_pos _)); have BB : Hid (Below w.heap.size w w3) := BB.out.trans (B9.mono BB.out.size); clear hb0_0 hb0_1 hb0_2 hb0_3 hb0_4 hb0_5; have hb0_0 := HB0.out.cell 0 _ rfl; have hb0_1 := HB0.out.cell 1 _ rfl; have hb0_2 := HB0.out.cell 2 _ rfl; have hb0_3 := HB0.out.cell 3 _ rfl; have hb0_4 := HB0.out.cell 4 _ rfl; have hb0_5 := HB0.out.cell 5 _ rfl; clear B9 HK0; clear t2; have t3 : (1 : Nat) = 1 := rfl)
          | (have q1 := t1; go_at_call 6; refine (SN.out w1 BB.out).mono ?_; rintro e9 w2 ⟨p9, rfl, K9, B9⟩; have HB0 : Hid (Vr w2 w.heap.size (he.hv k n c l e t)) := HB0.out.below B9 (range_lt HB0.out.1 (Nat.succ_pos _)); have HK0 : Hid (Kys w2 p9 ks) := K9; have BB : Hid (Below w.heap.size w w2) := BB.out.trans (B9.mono BB.out.size); clear hb0_0 hb0_1 hb0_2 hb0_3 hb0_4 hb0_5; have hb0_0 := HB0.out.cell 0 _ rfl; have hb0_1 := HB0.out.cell 1 _ rfl; have hb0_2 := HB0.out.cell 2 _ rfl; have hb0_3 := HB0.out.cell 3 _ rfl; have hb0_4 := HB0.out.cell 4 _ rfl; have hb0_5 := HB0.out.cell 5 _ rfl; clear B9 K9; clear t1; have t2 : (1 : Nat) = 1 := rfl)
          | (have q0 := t0; refine box_lawC _ (he.hv k n c l e t) rfl ?_; intro w1 X9 B9 l9; have HB0 : Hid (Vr w1 w.heap.size (he.hv k n c l e t)) := X9; have BB : Hid (Below w.heap.size w w1) := B9; have hb0_0 := HB0.out.cell 0 _ rfl; have hb0_1 := HB0.out.cell 1 _ rfl; have hb0_2 := HB0.out.cell 2 _ rfl; have hb0_3 := HB0.out.cell 3 _ rfl; have hb0_4 := HB0.out.cell 4 _ rfl; have hb0_5 := HB0.out.cell 5 _ rfl; clear X9 B9 l9; clear t0; have t1 : (1 : Nat) = 1 := rfl))
        go_ret
        exact ⟨rfl, BB.out⟩
    · have SG : Hid (∀ w0, Calls Tryz.prog 8 #[.agg (he.hv k n c l e t).toArray] w0 fun x w' => x = .returned (.bool false) ∧ Below w0.heap.size w0 w') := fun w0 => right_any k n c l e t w0 false ((decide_eq_false (show ¬ (1 ≤ k ∧ k ≤ 4 ∧ 0 ≤ n ∧ n ≤ 255 ∧ 0 ≤ c ∧ c ≤ 255) from hr)).symm)
      have SZ : Hid (∀ w0 p, Below w.heap.size w w0 → Kys w0 p ks → Calls Tryz.prog 7 #[.pointer (some ⟨p, 0, none⟩), .agg (he.hv k n c l e t).toArray, .slice so ss.length sc] w0 fun x w' => x = .returned (.tuple #[.slice none 0 0, .slice none 0 0, .int .i64 2]) ∧ Below w0.heap.size w0 w') := fun w0 p hb hp => zseal_err _ k n c l e t _ w0 fun w1 hb1 => zhead_no k n c l e t w1 p ks (hp.below hb1) hr
      clear hk hH hs hT hl hr
      have t0 : (0 : Nat) = 0 := rfl
      go_enter Tryz.func3, Tryz.ntmps3
      go_wp2_with (first
        | (have q4 := t4; go_at_call 5; refine (awake_any w4 (HT.out.below BB.out)).mono ?_; rintro e9 w5 ⟨rfl, B9⟩; have HB0 : Hid (Vr w5 w.heap.size (he.hv k n c l e t)) := HB0.out.below B9 (range_lt HB0.out.1 (Nat.succ_pos _)); have BB : Hid (Below w.heap.size w w5) := BB.out.trans (B9.mono BB.out.size); clear hb0_0 hb0_1 hb0_2 hb0_3 hb0_4 hb0_5; have hb0_0 := HB0.out.cell 0 _ rfl; have hb0_1 := HB0.out.cell 1 _ rfl; have hb0_2 := HB0.out.cell 2 _ rfl; have hb0_3 := HB0.out.cell 3 _ rfl; have hb0_4 := HB0.out.cell 4 _ rfl; have hb0_5 := HB0.out.cell 5 _ rfl; clear B9; clear t4; have t5 : (1 : Nat) = 1 := rfl)
        | (have q3 := t3; go_at_call 8; refine (SG.out w3).mono ?_; rintro e9 w4 ⟨rfl, B9⟩; have HB0 : Hid (Vr w4 w.heap.size (he.hv k n c l e t)) := HB0.out.below B9 (range_lt HB0.out.1 (Nat.succ_pos _)); have BB : Hid (Below w.heap.size w w4) := BB.out.trans (B9.mono BB.out.size); clear hb0_0 hb0_1 hb0_2 hb0_3 hb0_4 hb0_5; have hb0_0 := HB0.out.cell 0 _ rfl; have hb0_1 := HB0.out.cell 1 _ rfl; have hb0_2 := HB0.out.cell 2 _ rfl; have hb0_3 := HB0.out.cell 3 _ rfl; have hb0_4 := HB0.out.cell 4 _ rfl; have hb0_5 := HB0.out.cell 5 _ rfl; clear B9; clear t3; have t4 : (1 : Nat) = 1 := rfl)
        | (have q2 := t2; go_at_call 7; refine (SZ.out w2 p9 BB.out HK0.out).mono ?_; rintro e9 w3 ⟨rfl, B9⟩; have HB0 : Hid (Vr w3 w.heap.size (he.hv k n c l e t)) := HB0.out.below B9 (range_lt HB0.out.1 (Nat.succ_pos _)); have BB : Hid (Below w.heap.size w w3) := BB.out.trans (B9.mono BB.out.size); clear hb0_0 hb0_1 hb0_2 hb0_3 hb0_4 hb0_5; have hb0_0 := HB0.out.cell 0 _ rfl; have hb0_1 := HB0.out.cell 1 _ rfl; have hb0_2 := HB0.out.cell 2 _ rfl; have hb0_3 := HB0.out.cell 3 _ rfl; have hb0_4 := HB0.out.cell 4 _ rfl; have hb0_5 := HB0.out.cell 5 _ rfl; clear B9 HK0; clear t2; have t3 : (1 : Nat) = 1 := rfl)
        | (have q1 := t1; go_at_call 6; refine (SN.out w1 BB.out).mono ?_; rintro e9 w2 ⟨p9, rfl, K9, B9⟩; have HB0 : Hid (Vr w2 w.heap.size (he.hv k n c l e t)) := HB0.out.below B9 (range_lt HB0.out.1 (Nat.succ_pos _)); have HK0 : Hid (Kys w2 p9 ks) := K9; have BB : Hid (Below w.heap.size w w2) := BB.out.trans (B9.mono BB.out.size); clear hb0_0 hb0_1 hb0_2 hb0_3 hb0_4 hb0_5; have hb0_0 := HB0.out.cell 0 _ rfl; have hb0_1 := HB0.out.cell 1 _ rfl; have hb0_2 := HB0.out.cell 2 _ rfl; have hb0_3 := HB0.out.cell 3 _ rfl; have hb0_4 := HB0.out.cell 4 _ rfl; have hb0_5 := HB0.out.cell 5 _ rfl; clear B9 K9; clear t1; have t2 : (1 : Nat) = 1 := rfl)
        | (have q0 := t0; refine box_lawC _ (he.hv k n c l e t) rfl ?_; intro w1 X9 B9 l9; have HB0 : Hid (Vr w1 w.heap.size (he.hv k n c l e t)) := X9; have BB : Hid (Below w.heap.size w w1) := B9; have hb0_0 := HB0.out.cell 0 _ rfl; have hb0_1 := HB0.out.cell 1 _ rfl; have hb0_2 := HB0.out.cell 2 _ rfl; have hb0_3 := HB0.out.cell 3 _ rfl; have hb0_4 := HB0.out.cell 4 _ rfl; have hb0_5 := HB0.out.cell 5 _ rfl; clear X9 B9 l9; clear t0; have t1 : (1 : Nat) = 1 := rfl))
      go_ret
      exact ⟨rfl, BB.out⟩
  · obtain ⟨ko, kc, rfl⟩ : ∃ ao cap, kv = .slice ao ks.length cap := (by obtain ⟨ao, cap, e, _⟩ := hk; exact ⟨ao, cap, e⟩)
    have SN : Hid (∀ w0, Below w.heap.size w w0 → Calls Tryz.prog 6 #[.slice ko ks.length kc] w0 fun x w' => x = .returned (.tuple #[.pointer none, .int .i64 2]) ∧ Below w0.heap.size w0 w') := fun w0 hb => znew_no _ ks w0 (hk.below hb) hl
    have n96 : ((ks.length : Int) != 96) = true := bne_iff_ne.2 (by omega)
    have SZ : Hid (∀ w0, Below w.heap.size w w0 → Calls Tryz.prog 7 #[.pointer none, .agg (he.hv k n c l e t).toArray, .slice so ss.length sc] w0 fun x w' => x = .returned (.tuple #[.slice none 0 0, .slice none 0 0, .int .i64 2]) ∧ Below w0.heap.size w0 w') := fun w0 _ => zseal_err _ k n c l e t _ w0 fun w1 _ => zhead_nil k n c l e t w1
    clear hk hH hs hT hl
    have t0 : (0 : Nat) = 0 := rfl
    go_enter Tryz.func3, Tryz.ntmps3
    go_wp2_with (first
      | (have q3 := t3; go_at_call 5; refine (awake_any w3 (HT.out.below BB.out)).mono ?_; rintro e9 w4 ⟨rfl, B9⟩; have HB0 : Hid (Vr w4 w.heap.size (he.hv k n c l e t)) := HB0.out.below B9 (range_lt HB0.out.1 (Nat.succ_pos _)); have BB : Hid (Below w.heap.size w w4) := BB.out.trans (B9.mono BB.out.size); clear hb0_0 hb0_1 hb0_2 hb0_3 hb0_4 hb0_5; have hb0_0 := HB0.out.cell 0 _ rfl; have hb0_1 := HB0.out.cell 1 _ rfl; have hb0_2 := HB0.out.cell 2 _ rfl; have hb0_3 := HB0.out.cell 3 _ rfl; have hb0_4 := HB0.out.cell 4 _ rfl; have hb0_5 := HB0.out.cell 5 _ rfl; clear B9; clear t3; have t4 : (1 : Nat) = 1 := rfl)
      | (have q2 := t2; go_at_call 7; refine (SZ.out w2 BB.out).mono ?_; rintro e9 w3 ⟨rfl, B9⟩; have HB0 : Hid (Vr w3 w.heap.size (he.hv k n c l e t)) := HB0.out.below B9 (range_lt HB0.out.1 (Nat.succ_pos _)); have BB : Hid (Below w.heap.size w w3) := BB.out.trans (B9.mono BB.out.size); clear hb0_0 hb0_1 hb0_2 hb0_3 hb0_4 hb0_5; have hb0_0 := HB0.out.cell 0 _ rfl; have hb0_1 := HB0.out.cell 1 _ rfl; have hb0_2 := HB0.out.cell 2 _ rfl; have hb0_3 := HB0.out.cell 3 _ rfl; have hb0_4 := HB0.out.cell 4 _ rfl; have hb0_5 := HB0.out.cell 5 _ rfl; clear B9; clear t2; have t3 : (1 : Nat) = 1 := rfl)
      | (have q1 := t1; go_at_call 6; refine (SN.out w1 BB.out).mono ?_; rintro e9 w2 ⟨rfl, B9⟩; have HB0 : Hid (Vr w2 w.heap.size (he.hv k n c l e t)) := HB0.out.below B9 (range_lt HB0.out.1 (Nat.succ_pos _)); have BB : Hid (Below w.heap.size w w2) := BB.out.trans (B9.mono BB.out.size); clear hb0_0 hb0_1 hb0_2 hb0_3 hb0_4 hb0_5; have hb0_0 := HB0.out.cell 0 _ rfl; have hb0_1 := HB0.out.cell 1 _ rfl; have hb0_2 := HB0.out.cell 2 _ rfl; have hb0_3 := HB0.out.cell 3 _ rfl; have hb0_4 := HB0.out.cell 4 _ rfl; have hb0_5 := HB0.out.cell 5 _ rfl; clear B9; clear t1; have t2 : (1 : Nat) = 1 := rfl)
      | (have q0 := t0; refine box_lawC _ (he.hv k n c l e t) rfl ?_; intro w1 X9 B9 l9; have HB0 : Hid (Vr w1 w.heap.size (he.hv k n c l e t)) := X9; have BB : Hid (Below w.heap.size w w1) := B9; have hb0_0 := HB0.out.cell 0 _ rfl; have hb0_1 := HB0.out.cell 1 _ rfl; have hb0_2 := HB0.out.cell 2 _ rfl; have hb0_3 := HB0.out.cell 3 _ rfl; have hb0_4 := HB0.out.cell 4 _ rfl; have hb0_5 := HB0.out.cell 5 _ rfl; clear X9 B9 l9; clear t0; have t1 : (1 : Nat) = 1 := rfl))
    go_ret
    exact ⟨rfl, BB.out⟩

set_option maxHeartbeats 8000000 in
theorem walk_g (kv : Value) (ks : List Int) (k n c l e t : Int) (so : Option Addr) (sc : Nat) (ss : List Int) (w : World) (hk : Byt w kv ks) (hH : Hb l e t) (hs : Byt w (.slice so ss.length sc) ss) (hT : Tab w) (hq : (100 < (ss.length : Int))) (hq2 : ¬ ((ss.length : Int) ≤ 4096)) :
    Calls Tryz.prog 3 #[kv, .agg (he.hv k n c l e t).toArray, .slice so ss.length sc] w fun x w' => x = .returned (.bool true) ∧ Below w.heap.size w w' := by
  have HT : Hid (Tab w) := hT
  by_cases hl : ks.length = 96
  · obtain ⟨ko, kc, rfl⟩ := byt_form hk hl
    have SN : Hid (∀ w0, Below w.heap.size w w0 → Calls Tryz.prog 6 #[.slice ko 96 kc] w0 fun x w' => ∃ p, x = .returned (.tuple #[.pointer (some ⟨p, 0, none⟩), .int .i64 0]) ∧ Kys w' p ks ∧ Below w0.heap.size w0 w') := fun w0 hb => znew_yes _ ks w0 (hk.below hb) hl
    by_cases hr : Rh k n c
    · have SG : Hid (∀ w0, Calls Tryz.prog 8 #[.agg (he.hv k n c l e t).toArray] w0 fun x w' => x = .returned (.bool true) ∧ Below w0.heap.size w0 w') := fun w0 => right_any k n c l e t w0 true ((decide_eq_true (show (1 ≤ k ∧ k ≤ 4 ∧ 0 ≤ n ∧ n ≤ 255 ∧ 0 ≤ c ∧ c ≤ 255) from hr)).symm)
      have hx : ¬ (16 ≤ ss.length ∧ ss.length ≤ 4096 ∧ ss.length % 16 = 0) := by omega
      have SC : Hid (∀ w0, Below w.heap.size w w0 → Calls Tryz.prog 9 #[.slice so ss.length sc] w0 fun x w' => x = .returned (.bool false) ∧ Below w0.heap.size w0 w') := fun w0 hb => (rsector_any w0 _ ss (hs.below hb) false (decide_eq_false hx).symm).mono fun _ _ ⟨h1, h2⟩ => ⟨h1, by rw [h2]; exact Below.refl _ _⟩
      have SZ : Hid (∀ w0 p, Below w.heap.size w w0 → Kys w0 p ks → Calls Tryz.prog 7 #[.pointer (some ⟨p, 0, none⟩), .agg (he.hv k n c l e t).toArray, .slice so ss.length sc] w0 fun x w' => x = .returned (.tuple #[.slice none 0 0, .slice none 0 0, .int .i64 2]) ∧ Below w0.heap.size w0 w') := fun w0 p hb hp => zseal_no k n c l e t _ ss w0 p ks hp hl hr hH (hT.below hb) (hs.below hb) hx
      clear hk hH hs hT hl hr hx
      have t0 : (0 : Nat) = 0 := rfl
      go_enter Tryz.func3, Tryz.ntmps3
      go_wp2_with (first
        | (have q5 := t5; go_at_call 5; refine (awake_any w5 (HT.out.below BB.out)).mono ?_; rintro e9 w6 ⟨rfl, B9⟩; have HB0 : Hid (Vr w6 w.heap.size (he.hv k n c l e t)) := HB0.out.below B9 (range_lt HB0.out.1 (Nat.succ_pos _)); have BB : Hid (Below w.heap.size w w6) := BB.out.trans (B9.mono BB.out.size); clear hb0_0 hb0_1 hb0_2 hb0_3 hb0_4 hb0_5; have hb0_0 := HB0.out.cell 0 _ rfl; have hb0_1 := HB0.out.cell 1 _ rfl; have hb0_2 := HB0.out.cell 2 _ rfl; have hb0_3 := HB0.out.cell 3 _ rfl; have hb0_4 := HB0.out.cell 4 _ rfl; have hb0_5 := HB0.out.cell 5 _ rfl; clear B9; clear t5; have t6 : (1 : Nat) = 1 := rfl)
        | (have q4 := t4; go_at_call 9; refine (SC.out w4 BB.out).mono ?_; rintro e9 w5 ⟨rfl, B9⟩; have HB0 : Hid (Vr w5 w.heap.size (he.hv k n c l e t)) := HB0.out.below B9 (range_lt HB0.out.1 (Nat.succ_pos _)); have BB : Hid (Below w.heap.size w w5) := BB.out.trans (B9.mono BB.out.size); clear hb0_0 hb0_1 hb0_2 hb0_3 hb0_4 hb0_5; have hb0_0 := HB0.out.cell 0 _ rfl; have hb0_1 := HB0.out.cell 1 _ rfl; have hb0_2 := HB0.out.cell 2 _ rfl; have hb0_3 := HB0.out.cell 3 _ rfl; have hb0_4 := HB0.out.cell 4 _ rfl; have hb0_5 := HB0.out.cell 5 _ rfl; clear B9; clear t4; have t5 : (1 : Nat) = 1 := rfl)
        | (have q3 := t3; go_at_call 8; refine (SG.out w3).mono ?_; rintro e9 w4 ⟨rfl, B9⟩; have HB0 : Hid (Vr w4 w.heap.size (he.hv k n c l e t)) := HB0.out.below B9 (range_lt HB0.out.1 (Nat.succ_pos _)); have BB : Hid (Below w.heap.size w w4) := BB.out.trans (B9.mono BB.out.size); clear hb0_0 hb0_1 hb0_2 hb0_3 hb0_4 hb0_5; have hb0_0 := HB0.out.cell 0 _ rfl; have hb0_1 := HB0.out.cell 1 _ rfl; have hb0_2 := HB0.out.cell 2 _ rfl; have hb0_3 := HB0.out.cell 3 _ rfl; have hb0_4 := HB0.out.cell 4 _ rfl; have hb0_5 := HB0.out.cell 5 _ rfl; clear B9; clear t3; have t4 : (1 : Nat) = 1 := rfl)
        | (have q2 := t2; go_at_call 7; refine (SZ.out w2 p9 BB.out HK0.out).mono ?_; rintro e9 w3 ⟨rfl, B9⟩; have HB0 : Hid (Vr w3 w.heap.size (he.hv k n c l e t)) := HB0.out.below B9 (range_lt HB0.out.1 (Nat.succ_pos _)); have BB : Hid (Below w.heap.size w w3) := BB.out.trans (B9.mono BB.out.size); clear hb0_0 hb0_1 hb0_2 hb0_3 hb0_4 hb0_5; have hb0_0 := HB0.out.cell 0 _ rfl; have hb0_1 := HB0.out.cell 1 _ rfl; have hb0_2 := HB0.out.cell 2 _ rfl; have hb0_3 := HB0.out.cell 3 _ rfl; have hb0_4 := HB0.out.cell 4 _ rfl; have hb0_5 := HB0.out.cell 5 _ rfl; clear B9 HK0; clear t2; have t3 : (1 : Nat) = 1 := rfl)
        | (have q1 := t1; go_at_call 6; refine (SN.out w1 BB.out).mono ?_; rintro e9 w2 ⟨p9, rfl, K9, B9⟩; have HB0 : Hid (Vr w2 w.heap.size (he.hv k n c l e t)) := HB0.out.below B9 (range_lt HB0.out.1 (Nat.succ_pos _)); have HK0 : Hid (Kys w2 p9 ks) := K9; have BB : Hid (Below w.heap.size w w2) := BB.out.trans (B9.mono BB.out.size); clear hb0_0 hb0_1 hb0_2 hb0_3 hb0_4 hb0_5; have hb0_0 := HB0.out.cell 0 _ rfl; have hb0_1 := HB0.out.cell 1 _ rfl; have hb0_2 := HB0.out.cell 2 _ rfl; have hb0_3 := HB0.out.cell 3 _ rfl; have hb0_4 := HB0.out.cell 4 _ rfl; have hb0_5 := HB0.out.cell 5 _ rfl; clear B9 K9; clear t1; have t2 : (1 : Nat) = 1 := rfl)
        | (have q0 := t0; refine box_lawC _ (he.hv k n c l e t) rfl ?_; intro w1 X9 B9 l9; have HB0 : Hid (Vr w1 w.heap.size (he.hv k n c l e t)) := X9; have BB : Hid (Below w.heap.size w w1) := B9; have hb0_0 := HB0.out.cell 0 _ rfl; have hb0_1 := HB0.out.cell 1 _ rfl; have hb0_2 := HB0.out.cell 2 _ rfl; have hb0_3 := HB0.out.cell 3 _ rfl; have hb0_4 := HB0.out.cell 4 _ rfl; have hb0_5 := HB0.out.cell 5 _ rfl; clear X9 B9 l9; clear t0; have t1 : (1 : Nat) = 1 := rfl))
      go_ret
      exact ⟨rfl, BB.out⟩
    · have SG : Hid (∀ w0, Calls Tryz.prog 8 #[.agg (he.hv k n c l e t).toArray] w0 fun x w' => x = .returned (.bool false) ∧ Below w0.heap.size w0 w') := fun w0 => right_any k n c l e t w0 false ((decide_eq_false (show ¬ (1 ≤ k ∧ k ≤ 4 ∧ 0 ≤ n ∧ n ≤ 255 ∧ 0 ≤ c ∧ c ≤ 255) from hr)).symm)
      have SZ : Hid (∀ w0 p, Below w.heap.size w w0 → Kys w0 p ks → Calls Tryz.prog 7 #[.pointer (some ⟨p, 0, none⟩), .agg (he.hv k n c l e t).toArray, .slice so ss.length sc] w0 fun x w' => x = .returned (.tuple #[.slice none 0 0, .slice none 0 0, .int .i64 2]) ∧ Below w0.heap.size w0 w') := fun w0 p hb hp => zseal_err _ k n c l e t _ w0 fun w1 hb1 => zhead_no k n c l e t w1 p ks (hp.below hb1) hr
      clear hk hH hs hT hl hr
      have t0 : (0 : Nat) = 0 := rfl
      go_enter Tryz.func3, Tryz.ntmps3
      go_wp2_with (first
        | (have q4 := t4; go_at_call 5; refine (awake_any w4 (HT.out.below BB.out)).mono ?_; rintro e9 w5 ⟨rfl, B9⟩; have HB0 : Hid (Vr w5 w.heap.size (he.hv k n c l e t)) := HB0.out.below B9 (range_lt HB0.out.1 (Nat.succ_pos _)); have BB : Hid (Below w.heap.size w w5) := BB.out.trans (B9.mono BB.out.size); clear hb0_0 hb0_1 hb0_2 hb0_3 hb0_4 hb0_5; have hb0_0 := HB0.out.cell 0 _ rfl; have hb0_1 := HB0.out.cell 1 _ rfl; have hb0_2 := HB0.out.cell 2 _ rfl; have hb0_3 := HB0.out.cell 3 _ rfl; have hb0_4 := HB0.out.cell 4 _ rfl; have hb0_5 := HB0.out.cell 5 _ rfl; clear B9; clear t4; have t5 : (1 : Nat) = 1 := rfl)
        | (have q3 := t3; go_at_call 8; refine (SG.out w3).mono ?_; rintro e9 w4 ⟨rfl, B9⟩; have HB0 : Hid (Vr w4 w.heap.size (he.hv k n c l e t)) := HB0.out.below B9 (range_lt HB0.out.1 (Nat.succ_pos _)); have BB : Hid (Below w.heap.size w w4) := BB.out.trans (B9.mono BB.out.size); clear hb0_0 hb0_1 hb0_2 hb0_3 hb0_4 hb0_5; have hb0_0 := HB0.out.cell 0 _ rfl; have hb0_1 := HB0.out.cell 1 _ rfl; have hb0_2 := HB0.out.cell 2 _ rfl; have hb0_3 := HB0.out.cell 3 _ rfl; have hb0_4 := HB0.out.cell 4 _ rfl; have hb0_5 := HB0.out.cell 5 _ rfl; clear B9; clear t3; have t4 : (1 : Nat) = 1 := rfl)
        | (have q2 := t2; go_at_call 7; refine (SZ.out w2 p9 BB.out HK0.out).mono ?_; rintro e9 w3 ⟨rfl, B9⟩; have HB0 : Hid (Vr w3 w.heap.size (he.hv k n c l e t)) := HB0.out.below B9 (range_lt HB0.out.1 (Nat.succ_pos _)); have BB : Hid (Below w.heap.size w w3) := BB.out.trans (B9.mono BB.out.size); clear hb0_0 hb0_1 hb0_2 hb0_3 hb0_4 hb0_5; have hb0_0 := HB0.out.cell 0 _ rfl; have hb0_1 := HB0.out.cell 1 _ rfl; have hb0_2 := HB0.out.cell 2 _ rfl; have hb0_3 := HB0.out.cell 3 _ rfl; have hb0_4 := HB0.out.cell 4 _ rfl; have hb0_5 := HB0.out.cell 5 _ rfl; clear B9 HK0; clear t2; have t3 : (1 : Nat) = 1 := rfl)
        | (have q1 := t1; go_at_call 6; refine (SN.out w1 BB.out).mono ?_; rintro e9 w2 ⟨p9, rfl, K9, B9⟩; have HB0 : Hid (Vr w2 w.heap.size (he.hv k n c l e t)) := HB0.out.below B9 (range_lt HB0.out.1 (Nat.succ_pos _)); have HK0 : Hid (Kys w2 p9 ks) := K9; have BB : Hid (Below w.heap.size w w2) := BB.out.trans (B9.mono BB.out.size); clear hb0_0 hb0_1 hb0_2 hb0_3 hb0_4 hb0_5; have hb0_0 := HB0.out.cell 0 _ rfl; have hb0_1 := HB0.out.cell 1 _ rfl; have hb0_2 := HB0.out.cell 2 _ rfl; have hb0_3 := HB0.out.cell 3 _ rfl; have hb0_4 := HB0.out.cell 4 _ rfl; have hb0_5 := HB0.out.cell 5 _ rfl; clear B9 K9; clear t1; have t2 : (1 : Nat) = 1 := rfl)
        | (have q0 := t0; refine box_lawC _ (he.hv k n c l e t) rfl ?_; intro w1 X9 B9 l9; have HB0 : Hid (Vr w1 w.heap.size (he.hv k n c l e t)) := X9; have BB : Hid (Below w.heap.size w w1) := B9; have hb0_0 := HB0.out.cell 0 _ rfl; have hb0_1 := HB0.out.cell 1 _ rfl; have hb0_2 := HB0.out.cell 2 _ rfl; have hb0_3 := HB0.out.cell 3 _ rfl; have hb0_4 := HB0.out.cell 4 _ rfl; have hb0_5 := HB0.out.cell 5 _ rfl; clear X9 B9 l9; clear t0; have t1 : (1 : Nat) = 1 := rfl))
      go_ret
      exact ⟨rfl, BB.out⟩
  · obtain ⟨ko, kc, rfl⟩ : ∃ ao cap, kv = .slice ao ks.length cap := (by obtain ⟨ao, cap, e, _⟩ := hk; exact ⟨ao, cap, e⟩)
    have SN : Hid (∀ w0, Below w.heap.size w w0 → Calls Tryz.prog 6 #[.slice ko ks.length kc] w0 fun x w' => x = .returned (.tuple #[.pointer none, .int .i64 2]) ∧ Below w0.heap.size w0 w') := fun w0 hb => znew_no _ ks w0 (hk.below hb) hl
    have n96 : ((ks.length : Int) != 96) = true := bne_iff_ne.2 (by omega)
    have SZ : Hid (∀ w0, Below w.heap.size w w0 → Calls Tryz.prog 7 #[.pointer none, .agg (he.hv k n c l e t).toArray, .slice so ss.length sc] w0 fun x w' => x = .returned (.tuple #[.slice none 0 0, .slice none 0 0, .int .i64 2]) ∧ Below w0.heap.size w0 w') := fun w0 _ => zseal_err _ k n c l e t _ w0 fun w1 _ => zhead_nil k n c l e t w1
    clear hk hH hs hT hl
    have t0 : (0 : Nat) = 0 := rfl
    go_enter Tryz.func3, Tryz.ntmps3
    go_wp2_with (first
      | (have q3 := t3; go_at_call 5; refine (awake_any w3 (HT.out.below BB.out)).mono ?_; rintro e9 w4 ⟨rfl, B9⟩; have HB0 : Hid (Vr w4 w.heap.size (he.hv k n c l e t)) := HB0.out.below B9 (range_lt HB0.out.1 (Nat.succ_pos _)); have BB : Hid (Below w.heap.size w w4) := BB.out.trans (B9.mono BB.out.size); clear hb0_0 hb0_1 hb0_2 hb0_3 hb0_4 hb0_5; have hb0_0 := HB0.out.cell 0 _ rfl; have hb0_1 := HB0.out.cell 1 _ rfl; have hb0_2 := HB0.out.cell 2 _ rfl; have hb0_3 := HB0.out.cell 3 _ rfl; have hb0_4 := HB0.out.cell 4 _ rfl; have hb0_5 := HB0.out.cell 5 _ rfl; clear B9; clear t3; have t4 : (1 : Nat) = 1 := rfl)
      | (have q2 := t2; go_at_call 7; refine (SZ.out w2 BB.out).mono ?_; rintro e9 w3 ⟨rfl, B9⟩; have HB0 : Hid (Vr w3 w.heap.size (he.hv k n c l e t)) := HB0.out.below B9 (range_lt HB0.out.1 (Nat.succ_pos _)); have BB : Hid (Below w.heap.size w w3) := BB.out.trans (B9.mono BB.out.size); clear hb0_0 hb0_1 hb0_2 hb0_3 hb0_4 hb0_5; have hb0_0 := HB0.out.cell 0 _ rfl; have hb0_1 := HB0.out.cell 1 _ rfl; have hb0_2 := HB0.out.cell 2 _ rfl; have hb0_3 := HB0.out.cell 3 _ rfl; have hb0_4 := HB0.out.cell 4 _ rfl; have hb0_5 := HB0.out.cell 5 _ rfl; clear B9; clear t2; have t3 : (1 : Nat) = 1 := rfl)
      | (have q1 := t1; go_at_call 6; refine (SN.out w1 BB.out).mono ?_; rintro e9 w2 ⟨rfl, B9⟩; have HB0 : Hid (Vr w2 w.heap.size (he.hv k n c l e t)) := HB0.out.below B9 (range_lt HB0.out.1 (Nat.succ_pos _)); have BB : Hid (Below w.heap.size w w2) := BB.out.trans (B9.mono BB.out.size); clear hb0_0 hb0_1 hb0_2 hb0_3 hb0_4 hb0_5; have hb0_0 := HB0.out.cell 0 _ rfl; have hb0_1 := HB0.out.cell 1 _ rfl; have hb0_2 := HB0.out.cell 2 _ rfl; have hb0_3 := HB0.out.cell 3 _ rfl; have hb0_4 := HB0.out.cell 4 _ rfl; have hb0_5 := HB0.out.cell 5 _ rfl; clear B9; clear t1; have t2 : (1 : Nat) = 1 := rfl)
      | (have q0 := t0; refine box_lawC _ (he.hv k n c l e t) rfl ?_; intro w1 X9 B9 l9; have HB0 : Hid (Vr w1 w.heap.size (he.hv k n c l e t)) := X9; have BB : Hid (Below w.heap.size w w1) := B9; have hb0_0 := HB0.out.cell 0 _ rfl; have hb0_1 := HB0.out.cell 1 _ rfl; have hb0_2 := HB0.out.cell 2 _ rfl; have hb0_3 := HB0.out.cell 3 _ rfl; have hb0_4 := HB0.out.cell 4 _ rfl; have hb0_5 := HB0.out.cell 5 _ rfl; clear X9 B9 l9; clear t0; have t1 : (1 : Nat) = 1 := rfl))
    go_ret
    exact ⟨rfl, BB.out⟩

set_option maxHeartbeats 2000000 in
theorem walk (kv : Value) (ks : List Int) (k n c l e t : Int) (sv : Value) (ss : List Int) (w : World) (hk : Byt w kv ks) (hH : Hb l e t) (hs : Byt w sv ss) (hT : Tab w) :
    Calls Tryz.prog 3 #[kv, .agg (he.hv k n c l e t).toArray, sv] w fun x w' => x = .returned (.bool true) ∧ Below w.heap.size w w' := by
  obtain ⟨so, sc, rfl⟩ : ∃ ao cap, sv = .slice ao ss.length cap := (by obtain ⟨ao, cap, e, _⟩ := hs; exact ⟨ao, cap, e⟩)
  by_cases h1 : 100 < (ss.length : Int)
  · by_cases h2 : (ss.length : Int) ≤ 4096
    · have HT : Hid (Tab w) := hT
      clear hk hH hs hT
      have t0 : (0 : Nat) = 0 := rfl
      go_enter Tryz.func3, Tryz.ntmps3
      go_wp2_with (first
        | (have q1 := t1; go_at_call 5; refine (awake_any w1 (HT.out.below BB.out)).mono ?_; rintro e9 w2 ⟨rfl, B9⟩; have HB0 : Hid (Vr w2 w.heap.size (he.hv k n c l e t)) := HB0.out.below B9 (range_lt HB0.out.1 (Nat.succ_pos _)); have BB : Hid (Below w.heap.size w w2) := BB.out.trans (B9.mono BB.out.size); clear hb0_0 hb0_1 hb0_2 hb0_3 hb0_4 hb0_5; have hb0_0 := HB0.out.cell 0 _ rfl; have hb0_1 := HB0.out.cell 1 _ rfl; have hb0_2 := HB0.out.cell 2 _ rfl; have hb0_3 := HB0.out.cell 3 _ rfl; have hb0_4 := HB0.out.cell 4 _ rfl; have hb0_5 := HB0.out.cell 5 _ rfl; clear B9; clear t1; have t2 : (1 : Nat) = 1 := rfl)
        | (have q0 := t0; refine box_lawC _ (he.hv k n c l e t) rfl ?_; intro w1 X9 B9 l9; have HB0 : Hid (Vr w1 w.heap.size (he.hv k n c l e t)) := X9; have BB : Hid (Below w.heap.size w w1) := B9; have hb0_0 := HB0.out.cell 0 _ rfl; have hb0_1 := HB0.out.cell 1 _ rfl; have hb0_2 := HB0.out.cell 2 _ rfl; have hb0_3 := HB0.out.cell 3 _ rfl; have hb0_4 := HB0.out.cell 4 _ rfl; have hb0_5 := HB0.out.cell 5 _ rfl; clear X9 B9 l9; clear t0; have t1 : (1 : Nat) = 1 := rfl))
      go_ret
      exact ⟨rfl, BB.out⟩
    · exact walk_g kv ks k n c l e t so sc ss w hk hH hs hT h1 h2
  · exact walk_s kv ks k n c l e t so sc ss w hk hH hs hT h1

theorem params : ∀ t ∈ Tryz.f3.params.toList, Tryz.prog.readableRec t = true ∧ t < Tryz.prog.types.size := by
  rw [Tryz.params3]
  intro t ht
  simp at ht
  rcases ht with rfl | rfl | rfl
  · exact ⟨by kernel_rfl, of_decide_eq_true (by kernel_rfl)⟩
  · exact ⟨by kernel_rfl, of_decide_eq_true (by kernel_rfl)⟩
  · exact ⟨by kernel_rfl, of_decide_eq_true (by kernel_rfl)⟩

theorem contract (H : Type) (enc : TypeId × Value → H) (W : World) (base : Nat) (args : Array Value) (ds gs : List (DataW H)) (before : List MemPlace)
    (hval : ∀ (j : Nat) t v, Tryz.f3.params[j]? = some t → args[j]? = some v → Value.okWide Tryz.prog W .any base t v)
    (hW : DataW.Whole enc Tryz.prog Tryz.f3.params.toList Rows.sealSealsSpec.vars false W args.toList ds gs before) (hL : laidMetH Tryz.prog Rows.sealSealsRow.laid W) :
    Calls Tryz.prog 3 args W fun e W' => ∃ v, e = .returned v ∧ Rows.sealSealsSpec.post enc Tryz.prog Tryz.f3 false true false false W args v W' := by
  have hW' := hW
  obtain ⟨p, q, hA0, hV, rfl, hfz, hnd⟩ := hW
  have hA : DataW.TrodAll enc Tryz.prog W 0 (fun _ => true) true Tryz.f3.params.toList args.toList ds p := hA0
  rw [Tryz.params3] at hA hval
  obtain ⟨v0, v1, v2, d0, d1, d2, p0, p1, p2, rfl, rfl, rfl, h0, h1, h2⟩ := trodAll_three hA
  obtain ⟨rfl, rfl⟩ := trodVars_none hV
  obtain ⟨xs0, b0⟩ := byt_open (hval 0 22 v0 rfl rfl) h0
  obtain ⟨hk1, hn1, hc1, hl1, he1, ht1, rfl, hf1⟩ := head_open (hval 1 26 v1 rfl rfl) h1
  obtain ⟨xs2, b2⟩ := byt_open (hval 2 22 v2 rfl rfl) h2
  clear hA0
  refine (walk v0 xs0 hk1 hn1 hc1 hl1 he1 ht1 v2 xs2 W b0 hf1 b2 (table hL)).mono fun e W' ⟨he, hg⟩ => ?_
  subst he
  exact ⟨_, rfl, post_law rfl (by kernel_rfl) params rfl rfl rfl hW' hg⟩

theorem laid_met (os : Os) : laidMet Tryz.prog Rows.sealSealsRow.laid (({ World.holding Tryz.prog os ⟨#[], #[], []⟩ with heap := (World.holding Tryz.prog os ⟨#[], #[], []⟩).heap.modify 0 fun | .cells _ t frozen => .cells #[.int .i64 1, .int .i64 1, .int .i64 1, .int .i64 1, .int .i64 4, .int .i64 8, .int .i64 8] t frozen | o => o } : World).forCall (fun _ _ => 0) ⟨#[], #[.slice none 0 0, .agg #[.int .i64 0, .int .i64 0, .int .i64 0, .int .u32 0, .int .u64 0, .int .u64 0], .slice none 0 0], []⟩).memory :=
  laidMet_of_run' 8 (by kernel_rfl) (by kernel_rfl)
theorem reads (os : Os) {H : Type} (enc : TypeId × Value → H) : ∃ places, DataW.whole enc Tryz.prog (({ World.holding Tryz.prog os ⟨#[], #[], []⟩ with heap := (World.holding Tryz.prog os ⟨#[], #[], []⟩).heap.modify 0 fun | .cells _ t frozen => .cells #[.int .i64 1, .int .i64 1, .int .i64 1, .int .i64 1, .int .i64 4, .int .i64 8, .int .i64 8] t frozen | o => o } : World).forCall (fun _ _ => 0) ⟨#[], #[.slice none 0 0, .agg #[.int .i64 0, .int .i64 0, .int .i64 0, .int .u32 0, .int .u64 0, .int .u64 0], .slice none 0 0], []⟩).memory Tryz.f3.params.toList Rows.sealSealsSpec.vars false #[Value.slice none 0 0, Value.agg #[.int .i64 0, .int .i64 0, .int .i64 0, .int .u32 0, .int .u64 0, .int .u64 0], Value.slice none 0 0].toList 8 = some ([.nil, .agg [.lit (.int .i64 0), .lit (.int .i64 0), .lit (.int .i64 0), .lit (.int .u32 0), .lit (.int .u64 0), .lit (.int .u64 0)], .nil], [], places) :=
  ⟨[], by kernel_rfl⟩

set_option maxRecDepth 100000 in
theorem lifted (os : Os) (started : os.Started) (H : Type) (enc : TypeId × Value → H) (F : Stop.Interp) :
    ReturnsInHanded {} Tryz.checked os 3 .any ((OpenSpec.ofChange Rows.sealSealsSpec).preRow enc Tryz.prog Tryz.f3 Rows.sealSealsRow.domain false Rows.sealSealsRow.laid) (((OpenSpec.ofChange Rows.sealSealsSpec).at F).post enc Tryz.prog Tryz.f3 false true false false) := by
  obtain ⟨places, hx⟩ := reads os enc
  refine returnsInHanded_of_row (C := Tryz.checked) (s := OpenSpec.ofChange Rows.sealSealsSpec) own started (by kernel_rfl) Tryz.func3
    (witness_row_at (enc := enc) (C := Tryz.checked) false ({ World.holding Tryz.prog os ⟨#[], #[], []⟩ with heap := (World.holding Tryz.prog os ⟨#[], #[], []⟩).heap.modify 0 fun | .cells _ t frozen => .cells #[.int .i64 1, .int .i64 1, .int .i64 1, .int .i64 1, .int .i64 4, .int .i64 8, .int .i64 8] t frozen | o => o } : World) #[.slice none 0 0, .agg #[.int .i64 0, .int .i64 0, .int .i64 0, .int .u32 0, .int .u64 0, .int .u64 0], .slice none 0 0] rfl (by kernel_rfl) (by kernel_rfl) (by kernel_rfl)
      (OpenSpec.preRow_of_cond 8 hx (by kernel_rfl) (fun k hk => by cases hk) (by kernel_rfl) (laid_met os))) ?_
  intro W base args ds gs before hval hW _ _ _ hL _ _
  exact contract H enc W base args ds gs before hval hW hL

theorem said : Rows.SealSealsSaid :=
  OpenClaim.holds_of_cond 3 Tryz.f3 rfl rfl rfl rfl rfl rfl rfl ⟨rfl, rfl, rfl, rfl, rfl⟩ rfl rfl rfl rfl rfl (by kernel_rfl) Tryz.func3 (by kernel_rfl)
    (of_decide_eq_true (by kernel_rfl)) (by unfold Func.isWrapper; first | (rw [if_pos (by decide +kernel)]; kernel_rfl) | (rw [if_neg (by decide +kernel)]; exact ⟨rfl, rfl⟩))
    (fun os started H enc _ F => by rw [OpenClaim.pre_eq_preRow]; exact lifted os started H enc F)

theorem plain (f : FuncId) (fn : Func) (hf : Tryz.pinned.checked.prog.funcNamed "nepenthe/nepenthelaw16.SealSeals" = some f) (hfn : Tryz.pinned.checked.prog.funcs[f]? = some fn) :
    false = Tryz.pinned.checked.prog.looks [] ∧ ∀ (j : Nat) t, fn.params[j]? = some t → Tryz.pinned.checked.prog.wantsStandIn t = false := by
  obtain rfl : f = 3 := Option.some.inj ((show Tryz.prog.funcNamed "nepenthe/nepenthelaw16.SealSeals" = some 3 by kernel_rfl).symm.trans hf) |>.symm
  obtain rfl : fn = Tryz.f3 := (Option.some.inj (Tryz.func3.symm.trans hfn)).symm
  refine ⟨by kernel_rfl, fun j t ht => ?_⟩
  rw [Tryz.params3] at ht
  have hm := Array.mem_of_getElem? ht
  simp at hm
  rcases hm with rfl | rfl | rfl
  · exact (show Tryz.prog.wantsStandIn 22 = false by kernel_rfl)
  · exact (show Tryz.prog.wantsStandIn 26 = false by kernel_rfl)
  · exact (show Tryz.prog.wantsStandIn 22 = false by kernel_rfl)
end Go.Proofs.YtbkaecjkgjkheaaGreatDoor.sealSeals

namespace Go.Proofs.YtbkaecjkgjkheaaGreatDoor
theorem sealSeals_card : Rows.SealSealsCardSaid :=
  Claim7.holds_tied_plain_at .later [] _ _ _ _ sealSeals.said (fun _ h => by cases h) (by kernel_rfl) (fun _ h => by cases h) sealSeals_row_tie rfl ⟨rfl, rfl⟩ (by kernel_rfl) rfl sealSeals.plain (by kernel_rfl)
#print axioms sealSeals_card
end Go.Proofs.YtbkaecjkgjkheaaGreatDoor
