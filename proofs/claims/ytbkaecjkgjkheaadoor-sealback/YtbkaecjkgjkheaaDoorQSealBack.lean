/- What was sealed under any keys and head, a sector of up to 300 bytes, is opened as it was; what is opened, sealed again, is as it was. Of what may not be, and of longer sectors: the program answers. No condition. -/
import Derived.Test.YtbkaecjkgjkheaaDoorCards
import Derived.Test.YtbkaecjkgjkheaaDoorTie
import Derived.Test.YtbkaecjkgjkheaaDoorPackS
namespace Go.Proofs.YtbkaecjkgjkheaaDoor.sealBack
open Go.ChangeShapes Go.WideShapes Go.ChangeAt Go.RowKit Go.Proofs.YtbkaecjkgjkheaaDoor.se Go.Proofs.YtbkaecjkgjkheaaDoor.he
set_option maxRecDepth 20000

set_option maxHeartbeats 8000000 in
theorem walk (kv : Value) (ks : List Int) (k n c l e t : Int) (sv : Value) (ss : List Int) (w : World) (hk : Byt w kv ks) (hH : Hb l e t) (hs : Byt w sv ss) (hT : Tab w) :
    Calls Tryd.prog 4 #[kv, .agg (he.hv k n c l e t).toArray, sv] w fun x w' => x = .returned (.bool true) ∧ Below w.heap.size w w' := by
  have HT : Hid (Tab w) := hT
  obtain ⟨so, sc, rfl⟩ : ∃ ao cap, sv = .slice ao ss.length cap := (by obtain ⟨ao, cap, e, _⟩ := hs; exact ⟨ao, cap, e⟩)
  by_cases hl : ks.length = 96
  · obtain ⟨ko, kc, rfl⟩ := byt_form hk hl
    by_cases hr : Rh k n c
    · have SG : Hid (∀ w0, Calls Tryd.prog 12 #[.agg (he.hv k n c l e t).toArray] w0 fun x w' => x = .returned (.bool true) ∧ Below w0.heap.size w0 w') := fun w0 => right_any k n c l e t w0 true ((decide_eq_true (show (1 ≤ k ∧ k ≤ 4 ∧ 0 ≤ n ∧ n ≤ 255 ∧ 0 ≤ c ∧ c ≤ 255) from hr)).symm)
      by_cases hx : 16 ≤ ss.length ∧ ss.length ≤ 4096 ∧ ss.length % 16 = 0
      · have SC : Hid (∀ w0, Below w.heap.size w w0 → Calls Tryd.prog 14 #[.slice so ss.length sc] w0 fun x w' => x = .returned (.bool true) ∧ Below w0.heap.size w0 w') := fun w0 hb => (rsector_any w0 _ ss (hs.below hb) true (decide_eq_true hx).symm).mono fun _ _ ⟨h1, h2⟩ => ⟨h1, by rw [h2]; exact Below.refl _ _⟩
        by_cases h3 : 300 < ss.length
        · have l3 : (300 : Int) < (ss.length : Int) := by omega
          clear hk hH hs hT hl hr hx h3
          have t0 : (0 : Nat) = 0 := rfl
          go_enter Tryd.func4, Tryd.ntmps4
          go_wp2_with (first
            | (have q3 := t3; go_at_call 6; refine (awake_any w3 (HT.out.below BB.out)).mono ?_; rintro e9 w4 ⟨rfl, B9⟩; have HB0 : Hid (Vr w4 w.heap.size (he.hv k n c l e t)) := HB0.out.below B9 (range_lt HB0.out.1 (Nat.succ_pos _)); have BB : Hid (Below w.heap.size w w4) := BB.out.trans (B9.mono BB.out.size); clear hb0_0 hb0_1 hb0_2 hb0_3 hb0_4 hb0_5; have hb0_0 := HB0.out.cell 0 _ rfl; have hb0_1 := HB0.out.cell 1 _ rfl; have hb0_2 := HB0.out.cell 2 _ rfl; have hb0_3 := HB0.out.cell 3 _ rfl; have hb0_4 := HB0.out.cell 4 _ rfl; have hb0_5 := HB0.out.cell 5 _ rfl; clear B9; clear t3; have t4 : (1 : Nat) = 1 := rfl)
            | (have q2 := t2; go_at_call 14; refine (SC.out w2 BB.out).mono ?_; rintro e9 w3 ⟨rfl, B9⟩; have HB0 : Hid (Vr w3 w.heap.size (he.hv k n c l e t)) := HB0.out.below B9 (range_lt HB0.out.1 (Nat.succ_pos _)); have BB : Hid (Below w.heap.size w w3) := BB.out.trans (B9.mono BB.out.size); clear hb0_0 hb0_1 hb0_2 hb0_3 hb0_4 hb0_5; have hb0_0 := HB0.out.cell 0 _ rfl; have hb0_1 := HB0.out.cell 1 _ rfl; have hb0_2 := HB0.out.cell 2 _ rfl; have hb0_3 := HB0.out.cell 3 _ rfl; have hb0_4 := HB0.out.cell 4 _ rfl; have hb0_5 := HB0.out.cell 5 _ rfl; clear B9; clear t2; have t3 : (1 : Nat) = 1 := rfl)
            | (have q1 := t1; go_at_call 12; refine (SG.out w1).mono ?_; rintro e9 w2 ⟨rfl, B9⟩; have HB0 : Hid (Vr w2 w.heap.size (he.hv k n c l e t)) := HB0.out.below B9 (range_lt HB0.out.1 (Nat.succ_pos _)); have BB : Hid (Below w.heap.size w w2) := BB.out.trans (B9.mono BB.out.size); clear hb0_0 hb0_1 hb0_2 hb0_3 hb0_4 hb0_5; have hb0_0 := HB0.out.cell 0 _ rfl; have hb0_1 := HB0.out.cell 1 _ rfl; have hb0_2 := HB0.out.cell 2 _ rfl; have hb0_3 := HB0.out.cell 3 _ rfl; have hb0_4 := HB0.out.cell 4 _ rfl; have hb0_5 := HB0.out.cell 5 _ rfl; clear B9; clear t1; have t2 : (1 : Nat) = 1 := rfl)
            | (have q0 := t0; refine box_lawC _ (he.hv k n c l e t) rfl ?_; intro w1 X9 B9 l9; have HB0 : Hid (Vr w1 w.heap.size (he.hv k n c l e t)) := X9; have BB : Hid (Below w.heap.size w w1) := B9; have hb0_0 := HB0.out.cell 0 _ rfl; have hb0_1 := HB0.out.cell 1 _ rfl; have hb0_2 := HB0.out.cell 2 _ rfl; have hb0_3 := HB0.out.cell 3 _ rfl; have hb0_4 := HB0.out.cell 4 _ rfl; have hb0_5 := HB0.out.cell 5 _ rfl; clear X9 B9 l9; clear t0; have t1 : (1 : Nat) = 1 := rfl))
          go_ret
          exact ⟨rfl, BB.out⟩
        · have l3 : ¬ ((300 : Int) < (ss.length : Int)) := by omega
          obtain ⟨N, hN⟩ : ∃ N, N = ss.length / 16 := ⟨_, rfl⟩
          have hsl : ss.length = 16 * N := by omega
          have hN1 : 1 ≤ N := by omega
          have hN2 : N ≤ 256 := by omega
          have ha := hk.all
          have hsa := hs.all
          have HS : Hid (Byt w (.slice so ss.length sc) ss) := hs
          have r1 : xt.run (xt.xd (kd ks)) (nm16 (encr (kt ks) (twk e t))) (xt.run (xt.xe (kd ks)) (nm16 (encr (kt ks) (twk e t))) ss N) N = ss := xt.run_whole _ _ (keeps_e hl ha) (fun m b hm hb => xt.xd_xe _ (kd_len hl) (kd_all ha) m b hm hb) (nm16 (encr (kt ks) (twk e t))) ss hsa N hsl
          have r2 : xt.run (xt.xe (kd ks)) (nm16 (encr (kt ks) (twk e t))) (xt.run (xt.xd (kd ks)) (nm16 (encr (kt ks) (twk e t))) ss N) N = ss := xt.run_whole _ _ (keeps_d hl ha) (fun m b hm hb => xt.xe_xd _ (kd_len hl) (kd_all ha) m b hm hb) (nm16 (encr (kt ks) (twk e t))) ss hsa N hsl
          have e1 : (xt.run (xt.xe (kd ks)) (nm16 (encr (kt ks) (twk e t))) ss N).length = ss.length := enc_len _ hl ha hsa hsl
          have e2 : (xt.run (xt.xd (kd ks)) (nm16 (encr (kt ks) (twk e t))) ss N).length = ss.length := dec_len _ hl ha hsa hsl
          have S1 : Hid (∀ w0 p, Below w.heap.size w w0 → Kys w0 p ks → Calls Tryd.prog 15 #[.pointer (some ⟨p, 0, none⟩), .agg (he.hv k n c l e t).toArray, .slice so ss.length sc] w0 fun x w' => ∃ xo xc ao cap, x = .returned (.tuple #[.slice xo ss.length xc, .slice ao 32 cap, .int .i64 0]) ∧ Byt w' (.slice xo ss.length xc) (xt.run (xt.xe (kd ks)) (nm16 (encr (kt ks) (twk e t))) ss N) ∧ Byt w' (.slice ao 32 cap) (mc.tagB (mc.blk (kg ks)) ((he.hb k n c l e t) ++ (xt.run (xt.xe (kd ks)) (nm16 (encr (kt ks) (twk e t))) ss N))) ∧ Below w0.heap.size w0 w') := fun w0 p hb hp => zseal_yes k n c l e t _ ss w0 p ks hp hl hr hH (hT.below hb) (hs.below hb) ha N hsl hN1 hN2
          have S2 : Hid (∀ w0 p xv tv, Below w.heap.size w w0 → Kys w0 p ks → Byt w0 xv (xt.run (xt.xe (kd ks)) (nm16 (encr (kt ks) (twk e t))) ss N) → Byt w0 tv (mc.tagB (mc.blk (kg ks)) ((he.hb k n c l e t) ++ (xt.run (xt.xe (kd ks)) (nm16 (encr (kt ks) (twk e t))) ss N))) → Calls Tryd.prog 16 #[.pointer (some ⟨p, 0, none⟩), .agg (he.hv k n c l e t).toArray, xv, tv] w0 fun x w' => ∃ xo xc, x = .returned (.tuple #[.slice xo ss.length xc, .int .i64 0]) ∧ Byt w' (.slice xo ss.length xc) ss ∧ Below w0.heap.size w0 w') := fun w0 p xv tv hb hp h1 h2 => by
            have z := zopen_yes k n c l e t xv _ w0 p ks hp hl hr hH (hT.below hb) h1 tv _ h2 ha N (e1.trans hsl) hN1 hN2 rfl
            rw [e1, r1] at z
            exact z
          have S3 : Hid (∀ w0 p, Below w.heap.size w w0 → Kys w0 p ks → Calls Tryd.prog 8 #[.pointer (some ⟨p, 0, none⟩), .agg (he.hv k n c l e t).toArray, .slice so ss.length sc] w0 fun x w' => ∃ ao cap, x = .returned (.tuple #[.slice ao 32 cap, .int .i64 0]) ∧ Byt w' (.slice ao 32 cap) (mc.tagB (mc.blk (kg ks)) ((he.hb k n c l e t) ++ ss)) ∧ Below w0.heap.size w0 w') := fun w0 p hb hp => ztag_yes k n c l e t _ ss w0 p ks hp hl hr hH (hT.below hb) (hs.below hb) (by omega)
          have S4 : Hid (∀ w0 p tv, Below w.heap.size w w0 → Kys w0 p ks → Byt w0 tv (mc.tagB (mc.blk (kg ks)) ((he.hb k n c l e t) ++ ss)) → Calls Tryd.prog 16 #[.pointer (some ⟨p, 0, none⟩), .agg (he.hv k n c l e t).toArray, .slice so ss.length sc, tv] w0 fun x w' => ∃ xo xc, x = .returned (.tuple #[.slice xo ss.length xc, .int .i64 0]) ∧ Byt w' (.slice xo ss.length xc) (xt.run (xt.xd (kd ks)) (nm16 (encr (kt ks) (twk e t))) ss N) ∧ Below w0.heap.size w0 w') := fun w0 p tv hb hp h2 => zopen_yes k n c l e t _ ss w0 p ks hp hl hr hH (hT.below hb) (hs.below hb) tv _ h2 ha N hsl hN1 hN2 rfl
          have S5 : Hid (∀ w0 p uv, Below w.heap.size w w0 → Kys w0 p ks → Byt w0 uv (xt.run (xt.xd (kd ks)) (nm16 (encr (kt ks) (twk e t))) ss N) → Calls Tryd.prog 15 #[.pointer (some ⟨p, 0, none⟩), .agg (he.hv k n c l e t).toArray, uv] w0 fun x w' => ∃ xo xc ao cap, x = .returned (.tuple #[.slice xo ss.length xc, .slice ao 32 cap, .int .i64 0]) ∧ Byt w' (.slice xo ss.length xc) ss ∧ Byt w' (.slice ao 32 cap) (mc.tagB (mc.blk (kg ks)) ((he.hb k n c l e t) ++ ss)) ∧ Below w0.heap.size w0 w') := fun w0 p uv hb hp h1 => by
            have z := zseal_yes k n c l e t uv _ w0 p ks hp hl hr hH (hT.below hb) h1 ha N (e2.trans hsl) hN1 hN2
            rw [e2, r2] at z
            exact z
          have SN : Hid (∀ w0, Below w.heap.size w w0 → Calls Tryd.prog 7 #[.slice ko 96 kc] w0 fun x w' => ∃ p, x = .returned (.tuple #[.pointer (some ⟨p, 0, none⟩), .int .i64 0]) ∧ Kys w' p ks ∧ Below w0.heap.size w0 w') := fun w0 hb => znew_yes _ ks w0 (hk.below hb) hl
          generalize (mc.tagB (mc.blk (kg ks)) ((he.hb k n c l e t) ++ (xt.run (xt.xe (kd ks)) (nm16 (encr (kt ks) (twk e t))) ss N))) = T1 at S1 S2
          generalize (mc.tagB (mc.blk (kg ks)) ((he.hb k n c l e t) ++ ss)) = T0 at S3 S4 S5
          generalize (xt.run (xt.xe (kd ks)) (nm16 (encr (kt ks) (twk e t))) ss N) = EX at S1 S2 r1 e1
          generalize (xt.run (xt.xd (kd ks)) (nm16 (encr (kt ks) (twk e t))) ss N) = DX at S4 S5 r2 e2
          clear hk hH hs hT hl hr hx h3 r1 r2 e1 e2 hN hsl hN1 hN2 ha hsa
          have t0 : (0 : Nat) = 0 := rfl
          go_enter Tryd.func4, Tryd.ntmps4
          go_wp2_with (first
            | (have q12 := t12; go_at_call 6; refine (awake_any w12 (HT.out.below BB.out)).mono ?_; rintro e9 w13 ⟨rfl, B9⟩; have HB0 : Hid (Vr w13 w.heap.size (he.hv k n c l e t)) := HB0.out.below B9 (range_lt HB0.out.1 (Nat.succ_pos _)); have HX : Hid (Byt w13 (.slice xo ss.length xc) EX) := HX.out.below B9; have HA : Hid (Byt w13 (.slice ao 32 cap) T1) := HA.out.below B9; have HY : Hid (Byt w13 (.slice yo ss.length yc) ss) := HY.out.below B9; have HO : Hid (Byt w13 (.slice oo 32 oc) T0) := HO.out.below B9; have HU : Hid (Byt w13 (.slice uo ss.length uc) DX) := HU.out.below B9; have HV : Hid (Byt w13 (.slice vo ss.length vc) ss) := HV.out.below B9; have HQ : Hid (Byt w13 (.slice qo 32 qc) T0) := HQ.out.below B9; have BB : Hid (Below w.heap.size w w13) := BB.out.trans (B9.mono BB.out.size); clear hb0_0 hb0_1 hb0_2 hb0_3 hb0_4 hb0_5; have hb0_0 := HB0.out.cell 0 _ rfl; have hb0_1 := HB0.out.cell 1 _ rfl; have hb0_2 := HB0.out.cell 2 _ rfl; have hb0_3 := HB0.out.cell 3 _ rfl; have hb0_4 := HB0.out.cell 4 _ rfl; have hb0_5 := HB0.out.cell 5 _ rfl; clear B9; clear t12; have t13 : (1 : Nat) = 1 := rfl)
            | (have q11 := t11; go_at_call 9; refine (same_yes w11 _ _ T0 HQ.out HO.out).mono ?_; rintro e9 w12 ⟨rfl, B9⟩; have HB0 : Hid (Vr w12 w.heap.size (he.hv k n c l e t)) := HB0.out.below B9 (range_lt HB0.out.1 (Nat.succ_pos _)); have HX : Hid (Byt w12 (.slice xo ss.length xc) EX) := HX.out.below B9; have HA : Hid (Byt w12 (.slice ao 32 cap) T1) := HA.out.below B9; have HY : Hid (Byt w12 (.slice yo ss.length yc) ss) := HY.out.below B9; have HO : Hid (Byt w12 (.slice oo 32 oc) T0) := HO.out.below B9; have HU : Hid (Byt w12 (.slice uo ss.length uc) DX) := HU.out.below B9; have HV : Hid (Byt w12 (.slice vo ss.length vc) ss) := HV.out.below B9; have HQ : Hid (Byt w12 (.slice qo 32 qc) T0) := HQ.out.below B9; have BB : Hid (Below w.heap.size w w12) := BB.out.trans (B9.mono BB.out.size); clear hb0_0 hb0_1 hb0_2 hb0_3 hb0_4 hb0_5; have hb0_0 := HB0.out.cell 0 _ rfl; have hb0_1 := HB0.out.cell 1 _ rfl; have hb0_2 := HB0.out.cell 2 _ rfl; have hb0_3 := HB0.out.cell 3 _ rfl; have hb0_4 := HB0.out.cell 4 _ rfl; have hb0_5 := HB0.out.cell 5 _ rfl; clear B9; clear t11; have t12 : (1 : Nat) = 1 := rfl)
            | (have q10 := t10; go_at_call 9; refine (same_yes w10 _ _ ss HV.out (HS.out.below BB.out)).mono ?_; rintro e9 w11 ⟨rfl, B9⟩; have HB0 : Hid (Vr w11 w.heap.size (he.hv k n c l e t)) := HB0.out.below B9 (range_lt HB0.out.1 (Nat.succ_pos _)); have HX : Hid (Byt w11 (.slice xo ss.length xc) EX) := HX.out.below B9; have HA : Hid (Byt w11 (.slice ao 32 cap) T1) := HA.out.below B9; have HY : Hid (Byt w11 (.slice yo ss.length yc) ss) := HY.out.below B9; have HO : Hid (Byt w11 (.slice oo 32 oc) T0) := HO.out.below B9; have HU : Hid (Byt w11 (.slice uo ss.length uc) DX) := HU.out.below B9; have HV : Hid (Byt w11 (.slice vo ss.length vc) ss) := HV.out.below B9; have HQ : Hid (Byt w11 (.slice qo 32 qc) T0) := HQ.out.below B9; have BB : Hid (Below w.heap.size w w11) := BB.out.trans (B9.mono BB.out.size); clear hb0_0 hb0_1 hb0_2 hb0_3 hb0_4 hb0_5; have hb0_0 := HB0.out.cell 0 _ rfl; have hb0_1 := HB0.out.cell 1 _ rfl; have hb0_2 := HB0.out.cell 2 _ rfl; have hb0_3 := HB0.out.cell 3 _ rfl; have hb0_4 := HB0.out.cell 4 _ rfl; have hb0_5 := HB0.out.cell 5 _ rfl; clear B9; clear t10; have t11 : (1 : Nat) = 1 := rfl)
            | (have q9 := t9; go_at_call 9; refine (same_yes w9 _ _ ss HY.out (HS.out.below BB.out)).mono ?_; rintro e9 w10 ⟨rfl, B9⟩; have HB0 : Hid (Vr w10 w.heap.size (he.hv k n c l e t)) := HB0.out.below B9 (range_lt HB0.out.1 (Nat.succ_pos _)); have HX : Hid (Byt w10 (.slice xo ss.length xc) EX) := HX.out.below B9; have HA : Hid (Byt w10 (.slice ao 32 cap) T1) := HA.out.below B9; have HY : Hid (Byt w10 (.slice yo ss.length yc) ss) := HY.out.below B9; have HO : Hid (Byt w10 (.slice oo 32 oc) T0) := HO.out.below B9; have HU : Hid (Byt w10 (.slice uo ss.length uc) DX) := HU.out.below B9; have HV : Hid (Byt w10 (.slice vo ss.length vc) ss) := HV.out.below B9; have HQ : Hid (Byt w10 (.slice qo 32 qc) T0) := HQ.out.below B9; have BB : Hid (Below w.heap.size w w10) := BB.out.trans (B9.mono BB.out.size); clear hb0_0 hb0_1 hb0_2 hb0_3 hb0_4 hb0_5; have hb0_0 := HB0.out.cell 0 _ rfl; have hb0_1 := HB0.out.cell 1 _ rfl; have hb0_2 := HB0.out.cell 2 _ rfl; have hb0_3 := HB0.out.cell 3 _ rfl; have hb0_4 := HB0.out.cell 4 _ rfl; have hb0_5 := HB0.out.cell 5 _ rfl; clear B9; clear t9; have t10 : (1 : Nat) = 1 := rfl)
            | (have q8 := t8; go_at_call 15; refine (S5.out w8 p9 _ BB.out HK0.out HU.out).mono ?_; rintro e9 w9 ⟨vo, vc, qo, qc, rfl, Y8, Y9, B9⟩; have HB0 : Hid (Vr w9 w.heap.size (he.hv k n c l e t)) := HB0.out.below B9 (range_lt HB0.out.1 (Nat.succ_pos _)); have HX : Hid (Byt w9 (.slice xo ss.length xc) EX) := HX.out.below B9; have HA : Hid (Byt w9 (.slice ao 32 cap) T1) := HA.out.below B9; have HY : Hid (Byt w9 (.slice yo ss.length yc) ss) := HY.out.below B9; have HO : Hid (Byt w9 (.slice oo 32 oc) T0) := HO.out.below B9; have HU : Hid (Byt w9 (.slice uo ss.length uc) DX) := HU.out.below B9; have HV : Hid (Byt w9 (.slice vo ss.length vc) ss) := Y8; have HQ : Hid (Byt w9 (.slice qo 32 qc) T0) := Y9; have BB : Hid (Below w.heap.size w w9) := BB.out.trans (B9.mono BB.out.size); clear hb0_0 hb0_1 hb0_2 hb0_3 hb0_4 hb0_5; have hb0_0 := HB0.out.cell 0 _ rfl; have hb0_1 := HB0.out.cell 1 _ rfl; have hb0_2 := HB0.out.cell 2 _ rfl; have hb0_3 := HB0.out.cell 3 _ rfl; have hb0_4 := HB0.out.cell 4 _ rfl; have hb0_5 := HB0.out.cell 5 _ rfl; clear B9 Y8 Y9 HK0; clear t8; have t9 : (1 : Nat) = 1 := rfl)
            | (have q7 := t7; go_at_call 16; refine (S4.out w7 p9 _ BB.out HK0.out HO.out).mono ?_; rintro e9 w8 ⟨uo, uc, rfl, Y9, B9⟩; have HB0 : Hid (Vr w8 w.heap.size (he.hv k n c l e t)) := HB0.out.below B9 (range_lt HB0.out.1 (Nat.succ_pos _)); have HX : Hid (Byt w8 (.slice xo ss.length xc) EX) := HX.out.below B9; have HA : Hid (Byt w8 (.slice ao 32 cap) T1) := HA.out.below B9; have HY : Hid (Byt w8 (.slice yo ss.length yc) ss) := HY.out.below B9; have HO : Hid (Byt w8 (.slice oo 32 oc) T0) := HO.out.below B9; have HU : Hid (Byt w8 (.slice uo ss.length uc) DX) := Y9; have HK0 : Hid (Kys w8 p9 ks) := HK0.out.below B9; have BB : Hid (Below w.heap.size w w8) := BB.out.trans (B9.mono BB.out.size); clear hb0_0 hb0_1 hb0_2 hb0_3 hb0_4 hb0_5; have hb0_0 := HB0.out.cell 0 _ rfl; have hb0_1 := HB0.out.cell 1 _ rfl; have hb0_2 := HB0.out.cell 2 _ rfl; have hb0_3 := HB0.out.cell 3 _ rfl; have hb0_4 := HB0.out.cell 4 _ rfl; have hb0_5 := HB0.out.cell 5 _ rfl; clear B9 Y9; clear t7; have t8 : (1 : Nat) = 1 := rfl)
            | (have q6 := t6; go_at_call 8; refine (S3.out w6 p9 BB.out HK0.out).mono ?_; rintro e9 w7 ⟨oo, oc, rfl, Y9, B9⟩; have HB0 : Hid (Vr w7 w.heap.size (he.hv k n c l e t)) := HB0.out.below B9 (range_lt HB0.out.1 (Nat.succ_pos _)); have HX : Hid (Byt w7 (.slice xo ss.length xc) EX) := HX.out.below B9; have HA : Hid (Byt w7 (.slice ao 32 cap) T1) := HA.out.below B9; have HY : Hid (Byt w7 (.slice yo ss.length yc) ss) := HY.out.below B9; have HO : Hid (Byt w7 (.slice oo 32 oc) T0) := Y9; have HK0 : Hid (Kys w7 p9 ks) := HK0.out.below B9; have BB : Hid (Below w.heap.size w w7) := BB.out.trans (B9.mono BB.out.size); clear hb0_0 hb0_1 hb0_2 hb0_3 hb0_4 hb0_5; have hb0_0 := HB0.out.cell 0 _ rfl; have hb0_1 := HB0.out.cell 1 _ rfl; have hb0_2 := HB0.out.cell 2 _ rfl; have hb0_3 := HB0.out.cell 3 _ rfl; have hb0_4 := HB0.out.cell 4 _ rfl; have hb0_5 := HB0.out.cell 5 _ rfl; clear B9 Y9; clear t6; have t7 : (1 : Nat) = 1 := rfl)
            | (have q5 := t5; go_at_call 16; refine (S2.out w5 p9 _ _ BB.out HK0.out HX.out HA.out).mono ?_; rintro e9 w6 ⟨yo, yc, rfl, Y9, B9⟩; have HB0 : Hid (Vr w6 w.heap.size (he.hv k n c l e t)) := HB0.out.below B9 (range_lt HB0.out.1 (Nat.succ_pos _)); have HX : Hid (Byt w6 (.slice xo ss.length xc) EX) := HX.out.below B9; have HA : Hid (Byt w6 (.slice ao 32 cap) T1) := HA.out.below B9; have HY : Hid (Byt w6 (.slice yo ss.length yc) ss) := Y9; have HK0 : Hid (Kys w6 p9 ks) := HK0.out.below B9; have BB : Hid (Below w.heap.size w w6) := BB.out.trans (B9.mono BB.out.size); clear hb0_0 hb0_1 hb0_2 hb0_3 hb0_4 hb0_5; have hb0_0 := HB0.out.cell 0 _ rfl; have hb0_1 := HB0.out.cell 1 _ rfl; have hb0_2 := HB0.out.cell 2 _ rfl; have hb0_3 := HB0.out.cell 3 _ rfl; have hb0_4 := HB0.out.cell 4 _ rfl; have hb0_5 := HB0.out.cell 5 _ rfl; clear B9 Y9; clear t5; have t6 : (1 : Nat) = 1 := rfl)
            | (have q4 := t4; go_at_call 15; refine (S1.out w4 p9 BB.out HK0.out).mono ?_; rintro e9 w5 ⟨xo, xc, ao, cap, rfl, Y8, Y9, B9⟩; have HB0 : Hid (Vr w5 w.heap.size (he.hv k n c l e t)) := HB0.out.below B9 (range_lt HB0.out.1 (Nat.succ_pos _)); have HX : Hid (Byt w5 (.slice xo ss.length xc) EX) := Y8; have HA : Hid (Byt w5 (.slice ao 32 cap) T1) := Y9; have HK0 : Hid (Kys w5 p9 ks) := HK0.out.below B9; have BB : Hid (Below w.heap.size w w5) := BB.out.trans (B9.mono BB.out.size); clear hb0_0 hb0_1 hb0_2 hb0_3 hb0_4 hb0_5; have hb0_0 := HB0.out.cell 0 _ rfl; have hb0_1 := HB0.out.cell 1 _ rfl; have hb0_2 := HB0.out.cell 2 _ rfl; have hb0_3 := HB0.out.cell 3 _ rfl; have hb0_4 := HB0.out.cell 4 _ rfl; have hb0_5 := HB0.out.cell 5 _ rfl; clear B9 Y8 Y9; clear t4; have t5 : (1 : Nat) = 1 := rfl)
            | (have q3 := t3; go_at_call 7; refine (SN.out w3 BB.out).mono ?_; rintro e9 w4 ⟨p9, rfl, K9, B9⟩; have HB0 : Hid (Vr w4 w.heap.size (he.hv k n c l e t)) := HB0.out.below B9 (range_lt HB0.out.1 (Nat.succ_pos _)); have HK0 : Hid (Kys w4 p9 ks) := K9; have BB : Hid (Below w.heap.size w w4) := BB.out.trans (B9.mono BB.out.size); clear hb0_0 hb0_1 hb0_2 hb0_3 hb0_4 hb0_5; have hb0_0 := HB0.out.cell 0 _ rfl; have hb0_1 := HB0.out.cell 1 _ rfl; have hb0_2 := HB0.out.cell 2 _ rfl; have hb0_3 := HB0.out.cell 3 _ rfl; have hb0_4 := HB0.out.cell 4 _ rfl; have hb0_5 := HB0.out.cell 5 _ rfl; clear B9 K9; clear t3; have t4 : (1 : Nat) = 1 := rfl)
            | (have q2 := t2; go_at_call 14; refine (SC.out w2 BB.out).mono ?_; rintro e9 w3 ⟨rfl, B9⟩; have HB0 : Hid (Vr w3 w.heap.size (he.hv k n c l e t)) := HB0.out.below B9 (range_lt HB0.out.1 (Nat.succ_pos _)); have BB : Hid (Below w.heap.size w w3) := BB.out.trans (B9.mono BB.out.size); clear hb0_0 hb0_1 hb0_2 hb0_3 hb0_4 hb0_5; have hb0_0 := HB0.out.cell 0 _ rfl; have hb0_1 := HB0.out.cell 1 _ rfl; have hb0_2 := HB0.out.cell 2 _ rfl; have hb0_3 := HB0.out.cell 3 _ rfl; have hb0_4 := HB0.out.cell 4 _ rfl; have hb0_5 := HB0.out.cell 5 _ rfl; clear B9; clear t2; have t3 : (1 : Nat) = 1 := rfl)
            | (have q1 := t1; go_at_call 12; refine (SG.out w1).mono ?_; rintro e9 w2 ⟨rfl, B9⟩; have HB0 : Hid (Vr w2 w.heap.size (he.hv k n c l e t)) := HB0.out.below B9 (range_lt HB0.out.1 (Nat.succ_pos _)); have BB : Hid (Below w.heap.size w w2) := BB.out.trans (B9.mono BB.out.size); clear hb0_0 hb0_1 hb0_2 hb0_3 hb0_4 hb0_5; have hb0_0 := HB0.out.cell 0 _ rfl; have hb0_1 := HB0.out.cell 1 _ rfl; have hb0_2 := HB0.out.cell 2 _ rfl; have hb0_3 := HB0.out.cell 3 _ rfl; have hb0_4 := HB0.out.cell 4 _ rfl; have hb0_5 := HB0.out.cell 5 _ rfl; clear B9; clear t1; have t2 : (1 : Nat) = 1 := rfl)
            | (have q0 := t0; refine box_lawC _ (he.hv k n c l e t) rfl ?_; intro w1 X9 B9 l9; have HB0 : Hid (Vr w1 w.heap.size (he.hv k n c l e t)) := X9; have BB : Hid (Below w.heap.size w w1) := B9; have hb0_0 := HB0.out.cell 0 _ rfl; have hb0_1 := HB0.out.cell 1 _ rfl; have hb0_2 := HB0.out.cell 2 _ rfl; have hb0_3 := HB0.out.cell 3 _ rfl; have hb0_4 := HB0.out.cell 4 _ rfl; have hb0_5 := HB0.out.cell 5 _ rfl; clear X9 B9 l9; clear t0; have t1 : (1 : Nat) = 1 := rfl))
          go_ret
          exact ⟨rfl, BB.out⟩
      · have SC : Hid (∀ w0, Below w.heap.size w w0 → Calls Tryd.prog 14 #[.slice so ss.length sc] w0 fun x w' => x = .returned (.bool false) ∧ Below w0.heap.size w0 w') := fun w0 hb => (rsector_any w0 _ ss (hs.below hb) false (decide_eq_false hx).symm).mono fun _ _ ⟨h1, h2⟩ => ⟨h1, by rw [h2]; exact Below.refl _ _⟩
        clear hk hH hs hT hl hr hx
        have t0 : (0 : Nat) = 0 := rfl
        go_enter Tryd.func4, Tryd.ntmps4
        go_wp2_with (first
          | (have q3 := t3; go_at_call 6; refine (awake_any w3 (HT.out.below BB.out)).mono ?_; rintro e9 w4 ⟨rfl, B9⟩; have HB0 : Hid (Vr w4 w.heap.size (he.hv k n c l e t)) := HB0.out.below B9 (range_lt HB0.out.1 (Nat.succ_pos _)); have BB : Hid (Below w.heap.size w w4) := BB.out.trans (B9.mono BB.out.size); clear hb0_0 hb0_1 hb0_2 hb0_3 hb0_4 hb0_5; have hb0_0 := HB0.out.cell 0 _ rfl; have hb0_1 := HB0.out.cell 1 _ rfl; have hb0_2 := HB0.out.cell 2 _ rfl; have hb0_3 := HB0.out.cell 3 _ rfl; have hb0_4 := HB0.out.cell 4 _ rfl; have hb0_5 := HB0.out.cell 5 _ rfl; clear B9; clear t3; have t4 : (1 : Nat) = 1 := rfl)
          | (have q2 := t2; go_at_call 14; refine (SC.out w2 BB.out).mono ?_; rintro e9 w3 ⟨rfl, B9⟩; have HB0 : Hid (Vr w3 w.heap.size (he.hv k n c l e t)) := HB0.out.below B9 (range_lt HB0.out.1 (Nat.succ_pos _)); have BB : Hid (Below w.heap.size w w3) := BB.out.trans (B9.mono BB.out.size); clear hb0_0 hb0_1 hb0_2 hb0_3 hb0_4 hb0_5; have hb0_0 := HB0.out.cell 0 _ rfl; have hb0_1 := HB0.out.cell 1 _ rfl; have hb0_2 := HB0.out.cell 2 _ rfl; have hb0_3 := HB0.out.cell 3 _ rfl; have hb0_4 := HB0.out.cell 4 _ rfl; have hb0_5 := HB0.out.cell 5 _ rfl; clear B9; clear t2; have t3 : (1 : Nat) = 1 := rfl)
          | (have q1 := t1; go_at_call 12; refine (SG.out w1).mono ?_; rintro e9 w2 ⟨rfl, B9⟩; have HB0 : Hid (Vr w2 w.heap.size (he.hv k n c l e t)) := HB0.out.below B9 (range_lt HB0.out.1 (Nat.succ_pos _)); have BB : Hid (Below w.heap.size w w2) := BB.out.trans (B9.mono BB.out.size); clear hb0_0 hb0_1 hb0_2 hb0_3 hb0_4 hb0_5; have hb0_0 := HB0.out.cell 0 _ rfl; have hb0_1 := HB0.out.cell 1 _ rfl; have hb0_2 := HB0.out.cell 2 _ rfl; have hb0_3 := HB0.out.cell 3 _ rfl; have hb0_4 := HB0.out.cell 4 _ rfl; have hb0_5 := HB0.out.cell 5 _ rfl; clear B9; clear t1; have t2 : (1 : Nat) = 1 := rfl)
          | (have q0 := t0; refine box_lawC _ (he.hv k n c l e t) rfl ?_; intro w1 X9 B9 l9; have HB0 : Hid (Vr w1 w.heap.size (he.hv k n c l e t)) := X9; have BB : Hid (Below w.heap.size w w1) := B9; have hb0_0 := HB0.out.cell 0 _ rfl; have hb0_1 := HB0.out.cell 1 _ rfl; have hb0_2 := HB0.out.cell 2 _ rfl; have hb0_3 := HB0.out.cell 3 _ rfl; have hb0_4 := HB0.out.cell 4 _ rfl; have hb0_5 := HB0.out.cell 5 _ rfl; clear X9 B9 l9; clear t0; have t1 : (1 : Nat) = 1 := rfl))
        go_ret
        exact ⟨rfl, BB.out⟩
    · have SG : Hid (∀ w0, Calls Tryd.prog 12 #[.agg (he.hv k n c l e t).toArray] w0 fun x w' => x = .returned (.bool false) ∧ Below w0.heap.size w0 w') := fun w0 => right_any k n c l e t w0 false ((decide_eq_false (show ¬ (1 ≤ k ∧ k ≤ 4 ∧ 0 ≤ n ∧ n ≤ 255 ∧ 0 ≤ c ∧ c ≤ 255) from hr)).symm)
      clear hk hH hs hT hl hr
      have t0 : (0 : Nat) = 0 := rfl
      go_enter Tryd.func4, Tryd.ntmps4
      go_wp2_with (first
        | (have q2 := t2; go_at_call 6; refine (awake_any w2 (HT.out.below BB.out)).mono ?_; rintro e9 w3 ⟨rfl, B9⟩; have HB0 : Hid (Vr w3 w.heap.size (he.hv k n c l e t)) := HB0.out.below B9 (range_lt HB0.out.1 (Nat.succ_pos _)); have BB : Hid (Below w.heap.size w w3) := BB.out.trans (B9.mono BB.out.size); clear hb0_0 hb0_1 hb0_2 hb0_3 hb0_4 hb0_5; have hb0_0 := HB0.out.cell 0 _ rfl; have hb0_1 := HB0.out.cell 1 _ rfl; have hb0_2 := HB0.out.cell 2 _ rfl; have hb0_3 := HB0.out.cell 3 _ rfl; have hb0_4 := HB0.out.cell 4 _ rfl; have hb0_5 := HB0.out.cell 5 _ rfl; clear B9; clear t2; have t3 : (1 : Nat) = 1 := rfl)
        | (have q1 := t1; go_at_call 12; refine (SG.out w1).mono ?_; rintro e9 w2 ⟨rfl, B9⟩; have HB0 : Hid (Vr w2 w.heap.size (he.hv k n c l e t)) := HB0.out.below B9 (range_lt HB0.out.1 (Nat.succ_pos _)); have BB : Hid (Below w.heap.size w w2) := BB.out.trans (B9.mono BB.out.size); clear hb0_0 hb0_1 hb0_2 hb0_3 hb0_4 hb0_5; have hb0_0 := HB0.out.cell 0 _ rfl; have hb0_1 := HB0.out.cell 1 _ rfl; have hb0_2 := HB0.out.cell 2 _ rfl; have hb0_3 := HB0.out.cell 3 _ rfl; have hb0_4 := HB0.out.cell 4 _ rfl; have hb0_5 := HB0.out.cell 5 _ rfl; clear B9; clear t1; have t2 : (1 : Nat) = 1 := rfl)
        | (have q0 := t0; refine box_lawC _ (he.hv k n c l e t) rfl ?_; intro w1 X9 B9 l9; have HB0 : Hid (Vr w1 w.heap.size (he.hv k n c l e t)) := X9; have BB : Hid (Below w.heap.size w w1) := B9; have hb0_0 := HB0.out.cell 0 _ rfl; have hb0_1 := HB0.out.cell 1 _ rfl; have hb0_2 := HB0.out.cell 2 _ rfl; have hb0_3 := HB0.out.cell 3 _ rfl; have hb0_4 := HB0.out.cell 4 _ rfl; have hb0_5 := HB0.out.cell 5 _ rfl; clear X9 B9 l9; clear t0; have t1 : (1 : Nat) = 1 := rfl))
      go_ret
      exact ⟨rfl, BB.out⟩
  · obtain ⟨ko, kc, rfl⟩ : ∃ ao cap, kv = .slice ao ks.length cap := (by obtain ⟨ao, cap, e, _⟩ := hk; exact ⟨ao, cap, e⟩)
    have n96 : ((ks.length : Int) != 96) = true := bne_iff_ne.2 (by omega)
    clear hk hH hs hT hl
    have t0 : (0 : Nat) = 0 := rfl
    go_enter Tryd.func4, Tryd.ntmps4
    go_wp2_with (first
      | (have q1 := t1; go_at_call 6; refine (awake_any w1 (HT.out.below BB.out)).mono ?_; rintro e9 w2 ⟨rfl, B9⟩; have HB0 : Hid (Vr w2 w.heap.size (he.hv k n c l e t)) := HB0.out.below B9 (range_lt HB0.out.1 (Nat.succ_pos _)); have BB : Hid (Below w.heap.size w w2) := BB.out.trans (B9.mono BB.out.size); clear hb0_0 hb0_1 hb0_2 hb0_3 hb0_4 hb0_5; have hb0_0 := HB0.out.cell 0 _ rfl; have hb0_1 := HB0.out.cell 1 _ rfl; have hb0_2 := HB0.out.cell 2 _ rfl; have hb0_3 := HB0.out.cell 3 _ rfl; have hb0_4 := HB0.out.cell 4 _ rfl; have hb0_5 := HB0.out.cell 5 _ rfl; clear B9; clear t1; have t2 : (1 : Nat) = 1 := rfl)
      | (have q0 := t0; refine box_lawC _ (he.hv k n c l e t) rfl ?_; intro w1 X9 B9 l9; have HB0 : Hid (Vr w1 w.heap.size (he.hv k n c l e t)) := X9; have BB : Hid (Below w.heap.size w w1) := B9; have hb0_0 := HB0.out.cell 0 _ rfl; have hb0_1 := HB0.out.cell 1 _ rfl; have hb0_2 := HB0.out.cell 2 _ rfl; have hb0_3 := HB0.out.cell 3 _ rfl; have hb0_4 := HB0.out.cell 4 _ rfl; have hb0_5 := HB0.out.cell 5 _ rfl; clear X9 B9 l9; clear t0; have t1 : (1 : Nat) = 1 := rfl))
    go_ret
    exact ⟨rfl, BB.out⟩

theorem params : ∀ t ∈ Tryd.f4.params.toList, Tryd.prog.readableRec t = true ∧ t < Tryd.prog.types.size := by
  rw [Tryd.params4]
  intro t ht
  simp at ht
  rcases ht with rfl | rfl | rfl
  · exact ⟨by kernel_rfl, of_decide_eq_true (by kernel_rfl)⟩
  · exact ⟨by kernel_rfl, of_decide_eq_true (by kernel_rfl)⟩
  · exact ⟨by kernel_rfl, of_decide_eq_true (by kernel_rfl)⟩

theorem contract (H : Type) (enc : TypeId × Value → H) (W : World) (base : Nat) (args : Array Value) (ds gs : List (DataW H)) (before : List MemPlace)
    (hval : ∀ (j : Nat) t v, Tryd.f4.params[j]? = some t → args[j]? = some v → Value.okWide Tryd.prog W .any base t v)
    (hW : DataW.Whole enc Tryd.prog Tryd.f4.params.toList Rows.sealBackSpec.vars false W args.toList ds gs before) (hL : laidMetH Tryd.prog Rows.sealBackRow.laid W) :
    Calls Tryd.prog 4 args W fun e W' => ∃ v, e = .returned v ∧ Rows.sealBackSpec.post enc Tryd.prog Tryd.f4 false true false false W args v W' := by
  have hW' := hW
  obtain ⟨p, q, hA0, hV, rfl, hfz, hnd⟩ := hW
  have hA : DataW.TrodAll enc Tryd.prog W 0 (fun _ => true) true Tryd.f4.params.toList args.toList ds p := hA0
  rw [Tryd.params4] at hA hval
  obtain ⟨v0, v1, v2, d0, d1, d2, p0, p1, p2, rfl, rfl, rfl, h0, h1, h2⟩ := trodAll_three hA
  obtain ⟨rfl, rfl⟩ := trodVars_none hV
  obtain ⟨xs0, b0⟩ := byt_open (hval 0 22 v0 rfl rfl) h0
  obtain ⟨hk1, hn1, hc1, hl1, he1, ht1, rfl, hf1⟩ := head_open (hval 1 26 v1 rfl rfl) h1
  obtain ⟨xs2, b2⟩ := byt_open (hval 2 22 v2 rfl rfl) h2
  clear hA0
  refine (walk v0 xs0 hk1 hn1 hc1 hl1 he1 ht1 v2 xs2 W b0 hf1 b2 (table hL)).mono fun e W' ⟨he, hg⟩ => ?_
  subst he
  exact ⟨_, rfl, post_law rfl (by kernel_rfl) params rfl rfl rfl hW' hg⟩

theorem laid_met (os : Os) : laidMet Tryd.prog Rows.sealBackRow.laid (({ World.holding Tryd.prog os ⟨#[], #[], []⟩ with heap := (World.holding Tryd.prog os ⟨#[], #[], []⟩).heap.modify 0 fun | .cells _ t frozen => .cells #[.int .i64 1, .int .i64 1, .int .i64 1, .int .i64 1, .int .i64 4, .int .i64 8, .int .i64 8] t frozen | o => o } : World).forCall (fun _ _ => 0) ⟨#[], #[.slice none 0 0, .agg #[.int .i64 0, .int .i64 0, .int .i64 0, .int .u32 0, .int .u64 0, .int .u64 0], .slice none 0 0], []⟩).memory :=
  laidMet_of_run' 8 (by kernel_rfl) (by kernel_rfl)
theorem reads (os : Os) {H : Type} (enc : TypeId × Value → H) : ∃ places, DataW.whole enc Tryd.prog (({ World.holding Tryd.prog os ⟨#[], #[], []⟩ with heap := (World.holding Tryd.prog os ⟨#[], #[], []⟩).heap.modify 0 fun | .cells _ t frozen => .cells #[.int .i64 1, .int .i64 1, .int .i64 1, .int .i64 1, .int .i64 4, .int .i64 8, .int .i64 8] t frozen | o => o } : World).forCall (fun _ _ => 0) ⟨#[], #[.slice none 0 0, .agg #[.int .i64 0, .int .i64 0, .int .i64 0, .int .u32 0, .int .u64 0, .int .u64 0], .slice none 0 0], []⟩).memory Tryd.f4.params.toList Rows.sealBackSpec.vars false #[Value.slice none 0 0, Value.agg #[.int .i64 0, .int .i64 0, .int .i64 0, .int .u32 0, .int .u64 0, .int .u64 0], Value.slice none 0 0].toList 8 = some ([.nil, .agg [.lit (.int .i64 0), .lit (.int .i64 0), .lit (.int .i64 0), .lit (.int .u32 0), .lit (.int .u64 0), .lit (.int .u64 0)], .nil], [], places) :=
  ⟨[], by kernel_rfl⟩

set_option maxRecDepth 100000 in
theorem lifted (os : Os) (started : os.Started) (H : Type) (enc : TypeId × Value → H) (F : Stop.Interp) :
    ReturnsInHanded {} Tryd.checked os 4 .any ((OpenSpec.ofChange Rows.sealBackSpec).preRow enc Tryd.prog Tryd.f4 Rows.sealBackRow.domain false Rows.sealBackRow.laid) (((OpenSpec.ofChange Rows.sealBackSpec).at F).post enc Tryd.prog Tryd.f4 false true false false) := by
  obtain ⟨places, hx⟩ := reads os enc
  refine returnsInHanded_of_row (C := Tryd.checked) (s := OpenSpec.ofChange Rows.sealBackSpec) own started (by kernel_rfl) Tryd.func4
    (witness_row_at (enc := enc) (C := Tryd.checked) false ({ World.holding Tryd.prog os ⟨#[], #[], []⟩ with heap := (World.holding Tryd.prog os ⟨#[], #[], []⟩).heap.modify 0 fun | .cells _ t frozen => .cells #[.int .i64 1, .int .i64 1, .int .i64 1, .int .i64 1, .int .i64 4, .int .i64 8, .int .i64 8] t frozen | o => o } : World) #[.slice none 0 0, .agg #[.int .i64 0, .int .i64 0, .int .i64 0, .int .u32 0, .int .u64 0, .int .u64 0], .slice none 0 0] rfl (by kernel_rfl) (by kernel_rfl) (by kernel_rfl)
      (OpenSpec.preRow_of_cond 8 hx (by kernel_rfl) (fun k hk => by cases hk) (by kernel_rfl) (laid_met os))) ?_
  intro W base args ds gs before hval hW _ _ _ hL _ _
  exact contract H enc W base args ds gs before hval hW hL

theorem said : Rows.SealBackSaid :=
  OpenClaim.holds_of_cond 4 Tryd.f4 rfl rfl rfl rfl rfl rfl rfl ⟨rfl, rfl, rfl, rfl, rfl⟩ rfl rfl rfl rfl rfl (by kernel_rfl) Tryd.func4 (by kernel_rfl)
    (of_decide_eq_true (by kernel_rfl)) (by unfold Func.isWrapper; first | (rw [if_pos (by decide +kernel)]; kernel_rfl) | (rw [if_neg (by decide +kernel)]; exact ⟨rfl, rfl⟩))
    (fun os started H enc _ F => by rw [OpenClaim.pre_eq_preRow]; exact lifted os started H enc F)

theorem plain (f : FuncId) (fn : Func) (hf : Tryd.pinned.checked.prog.funcNamed "nepenthe/nepenthelaw16.SealBack" = some f) (hfn : Tryd.pinned.checked.prog.funcs[f]? = some fn) :
    false = Tryd.pinned.checked.prog.looks [] ∧ ∀ (j : Nat) t, fn.params[j]? = some t → Tryd.pinned.checked.prog.wantsStandIn t = false := by
  obtain rfl : f = 4 := Option.some.inj ((show Tryd.prog.funcNamed "nepenthe/nepenthelaw16.SealBack" = some 4 by kernel_rfl).symm.trans hf) |>.symm
  obtain rfl : fn = Tryd.f4 := (Option.some.inj (Tryd.func4.symm.trans hfn)).symm
  refine ⟨by kernel_rfl, fun j t ht => ?_⟩
  rw [Tryd.params4] at ht
  have hm := Array.mem_of_getElem? ht
  simp at hm
  rcases hm with rfl | rfl | rfl
  · exact (show Tryd.prog.wantsStandIn 22 = false by kernel_rfl)
  · exact (show Tryd.prog.wantsStandIn 26 = false by kernel_rfl)
  · exact (show Tryd.prog.wantsStandIn 22 = false by kernel_rfl)
end Go.Proofs.YtbkaecjkgjkheaaDoor.sealBack

namespace Go.Proofs.YtbkaecjkgjkheaaDoor
theorem sealBack_card : Rows.SealBackCardSaid :=
  Claim7.holds_tied_plain_at .later [] _ _ _ _ sealBack.said (fun _ h => by cases h) (by kernel_rfl) (fun _ h => by cases h) sealBack_row_tie rfl ⟨rfl, rfl⟩ (by kernel_rfl) rfl sealBack.plain (by kernel_rfl)
#print axioms sealBack_card
end Go.Proofs.YtbkaecjkgjkheaaDoor
