/- Texts put together (a claim holds few files). No claim of its own. -/
import Derived.Test.YtbkaecjkgjkheaaGreatDoorPackP
/- What seal's Tag, Seal and Open answer. No claim of its own. -/
namespace Go.Proofs.YtbkaecjkgjkheaaGreatDoor.se
open Go.RowKit Go.Proofs.YtbkaecjkgjkheaaGreatDoor.fa Go.Proofs.YtbkaecjkgjkheaaGreatDoor.he
set_option maxRecDepth 20000

set_option maxHeartbeats 2000000 in
theorem zseal_err (kv : Value) (k n c l e t : Int) (sv : Value) (w : World) (hh : (∀ w0, Below w.heap.size w w0 → Calls Tryz.prog 19 #[kv, .agg (he.hv k n c l e t).toArray] w0 fun x w' => x = .returned (.tuple #[.slice none 0 0, .int .i64 2]) ∧ Below w0.heap.size w0 w')) :
    Calls Tryz.prog 7 #[kv, .agg (he.hv k n c l e t).toArray, sv] w fun x w' => x = .returned (.tuple #[.slice none 0 0, .slice none 0 0, .int .i64 2]) ∧ Below w.heap.size w w' := by
  have SH : Hid (∀ w0, Below w.heap.size w w0 → Calls Tryz.prog 19 #[kv, .agg (he.hv k n c l e t).toArray] w0 fun x w' => x = .returned (.tuple #[.slice none 0 0, .int .i64 2]) ∧ Below w0.heap.size w0 w') := hh
  clear hh
  have t0 : (0 : Nat) = 0 := rfl
  go_enter Tryz.func7, Tryz.ntmps7
  go_wp2_with (first
    | (have q1 := t1; go_at_call 19; refine (SH.out w1 BB.out).mono ?_; rintro e9 w2 ⟨rfl, B9⟩; have HB0 : Hid (Vr w2 w.heap.size (he.hv k n c l e t)) := HB0.out.below B9 (range_lt HB0.out.1 (Nat.succ_pos _)); have BB : Hid (Below w.heap.size w w2) := BB.out.trans (B9.mono BB.out.size); clear hb0_0 hb0_1 hb0_2 hb0_3 hb0_4 hb0_5; have hb0_0 := HB0.out.cell 0 _ rfl; have hb0_1 := HB0.out.cell 1 _ rfl; have hb0_2 := HB0.out.cell 2 _ rfl; have hb0_3 := HB0.out.cell 3 _ rfl; have hb0_4 := HB0.out.cell 4 _ rfl; have hb0_5 := HB0.out.cell 5 _ rfl; clear B9; clear t1; have t2 : (1 : Nat) = 1 := rfl)
    | (have q0 := t0; refine box_lawC _ (he.hv k n c l e t) rfl ?_; intro w1 X9 B9 l9; have HB0 : Hid (Vr w1 w.heap.size (he.hv k n c l e t)) := X9; have BB : Hid (Below w.heap.size w w1) := B9; have hb0_0 := HB0.out.cell 0 _ rfl; have hb0_1 := HB0.out.cell 1 _ rfl; have hb0_2 := HB0.out.cell 2 _ rfl; have hb0_3 := HB0.out.cell 3 _ rfl; have hb0_4 := HB0.out.cell 4 _ rfl; have hb0_5 := HB0.out.cell 5 _ rfl; clear X9 B9 l9; clear t0; have t1 : (1 : Nat) = 1 := rfl))
  go_ret3
  exact ⟨rfl, BB.out⟩

set_option maxHeartbeats 2000000 in
theorem zopen_err (kv : Value) (k n c l e t : Int) (sv tv : Value) (w : World) (hh : (∀ w0, Below w.heap.size w w0 → Calls Tryz.prog 19 #[kv, .agg (he.hv k n c l e t).toArray] w0 fun x w' => x = .returned (.tuple #[.slice none 0 0, .int .i64 2]) ∧ Below w0.heap.size w0 w')) :
    Calls Tryz.prog 14 #[kv, .agg (he.hv k n c l e t).toArray, sv, tv] w fun x w' => x = .returned (.tuple #[.slice none 0 0, .int .i64 2]) ∧ Below w.heap.size w w' := by
  have SH : Hid (∀ w0, Below w.heap.size w w0 → Calls Tryz.prog 19 #[kv, .agg (he.hv k n c l e t).toArray] w0 fun x w' => x = .returned (.tuple #[.slice none 0 0, .int .i64 2]) ∧ Below w0.heap.size w0 w') := hh
  clear hh
  have t0 : (0 : Nat) = 0 := rfl
  go_enter Tryz.func14, Tryz.ntmps14
  go_wp2_with (first
    | (have q1 := t1; go_at_call 19; refine (SH.out w1 BB.out).mono ?_; rintro e9 w2 ⟨rfl, B9⟩; have HB0 : Hid (Vr w2 w.heap.size (he.hv k n c l e t)) := HB0.out.below B9 (range_lt HB0.out.1 (Nat.succ_pos _)); have BB : Hid (Below w.heap.size w w2) := BB.out.trans (B9.mono BB.out.size); clear hb0_0 hb0_1 hb0_2 hb0_3 hb0_4 hb0_5; have hb0_0 := HB0.out.cell 0 _ rfl; have hb0_1 := HB0.out.cell 1 _ rfl; have hb0_2 := HB0.out.cell 2 _ rfl; have hb0_3 := HB0.out.cell 3 _ rfl; have hb0_4 := HB0.out.cell 4 _ rfl; have hb0_5 := HB0.out.cell 5 _ rfl; clear B9; clear t1; have t2 : (1 : Nat) = 1 := rfl)
    | (have q0 := t0; refine box_lawC _ (he.hv k n c l e t) rfl ?_; intro w1 X9 B9 l9; have HB0 : Hid (Vr w1 w.heap.size (he.hv k n c l e t)) := X9; have BB : Hid (Below w.heap.size w w1) := B9; have hb0_0 := HB0.out.cell 0 _ rfl; have hb0_1 := HB0.out.cell 1 _ rfl; have hb0_2 := HB0.out.cell 2 _ rfl; have hb0_3 := HB0.out.cell 3 _ rfl; have hb0_4 := HB0.out.cell 4 _ rfl; have hb0_5 := HB0.out.cell 5 _ rfl; clear X9 B9 l9; clear t0; have t1 : (1 : Nat) = 1 := rfl))
  go_ret2
  exact ⟨rfl, BB.out⟩

set_option maxHeartbeats 8000000 in
theorem zseal_yes (k n c l e t : Int) (sv : Value) (ss : List Int) (w : World) (p : Nat) (ks : List Int) (hK : Kys w p ks) (hl : ks.length = 96) (hr : Rh k n c) (hH : Hb l e t) (hT : Tab w) (hs : Byt w sv ss) (ha : AllB ks) (N : Nat) (hsl : ss.length = 16 * N) (hN : 1 ≤ N) (hN' : N ≤ 256) :
    Calls Tryz.prog 7 #[.pointer (some ⟨p, 0, none⟩), .agg (he.hv k n c l e t).toArray, sv] w fun x w' => ∃ xo xc ao cap, x = .returned (.tuple #[.slice xo ss.length xc, .slice ao 32 cap, .int .i64 0]) ∧ Byt w' (.slice xo ss.length xc) (xt.run (xt.xe (kd ks)) (nm16 (encr (kt ks) (twk e t))) ss N) ∧ Byt w' (.slice ao 32 cap) (mc.tagB (mc.blk (kg ks)) ((he.hb k n c l e t) ++ (xt.run (xt.xe (kd ks)) (nm16 (encr (kt ks) (twk e t))) ss N))) ∧ Below w.heap.size w w' := by
  have HK : Hid (Kys w p ks) := hK
  obtain ⟨cc, mm, c0, c1, hC, hM⟩ := hK
  have K0 : Hid (∀ w', Below w.heap.size w w' → w'.cell? ⟨p, 0, none⟩ = some (.pointer (some ⟨cc, 0, none⟩))) := fun w' hb => by rw [hb.cell (World.block_lt_of_cell? w _ c0)]; exact c0
  have K1 : Hid (∀ w', Below w.heap.size w w' → w'.cell? ⟨p, 1, none⟩ = some (.pointer (some ⟨mm, 0, none⟩))) := fun w' hb => by rw [hb.cell (World.block_lt_of_cell? w _ c1)]; exact c1
  have HC : Hid (xt.Cip w cc (kd ks) (kt ks)) := hC
  have HM : Hid (mc.KeyV w (.pointer (some ⟨mm, 0, none⟩)) (mc.blk (kg ks))) := hM
  have HV : Hid (Byt w sv ss) := hs
  obtain ⟨so, sc, rfl⟩ : ∃ ao cap, sv = .slice ao ss.length cap := (by obtain ⟨ao, cap, e, _⟩ := hs; exact ⟨ao, cap, e⟩)
  have SX : Hid (∀ w0 tv, Below w.heap.size w w0 → Byt w0 tv (twk e t) → Calls Tryz.prog 20 #[.pointer (some ⟨cc, 0, none⟩), tv, .slice so ss.length sc] w0 fun x w' => ∃ u, x = .returned u ∧ (∃ xo xc, u = .tuple #[.slice xo ss.length xc, .int .i64 0] ∧ Byt w' (.slice xo ss.length xc) (xt.run (xt.xe (kd ks)) (nm16 (encr (kt ks) (twk e t))) ss N)) ∧ Below w0.heap.size w0 w') := fun w0 tv hb ht => (xt.xenc_any cc tv _ (kd ks) (kt ks) (twk e t) ss N w0 (HC.out.below hb) (kd_len hl) (kd_all ha) (kt_len hl) (kt_all ha) ht (twk_len e t) (HV.out.below hb) hsl hN hN').mono fun _ _ ⟨v', h1, h2, h3⟩ => by
    obtain ⟨xo, xc, rfl⟩ := byt_form h2 (n := ss.length) (enc_len _ hl ha HV.out.all hsl)
    exact ⟨_, h1, ⟨xo, xc, rfl, h2⟩, h3⟩
  have ST : Hid (∀ w0, Calls Tryz.prog 16 #[.agg (he.hv k n c l e t).toArray] w0 fun x w' => ∃ r, x = .returned r ∧ Byt w' r (twk e t) ∧ Below w0.heap.size w0 w') := fun w0 => ztweak_any k n c l e t w0 hH
  have SH : Hid (∀ w0, Below w.heap.size w w0 → Calls Tryz.prog 19 #[.pointer (some ⟨p, 0, none⟩), .agg (he.hv k n c l e t).toArray] w0 fun x w' => ∃ eo ec, x = .returned (.tuple #[.slice eo 24 ec, .int .i64 0]) ∧ Byt w' (.slice eo 24 ec) (he.hb k n c l e t) ∧ Below w0.heap.size w0 w') := fun w0 hb => zhead_yes k n c l e t w0 p ks (HK.out.below hb) hr hH (hT.below hb)
  have HN : Hid ((he.hb k n c l e t).length = 24) := hb_len _ _ _ _ _ _
  have HZ : Hid (ss.length ≤ 10000) := (by show ss.length ≤ 10000; omega)
  have EL : Hid ((xt.run (xt.xe (kd ks)) (nm16 (encr (kt ks) (twk e t))) ss N).length = ss.length) := enc_len _ hl ha HV.out.all hsl
  generalize (he.hb k n c l e t) = HY at SH HN ⊢
  generalize mc.blk (kg ks) = BL at HM ⊢
  generalize (xt.run (xt.xe (kd ks)) (nm16 (encr (kt ks) (twk e t))) ss N) = EX at SX EL ⊢
  generalize twk e t = TW at ST SX
  clear c0 c1 hC hM hr hH hT hs hl HK ha hsl hN hN'
  have t0 : (0 : Nat) = 0 := rfl
  go_enter Tryz.func7, Tryz.ntmps7
  go_wp2_with (first
    | (have q1 := t1; go_at_call 19; refine (SH.out w1 BB.out).mono ?_; rintro e9 w2 ⟨eo, ec, rfl, Y9, B9⟩; have HB0 : Hid (Vr w2 w.heap.size (he.hv k n c l e t)) := HB0.out.below B9 (range_lt HB0.out.1 (Nat.succ_pos _)); have HE : Hid (Byt w2 (.slice eo 24 ec) HY) := Y9; have BB : Hid (Below w.heap.size w w2) := BB.out.trans (B9.mono BB.out.size); clear hb0_0 hb0_1 hb0_2 hb0_3 hb0_4 hb0_5; have hb0_0 := HB0.out.cell 0 _ rfl; have hb0_1 := HB0.out.cell 1 _ rfl; have hb0_2 := HB0.out.cell 2 _ rfl; have hb0_3 := HB0.out.cell 3 _ rfl; have hb0_4 := HB0.out.cell 4 _ rfl; have hb0_5 := HB0.out.cell 5 _ rfl; clear B9 Y9; clear t1; have t2 : (1 : Nat) = 1 := rfl)
    | (have q0 := t0; refine box_lawC _ (he.hv k n c l e t) rfl ?_; intro w1 X9 B9 l9; have HB0 : Hid (Vr w1 w.heap.size (he.hv k n c l e t)) := X9; have BB : Hid (Below w.heap.size w w1) := B9; have hb0_0 := HB0.out.cell 0 _ rfl; have hb0_1 := HB0.out.cell 1 _ rfl; have hb0_2 := HB0.out.cell 2 _ rfl; have hb0_3 := HB0.out.cell 3 _ rfl; have hb0_4 := HB0.out.cell 4 _ rfl; have hb0_5 := HB0.out.cell 5 _ rfl; clear X9 B9 l9; clear t0; have t1 : (1 : Nat) = 1 := rfl))
  refine wp_region_held_drew (S := fun w' => Below w2.heap.size w2 w') (by kernel_rfl) (Below.refl _ _).drew (fun hS => ?_)
  obtain ⟨x1, hx0⟩ : ∃ x, x = w2.drew := ⟨_, rfl⟩
  rw [← hx0] at hS  ⊢
  clear hx0
  refine take_lawH 0 (some 22) (.pointer (some ⟨p, 0, none⟩)) rfl rfl (by kernel_rfl) (by kernel_rfl) (by kernel_rfl) (fun _ _ _ h => h) (Or.inl ⟨by rfl, fun w' hw' => by rfl⟩) hS ?_
  simp only [Act.put, List.setIfInBounds_toArray, List.set_cons_zero, List.set_cons_succ]
  refine take_lawH 1 (some 23) (.pointer (some ⟨p, 0, none⟩)) rfl rfl (by kernel_rfl) (by kernel_rfl) (by kernel_rfl) (fun _ _ _ h => h) (Or.inl ⟨by rfl, fun w' hw' => by go_simp⟩) hS ?_
  simp only [Act.put, List.setIfInBounds_toArray, List.set_cons_zero, List.set_cons_succ]
  refine take_lawH 2 (some 24) (.pointer (some ⟨p, 0, none⟩)) rfl rfl (by kernel_rfl) (by kernel_rfl) (by kernel_rfl) (fun _ _ _ h => h) (Or.inl ⟨by rfl, fun w' hw' => by go_simp⟩) hS ?_
  simp only [Act.put, List.setIfInBounds_toArray, List.set_cons_zero, List.set_cons_succ]
  refine take_lawH 3 (some 25) (.pointer (some ⟨cc, 0, none⟩)) rfl rfl (by kernel_rfl) (by kernel_rfl) (by kernel_rfl) (fun _ _ _ h => h) (Or.inl ⟨by rfl, fun w' hw' => by exact exec_loadN 46 (.tmp 24) rfl _ rfl _ _ (ld_cptr (K0.out w' (BB.out.trans (hw'.mono BB.out.size))))⟩) hS ?_
  simp only [Act.put, List.setIfInBounds_toArray, List.set_cons_zero, List.set_cons_succ]
  refine take_lawH 4 (some 26) (.agg (he.hv k n c l e t).toArray) rfl rfl (by kernel_rfl) (by kernel_rfl) (by kernel_rfl) (fun _ _ _ h => h) (Or.inl ⟨by rfl, fun w' hw' => by exact exec_loadN 26 (.tmp 4) rfl _ rfl _ _ (load_cells rowy_head (HB0.out.below hw' (range_lt HB0.out.1 (Nat.succ_pos _))).1)⟩) hS ?_
  simp only [Act.put, List.setIfInBounds_toArray, List.set_cons_zero, List.set_cons_succ]
  refine take_lawH 6 (some 28) (.slice so ss.length sc) rfl rfl (by kernel_rfl) (by kernel_rfl) (by kernel_rfl) (fun _ _ _ h => h) (Or.inl ⟨by rfl, fun w' hw' => by rfl⟩) hS ?_
  simp only [Act.put, List.setIfInBounds_toArray, List.set_cons_zero, List.set_cons_succ]
  refine wpAnyH_ready (rs := [5]) (by kernel_rfl) (by simp) ?_
  refine AllReadyH.cons rfl (fun K hK => ?_) AllReadyH.nil
  refine step_callW _ (by rfl) (some 27) rfl 16 #[.tmp 26] #[26] rfl (fun q w' => by rfl) #[.agg (he.hv k n c l e t).toArray] (by simp only [List.map_toArray, List.map_cons, List.map_nil]; rfl) (fun u w' => Byt w' u TW ∧ Below x1.heap.size x1 w') ?_ ?_
  · exact (ST.out x1).mono fun e w' ⟨r, h1, h2, h3⟩ => ⟨r, h1, h2, h3⟩
  rintro tv9 x2 ⟨y1, hb⟩
  have YT : Hid (Byt x2 tv9 TW) := y1
  clear y1
  have hS : Below w2.heap.size w2 x2 := hS.trans (hb.mono hS.size)
  clear hb
  refine hK.out _ _ hS (fun _ => ?_)
  simp only [Act.put, List.setIfInBounds_toArray, List.set_cons_zero, List.set_cons_succ]
  clear hK K
  refine wpAnyH_ready (rs := [7]) (by kernel_rfl) (by simp) ?_
  refine AllReadyH.cons rfl (fun K hK => ?_) AllReadyH.nil
  refine step_callW _ (by rfl) (some 29) rfl 20 #[.tmp 25, .tmp 27, .tmp 28] #[46, 22, 22] rfl (fun q w' => by rfl) #[.pointer (some ⟨cc, 0, none⟩), tv9, .slice so ss.length sc] (by simp only [List.map_toArray, List.map_cons, List.map_nil]; rfl) (fun u w' => (∃ xo xc, u = .tuple #[.slice xo ss.length xc, .int .i64 0] ∧ Byt w' (.slice xo ss.length xc) EX) ∧ Below x2.heap.size x2 w') ?_ ?_
  · exact SX.out x2 tv9 (BB.out.trans (hS.mono BB.out.size)) YT.out
  rintro _ x3 ⟨⟨xo, xc, rfl, y1⟩, hb⟩
  have HX : Hid (Byt x3 (.slice xo ss.length xc) EX) := y1
  clear y1
  have hS : Below w2.heap.size w2 x3 := hS.trans (hb.mono hS.size)
  clear hb
  refine hK.out _ _ hS (fun _ => ?_)
  simp only [Act.put, List.setIfInBounds_toArray, List.set_cons_zero, List.set_cons_succ]
  clear hK K
  refine take_lawH 8 (some 21) (.tuple #[.slice xo ss.length xc, .int .i64 0]) rfl rfl (by kernel_rfl) (by kernel_rfl) (by kernel_rfl) (fun _ _ _ h => h) (Or.inl ⟨by rfl, fun w' hw' => by rfl⟩) hS ?_
  simp only [Act.put, List.setIfInBounds_toArray, List.set_cons_zero, List.set_cons_succ]
  refine take_lawH 9 (some 30) (.slice xo ss.length xc) rfl rfl (by kernel_rfl) (by kernel_rfl) (by kernel_rfl) (fun _ _ _ h => h) (Or.inl ⟨by rfl, fun w' hw' => by rfl⟩) hS ?_
  simp only [Act.put, List.setIfInBounds_toArray, List.set_cons_zero, List.set_cons_succ]
  refine take_lawH 10 (some 31) (.int .i64 0) rfl rfl (by kernel_rfl) (by kernel_rfl) (by kernel_rfl) (fun _ _ _ h => h) (Or.inl ⟨by rfl, fun w' hw' => by rfl⟩) hS ?_
  simp only [Act.put, List.setIfInBounds_toArray, List.set_cons_zero, List.set_cons_succ]
  refine take_lawH 11 (some 11) (.slice xo ss.length xc) rfl rfl (by kernel_rfl) (by kernel_rfl) (by kernel_rfl) (fun _ _ _ h => h) (Or.inl ⟨by rfl, fun w' hw' => by rfl⟩) hS ?_
  simp only [Act.put, List.setIfInBounds_toArray, List.set_cons_zero, List.set_cons_succ]
  refine take_lawH 12 (some 10) (.int .i64 0) rfl rfl (by kernel_rfl) (by kernel_rfl) (by kernel_rfl) (fun _ _ _ h => h) (Or.inl ⟨by rfl, fun w' hw' => by rfl⟩) hS ?_
  simp only [Act.put, List.setIfInBounds_toArray, List.set_cons_zero, List.set_cons_succ]
  refine wpAnyH_done (by kernel_rfl) ?_ _
  clear hb0_0 hb0_1 hb0_2 hb0_3 hb0_4 hb0_5
  have HE : Hid (Byt x3 (.slice eo 24 ec) HY) := HE.out.below hS
  have BB : Hid (Below w.heap.size w x3) := BB.out.trans (hS.mono BB.out.size)
  have c1 : x3.cell? ⟨p, 1, none⟩ = some (.pointer (some ⟨mm, 0, none⟩)) := K1.out x3 BB.out
  clear hS HB0
  have t20 : (0 : Nat) = 0 := rfl
  go_wp2_with (first
    | (have q20 := t20; go_at_call 21; refine (tag2_any x3 _ BL _ _ HY EX (HM.out.below BB.out) HE.out HX.out (by rw [HN.out]; omega) (by rw [EL.out]; exact HZ.out)).mono ?_; rintro e9 w9 ⟨ao, cap, rfl, Y9, B9⟩; have HR : Hid (Byt w9 (.slice ao 32 cap) (mc.tagB BL (HY ++ EX))) := Y9; have HX : Hid (Byt w9 (.slice xo ss.length xc) EX) := HX.out.below B9; have BB : Hid (Below w.heap.size w w9) := BB.out.trans (B9.mono BB.out.size); clear Y9 B9; clear t20))
  go_ret3
  exact ⟨_, _, _, _, rfl, HX.out, HR.out, BB.out⟩

set_option maxHeartbeats 8000000 in
theorem zseal_no (k n c l e t : Int) (sv : Value) (ss : List Int) (w : World) (p : Nat) (ks : List Int) (hK : Kys w p ks) (_hl : ks.length = 96) (hr : Rh k n c) (hH : Hb l e t) (hT : Tab w) (hs : Byt w sv ss) (hx : ¬ (16 ≤ ss.length ∧ ss.length ≤ 4096 ∧ ss.length % 16 = 0)) :
    Calls Tryz.prog 7 #[.pointer (some ⟨p, 0, none⟩), .agg (he.hv k n c l e t).toArray, sv] w fun x w' => x = .returned (.tuple #[.slice none 0 0, .slice none 0 0, .int .i64 2]) ∧ Below w.heap.size w w' := by
  have HK : Hid (Kys w p ks) := hK
  obtain ⟨cc, mm, c0, c1, hC, hM⟩ := hK
  have K0 : Hid (∀ w', Below w.heap.size w w' → w'.cell? ⟨p, 0, none⟩ = some (.pointer (some ⟨cc, 0, none⟩))) := fun w' hb => by rw [hb.cell (World.block_lt_of_cell? w _ c0)]; exact c0
  have K1 : Hid (∀ w', Below w.heap.size w w' → w'.cell? ⟨p, 1, none⟩ = some (.pointer (some ⟨mm, 0, none⟩))) := fun w' hb => by rw [hb.cell (World.block_lt_of_cell? w _ c1)]; exact c1
  have HC : Hid (xt.Cip w cc (kd ks) (kt ks)) := hC
  have HM : Hid (mc.KeyV w (.pointer (some ⟨mm, 0, none⟩)) (mc.blk (kg ks))) := hM
  have HV : Hid (Byt w sv ss) := hs
  obtain ⟨so, sc, rfl⟩ : ∃ ao cap, sv = .slice ao ss.length cap := (by obtain ⟨ao, cap, e, _⟩ := hs; exact ⟨ao, cap, e⟩)
  have SX : Hid (∀ w0 tv, Below w.heap.size w w0 → Byt w0 tv (twk e t) → Calls Tryz.prog 20 #[.pointer (some ⟨cc, 0, none⟩), tv, .slice so ss.length sc] w0 fun x w' => ∃ u, x = .returned u ∧ u = .tuple #[.slice none 0 0, .int .i64 2] ∧ Below w0.heap.size w0 w') := fun w0 tv hb ht => (xt.xenc_no cc tv _ (kd ks) (kt ks) (twk e t) ss w0 (HC.out.below hb) ht (HV.out.below hb) fun q => hx q.2).mono fun _ _ ⟨h1, h2⟩ => ⟨_, h1, rfl, by rw [h2]; exact Below.refl _ _⟩
  have ST : Hid (∀ w0, Calls Tryz.prog 16 #[.agg (he.hv k n c l e t).toArray] w0 fun x w' => ∃ r, x = .returned r ∧ Byt w' r (twk e t) ∧ Below w0.heap.size w0 w') := fun w0 => ztweak_any k n c l e t w0 hH
  have SH : Hid (∀ w0, Below w.heap.size w w0 → Calls Tryz.prog 19 #[.pointer (some ⟨p, 0, none⟩), .agg (he.hv k n c l e t).toArray] w0 fun x w' => ∃ eo ec, x = .returned (.tuple #[.slice eo 24 ec, .int .i64 0]) ∧ Byt w' (.slice eo 24 ec) (he.hb k n c l e t) ∧ Below w0.heap.size w0 w') := fun w0 hb => zhead_yes k n c l e t w0 p ks (HK.out.below hb) hr hH (hT.below hb)
  have HN : Hid ((he.hb k n c l e t).length = 24) := hb_len _ _ _ _ _ _
  generalize (he.hb k n c l e t) = HY at SH HN ⊢
  generalize mc.blk (kg ks) = BL at HM ⊢
  generalize twk e t = TW at ST SX
  clear c0 c1 hC hM hr hH hT hs _hl HK hx
  have t0 : (0 : Nat) = 0 := rfl
  go_enter Tryz.func7, Tryz.ntmps7
  go_wp2_with (first
    | (have q1 := t1; go_at_call 19; refine (SH.out w1 BB.out).mono ?_; rintro e9 w2 ⟨eo, ec, rfl, Y9, B9⟩; have HB0 : Hid (Vr w2 w.heap.size (he.hv k n c l e t)) := HB0.out.below B9 (range_lt HB0.out.1 (Nat.succ_pos _)); have HE : Hid (Byt w2 (.slice eo 24 ec) HY) := Y9; have BB : Hid (Below w.heap.size w w2) := BB.out.trans (B9.mono BB.out.size); clear hb0_0 hb0_1 hb0_2 hb0_3 hb0_4 hb0_5; have hb0_0 := HB0.out.cell 0 _ rfl; have hb0_1 := HB0.out.cell 1 _ rfl; have hb0_2 := HB0.out.cell 2 _ rfl; have hb0_3 := HB0.out.cell 3 _ rfl; have hb0_4 := HB0.out.cell 4 _ rfl; have hb0_5 := HB0.out.cell 5 _ rfl; clear B9 Y9; clear t1; have t2 : (1 : Nat) = 1 := rfl)
    | (have q0 := t0; refine box_lawC _ (he.hv k n c l e t) rfl ?_; intro w1 X9 B9 l9; have HB0 : Hid (Vr w1 w.heap.size (he.hv k n c l e t)) := X9; have BB : Hid (Below w.heap.size w w1) := B9; have hb0_0 := HB0.out.cell 0 _ rfl; have hb0_1 := HB0.out.cell 1 _ rfl; have hb0_2 := HB0.out.cell 2 _ rfl; have hb0_3 := HB0.out.cell 3 _ rfl; have hb0_4 := HB0.out.cell 4 _ rfl; have hb0_5 := HB0.out.cell 5 _ rfl; clear X9 B9 l9; clear t0; have t1 : (1 : Nat) = 1 := rfl))
  refine wp_region_held_drew (S := fun w' => Below w2.heap.size w2 w') (by kernel_rfl) (Below.refl _ _).drew (fun hS => ?_)
  obtain ⟨x1, hx0⟩ : ∃ x, x = w2.drew := ⟨_, rfl⟩
  rw [← hx0] at hS  ⊢
  clear hx0
  refine take_lawH 0 (some 22) (.pointer (some ⟨p, 0, none⟩)) rfl rfl (by kernel_rfl) (by kernel_rfl) (by kernel_rfl) (fun _ _ _ h => h) (Or.inl ⟨by rfl, fun w' hw' => by rfl⟩) hS ?_
  simp only [Act.put, List.setIfInBounds_toArray, List.set_cons_zero, List.set_cons_succ]
  refine take_lawH 1 (some 23) (.pointer (some ⟨p, 0, none⟩)) rfl rfl (by kernel_rfl) (by kernel_rfl) (by kernel_rfl) (fun _ _ _ h => h) (Or.inl ⟨by rfl, fun w' hw' => by go_simp⟩) hS ?_
  simp only [Act.put, List.setIfInBounds_toArray, List.set_cons_zero, List.set_cons_succ]
  refine take_lawH 2 (some 24) (.pointer (some ⟨p, 0, none⟩)) rfl rfl (by kernel_rfl) (by kernel_rfl) (by kernel_rfl) (fun _ _ _ h => h) (Or.inl ⟨by rfl, fun w' hw' => by go_simp⟩) hS ?_
  simp only [Act.put, List.setIfInBounds_toArray, List.set_cons_zero, List.set_cons_succ]
  refine take_lawH 3 (some 25) (.pointer (some ⟨cc, 0, none⟩)) rfl rfl (by kernel_rfl) (by kernel_rfl) (by kernel_rfl) (fun _ _ _ h => h) (Or.inl ⟨by rfl, fun w' hw' => by exact exec_loadN 46 (.tmp 24) rfl _ rfl _ _ (ld_cptr (K0.out w' (BB.out.trans (hw'.mono BB.out.size))))⟩) hS ?_
  simp only [Act.put, List.setIfInBounds_toArray, List.set_cons_zero, List.set_cons_succ]
  refine take_lawH 4 (some 26) (.agg (he.hv k n c l e t).toArray) rfl rfl (by kernel_rfl) (by kernel_rfl) (by kernel_rfl) (fun _ _ _ h => h) (Or.inl ⟨by rfl, fun w' hw' => by exact exec_loadN 26 (.tmp 4) rfl _ rfl _ _ (load_cells rowy_head (HB0.out.below hw' (range_lt HB0.out.1 (Nat.succ_pos _))).1)⟩) hS ?_
  simp only [Act.put, List.setIfInBounds_toArray, List.set_cons_zero, List.set_cons_succ]
  refine take_lawH 6 (some 28) (.slice so ss.length sc) rfl rfl (by kernel_rfl) (by kernel_rfl) (by kernel_rfl) (fun _ _ _ h => h) (Or.inl ⟨by rfl, fun w' hw' => by rfl⟩) hS ?_
  simp only [Act.put, List.setIfInBounds_toArray, List.set_cons_zero, List.set_cons_succ]
  refine wpAnyH_ready (rs := [5]) (by kernel_rfl) (by simp) ?_
  refine AllReadyH.cons rfl (fun K hK => ?_) AllReadyH.nil
  refine step_callW _ (by rfl) (some 27) rfl 16 #[.tmp 26] #[26] rfl (fun q w' => by rfl) #[.agg (he.hv k n c l e t).toArray] (by simp only [List.map_toArray, List.map_cons, List.map_nil]; rfl) (fun u w' => Byt w' u TW ∧ Below x1.heap.size x1 w') ?_ ?_
  · exact (ST.out x1).mono fun e w' ⟨r, h1, h2, h3⟩ => ⟨r, h1, h2, h3⟩
  rintro tv9 x2 ⟨y1, hb⟩
  have YT : Hid (Byt x2 tv9 TW) := y1
  clear y1
  have hS : Below w2.heap.size w2 x2 := hS.trans (hb.mono hS.size)
  clear hb
  refine hK.out _ _ hS (fun _ => ?_)
  simp only [Act.put, List.setIfInBounds_toArray, List.set_cons_zero, List.set_cons_succ]
  clear hK K
  refine wpAnyH_ready (rs := [7]) (by kernel_rfl) (by simp) ?_
  refine AllReadyH.cons rfl (fun K hK => ?_) AllReadyH.nil
  refine step_callW _ (by rfl) (some 29) rfl 20 #[.tmp 25, .tmp 27, .tmp 28] #[46, 22, 22] rfl (fun q w' => by rfl) #[.pointer (some ⟨cc, 0, none⟩), tv9, .slice so ss.length sc] (by simp only [List.map_toArray, List.map_cons, List.map_nil]; rfl) (fun u w' => u = .tuple #[.slice none 0 0, .int .i64 2] ∧ Below x2.heap.size x2 w') ?_ ?_
  · exact SX.out x2 tv9 (BB.out.trans (hS.mono BB.out.size)) YT.out
  rintro _ x3 ⟨rfl, hb⟩
  have hS : Below w2.heap.size w2 x3 := hS.trans (hb.mono hS.size)
  clear hb
  refine hK.out _ _ hS (fun _ => ?_)
  simp only [Act.put, List.setIfInBounds_toArray, List.set_cons_zero, List.set_cons_succ]
  clear hK K
  refine take_lawH 8 (some 21) (.tuple #[.slice none 0 0, .int .i64 2]) rfl rfl (by kernel_rfl) (by kernel_rfl) (by kernel_rfl) (fun _ _ _ h => h) (Or.inl ⟨by rfl, fun w' hw' => by rfl⟩) hS ?_
  simp only [Act.put, List.setIfInBounds_toArray, List.set_cons_zero, List.set_cons_succ]
  refine take_lawH 9 (some 30) (.slice none 0 0) rfl rfl (by kernel_rfl) (by kernel_rfl) (by kernel_rfl) (fun _ _ _ h => h) (Or.inl ⟨by rfl, fun w' hw' => by rfl⟩) hS ?_
  simp only [Act.put, List.setIfInBounds_toArray, List.set_cons_zero, List.set_cons_succ]
  refine take_lawH 10 (some 31) (.int .i64 2) rfl rfl (by kernel_rfl) (by kernel_rfl) (by kernel_rfl) (fun _ _ _ h => h) (Or.inl ⟨by rfl, fun w' hw' => by rfl⟩) hS ?_
  simp only [Act.put, List.setIfInBounds_toArray, List.set_cons_zero, List.set_cons_succ]
  refine take_lawH 11 (some 11) (.slice none 0 0) rfl rfl (by kernel_rfl) (by kernel_rfl) (by kernel_rfl) (fun _ _ _ h => h) (Or.inl ⟨by rfl, fun w' hw' => by rfl⟩) hS ?_
  simp only [Act.put, List.setIfInBounds_toArray, List.set_cons_zero, List.set_cons_succ]
  refine take_lawH 12 (some 10) (.int .i64 2) rfl rfl (by kernel_rfl) (by kernel_rfl) (by kernel_rfl) (fun _ _ _ h => h) (Or.inl ⟨by rfl, fun w' hw' => by rfl⟩) hS ?_
  simp only [Act.put, List.setIfInBounds_toArray, List.set_cons_zero, List.set_cons_succ]
  refine wpAnyH_done (by kernel_rfl) ?_ _
  clear hb0_0 hb0_1 hb0_2 hb0_3 hb0_4 hb0_5
  have HE : Hid (Byt x3 (.slice eo 24 ec) HY) := HE.out.below hS
  have BB : Hid (Below w.heap.size w x3) := BB.out.trans (hS.mono BB.out.size)
  have c1 : x3.cell? ⟨p, 1, none⟩ = some (.pointer (some ⟨mm, 0, none⟩)) := K1.out x3 BB.out
  clear hS HB0
  go_wp2
  go_ret3
  exact ⟨rfl, BB.out⟩

set_option maxHeartbeats 8000000 in
theorem zopen_yes (k n c l e t : Int) (sv : Value) (ss : List Int) (w : World) (p : Nat) (ks : List Int) (hK : Kys w p ks) (hl : ks.length = 96) (hr : Rh k n c) (hH : Hb l e t) (hT : Tab w) (hs : Byt w sv ss) (tv : Value) (gs : List Int) (hg : Byt w tv gs) (ha : AllB ks) (N : Nat) (hsl : ss.length = 16 * N) (hN : 1 ≤ N) (hN' : N ≤ 256) (hf : gs = mc.tagB (mc.blk (kg ks)) ((he.hb k n c l e t) ++ ss)) :
    Calls Tryz.prog 14 #[.pointer (some ⟨p, 0, none⟩), .agg (he.hv k n c l e t).toArray, sv, tv] w fun x w' => ∃ xo xc, x = .returned (.tuple #[.slice xo ss.length xc, .int .i64 0]) ∧ Byt w' (.slice xo ss.length xc) (xt.run (xt.xd (kd ks)) (nm16 (encr (kt ks) (twk e t))) ss N) ∧ Below w.heap.size w w' := by
  have HK : Hid (Kys w p ks) := hK
  obtain ⟨cc, mm, c0, c1, hC, hM⟩ := hK
  have K0 : Hid (∀ w', Below w.heap.size w w' → w'.cell? ⟨p, 0, none⟩ = some (.pointer (some ⟨cc, 0, none⟩))) := fun w' hb => by rw [hb.cell (World.block_lt_of_cell? w _ c0)]; exact c0
  have K1 : Hid (∀ w', Below w.heap.size w w' → w'.cell? ⟨p, 1, none⟩ = some (.pointer (some ⟨mm, 0, none⟩))) := fun w' hb => by rw [hb.cell (World.block_lt_of_cell? w _ c1)]; exact c1
  have HC : Hid (xt.Cip w cc (kd ks) (kt ks)) := hC
  have HM : Hid (mc.KeyV w (.pointer (some ⟨mm, 0, none⟩)) (mc.blk (kg ks))) := hM
  have HV : Hid (Byt w sv ss) := hs
  obtain ⟨so, sc, rfl⟩ : ∃ ao cap, sv = .slice ao ss.length cap := (by obtain ⟨ao, cap, e, _⟩ := hs; exact ⟨ao, cap, e⟩)
  have SX : Hid (∀ w0 tv, Below w.heap.size w w0 → Byt w0 tv (twk e t) → Calls Tryz.prog 27 #[.pointer (some ⟨cc, 0, none⟩), tv, .slice so ss.length sc] w0 fun x w' => ∃ u, x = .returned u ∧ (∃ xo xc, u = .tuple #[.slice xo ss.length xc, .int .i64 0] ∧ Byt w' (.slice xo ss.length xc) (xt.run (xt.xd (kd ks)) (nm16 (encr (kt ks) (twk e t))) ss N)) ∧ Below w0.heap.size w0 w') := fun w0 tv hb ht => (xt.xdec_any cc tv _ (kd ks) (kt ks) (twk e t) ss N w0 (HC.out.below hb) (kd_len hl) (kd_all ha) (kt_len hl) (kt_all ha) ht (twk_len e t) (HV.out.below hb) hsl hN hN').mono fun _ _ ⟨v', h1, h2, h3⟩ => by
    obtain ⟨xo, xc, rfl⟩ := byt_form h2 (n := ss.length) (dec_len _ hl ha HV.out.all hsl)
    exact ⟨_, h1, ⟨xo, xc, rfl, h2⟩, h3⟩
  have ST : Hid (∀ w0, Calls Tryz.prog 16 #[.agg (he.hv k n c l e t).toArray] w0 fun x w' => ∃ r, x = .returned r ∧ Byt w' r (twk e t) ∧ Below w0.heap.size w0 w') := fun w0 => ztweak_any k n c l e t w0 hH
  have SH : Hid (∀ w0, Below w.heap.size w w0 → Calls Tryz.prog 19 #[.pointer (some ⟨p, 0, none⟩), .agg (he.hv k n c l e t).toArray] w0 fun x w' => ∃ eo ec, x = .returned (.tuple #[.slice eo 24 ec, .int .i64 0]) ∧ Byt w' (.slice eo 24 ec) (he.hb k n c l e t) ∧ Below w0.heap.size w0 w') := fun w0 hb => zhead_yes k n c l e t w0 p ks (HK.out.below hb) hr hH (hT.below hb)
  have HN : Hid ((he.hb k n c l e t).length = 24) := hb_len _ _ _ _ _ _
  have HG : Hid (Byt w tv gs) := hg
  have HZ : Hid (ss.length ≤ 10000) := (by show ss.length ≤ 10000; omega)
  have HF : Hid (decide (gs = mc.tagB (mc.blk (kg ks)) ((he.hb k n c l e t) ++ ss)) = true) := decide_eq_true hf
  generalize (he.hb k n c l e t) = HY at SH HN HF
  generalize mc.blk (kg ks) = BL at HM HF
  generalize (xt.run (xt.xd (kd ks)) (nm16 (encr (kt ks) (twk e t))) ss N) = EX at SX ⊢
  generalize twk e t = TW at ST SX
  clear c0 c1 hC hM hr hH hT hs hl HK ha hsl hN hN' hg hf
  have t0 : (0 : Nat) = 0 := rfl
  go_enter Tryz.func14, Tryz.ntmps14
  go_wp2_with (first
    | (have q1 := t1; go_at_call 19; refine (SH.out w1 BB.out).mono ?_; rintro e9 w2 ⟨eo, ec, rfl, Y9, B9⟩; have HB0 : Hid (Vr w2 w.heap.size (he.hv k n c l e t)) := HB0.out.below B9 (range_lt HB0.out.1 (Nat.succ_pos _)); have HE : Hid (Byt w2 (.slice eo 24 ec) HY) := Y9; have BB : Hid (Below w.heap.size w w2) := BB.out.trans (B9.mono BB.out.size); clear hb0_0 hb0_1 hb0_2 hb0_3 hb0_4 hb0_5; have hb0_0 := HB0.out.cell 0 _ rfl; have hb0_1 := HB0.out.cell 1 _ rfl; have hb0_2 := HB0.out.cell 2 _ rfl; have hb0_3 := HB0.out.cell 3 _ rfl; have hb0_4 := HB0.out.cell 4 _ rfl; have hb0_5 := HB0.out.cell 5 _ rfl; clear B9 Y9; clear t1; have t2 : (1 : Nat) = 1 := rfl)
    | (have q0 := t0; refine box_lawC _ (he.hv k n c l e t) rfl ?_; intro w1 X9 B9 l9; have HB0 : Hid (Vr w1 w.heap.size (he.hv k n c l e t)) := X9; have BB : Hid (Below w.heap.size w w1) := B9; have hb0_0 := HB0.out.cell 0 _ rfl; have hb0_1 := HB0.out.cell 1 _ rfl; have hb0_2 := HB0.out.cell 2 _ rfl; have hb0_3 := HB0.out.cell 3 _ rfl; have hb0_4 := HB0.out.cell 4 _ rfl; have hb0_5 := HB0.out.cell 5 _ rfl; clear X9 B9 l9; clear t0; have t1 : (1 : Nat) = 1 := rfl))
  refine wp_region_held_drew (S := fun w' => Below w2.heap.size w2 w') (by kernel_rfl) (Below.refl _ _).drew (fun hS => ?_)
  obtain ⟨x1, hx0⟩ : ∃ x, x = w2.drew := ⟨_, rfl⟩
  rw [← hx0] at hS  ⊢
  clear hx0
  refine take_lawH 0 (some 23) (.pointer (some ⟨p, 0, none⟩)) rfl rfl (by kernel_rfl) (by kernel_rfl) (by kernel_rfl) (fun _ _ _ h => h) (Or.inl ⟨by rfl, fun w' hw' => by rfl⟩) hS ?_
  simp only [Act.put, List.setIfInBounds_toArray, List.set_cons_zero, List.set_cons_succ]
  refine take_lawH 1 (some 24) (.pointer (some ⟨p, 0, none⟩)) rfl rfl (by kernel_rfl) (by kernel_rfl) (by kernel_rfl) (fun _ _ _ h => h) (Or.inl ⟨by rfl, fun w' hw' => by go_simp⟩) hS ?_
  simp only [Act.put, List.setIfInBounds_toArray, List.set_cons_zero, List.set_cons_succ]
  refine take_lawH 2 (some 25) (.pointer (some ⟨p, 0, none⟩)) rfl rfl (by kernel_rfl) (by kernel_rfl) (by kernel_rfl) (fun _ _ _ h => h) (Or.inl ⟨by rfl, fun w' hw' => by go_simp⟩) hS ?_
  simp only [Act.put, List.setIfInBounds_toArray, List.set_cons_zero, List.set_cons_succ]
  refine take_lawH 3 (some 26) (.pointer (some ⟨cc, 0, none⟩)) rfl rfl (by kernel_rfl) (by kernel_rfl) (by kernel_rfl) (fun _ _ _ h => h) (Or.inl ⟨by rfl, fun w' hw' => by exact exec_loadN 46 (.tmp 25) rfl _ rfl _ _ (ld_cptr (K0.out w' (BB.out.trans (hw'.mono BB.out.size))))⟩) hS ?_
  simp only [Act.put, List.setIfInBounds_toArray, List.set_cons_zero, List.set_cons_succ]
  refine take_lawH 4 (some 27) (.agg (he.hv k n c l e t).toArray) rfl rfl (by kernel_rfl) (by kernel_rfl) (by kernel_rfl) (fun _ _ _ h => h) (Or.inl ⟨by rfl, fun w' hw' => by exact exec_loadN 26 (.tmp 5) rfl _ rfl _ _ (load_cells rowy_head (HB0.out.below hw' (range_lt HB0.out.1 (Nat.succ_pos _))).1)⟩) hS ?_
  simp only [Act.put, List.setIfInBounds_toArray, List.set_cons_zero, List.set_cons_succ]
  refine take_lawH 6 (some 29) (.slice so ss.length sc) rfl rfl (by kernel_rfl) (by kernel_rfl) (by kernel_rfl) (fun _ _ _ h => h) (Or.inl ⟨by rfl, fun w' hw' => by rfl⟩) hS ?_
  simp only [Act.put, List.setIfInBounds_toArray, List.set_cons_zero, List.set_cons_succ]
  refine wpAnyH_ready (rs := [5]) (by kernel_rfl) (by simp) ?_
  refine AllReadyH.cons rfl (fun K hK => ?_) AllReadyH.nil
  refine step_callW _ (by rfl) (some 28) rfl 16 #[.tmp 27] #[26] rfl (fun q w' => by rfl) #[.agg (he.hv k n c l e t).toArray] (by simp only [List.map_toArray, List.map_cons, List.map_nil]; rfl) (fun u w' => Byt w' u TW ∧ Below x1.heap.size x1 w') ?_ ?_
  · exact (ST.out x1).mono fun e w' ⟨r, h1, h2, h3⟩ => ⟨r, h1, h2, h3⟩
  rintro tv9 x2 ⟨y1, hb⟩
  have YT : Hid (Byt x2 tv9 TW) := y1
  clear y1
  have hS : Below w2.heap.size w2 x2 := hS.trans (hb.mono hS.size)
  clear hb
  refine hK.out _ _ hS (fun _ => ?_)
  simp only [Act.put, List.setIfInBounds_toArray, List.set_cons_zero, List.set_cons_succ]
  clear hK K
  refine wpAnyH_ready (rs := [7]) (by kernel_rfl) (by simp) ?_
  refine AllReadyH.cons rfl (fun K hK => ?_) AllReadyH.nil
  refine step_callW _ (by rfl) (some 30) rfl 27 #[.tmp 26, .tmp 28, .tmp 29] #[46, 22, 22] rfl (fun q w' => by rfl) #[.pointer (some ⟨cc, 0, none⟩), tv9, .slice so ss.length sc] (by simp only [List.map_toArray, List.map_cons, List.map_nil]; rfl) (fun u w' => (∃ xo xc, u = .tuple #[.slice xo ss.length xc, .int .i64 0] ∧ Byt w' (.slice xo ss.length xc) EX) ∧ Below x2.heap.size x2 w') ?_ ?_
  · exact SX.out x2 tv9 (BB.out.trans (hS.mono BB.out.size)) YT.out
  rintro _ x3 ⟨⟨xo, xc, rfl, y1⟩, hb⟩
  have HX : Hid (Byt x3 (.slice xo ss.length xc) EX) := y1
  clear y1
  have hS : Below w2.heap.size w2 x3 := hS.trans (hb.mono hS.size)
  clear hb
  refine hK.out _ _ hS (fun _ => ?_)
  simp only [Act.put, List.setIfInBounds_toArray, List.set_cons_zero, List.set_cons_succ]
  clear hK K
  refine take_lawH 8 (some 22) (.tuple #[.slice xo ss.length xc, .int .i64 0]) rfl rfl (by kernel_rfl) (by kernel_rfl) (by kernel_rfl) (fun _ _ _ h => h) (Or.inl ⟨by rfl, fun w' hw' => by rfl⟩) hS ?_
  simp only [Act.put, List.setIfInBounds_toArray, List.set_cons_zero, List.set_cons_succ]
  refine take_lawH 9 (some 31) (.slice xo ss.length xc) rfl rfl (by kernel_rfl) (by kernel_rfl) (by kernel_rfl) (fun _ _ _ h => h) (Or.inl ⟨by rfl, fun w' hw' => by rfl⟩) hS ?_
  simp only [Act.put, List.setIfInBounds_toArray, List.set_cons_zero, List.set_cons_succ]
  refine take_lawH 10 (some 32) (.int .i64 0) rfl rfl (by kernel_rfl) (by kernel_rfl) (by kernel_rfl) (fun _ _ _ h => h) (Or.inl ⟨by rfl, fun w' hw' => by rfl⟩) hS ?_
  simp only [Act.put, List.setIfInBounds_toArray, List.set_cons_zero, List.set_cons_succ]
  refine take_lawH 11 (some 12) (.slice xo ss.length xc) rfl rfl (by kernel_rfl) (by kernel_rfl) (by kernel_rfl) (fun _ _ _ h => h) (Or.inl ⟨by rfl, fun w' hw' => by rfl⟩) hS ?_
  simp only [Act.put, List.setIfInBounds_toArray, List.set_cons_zero, List.set_cons_succ]
  refine take_lawH 12 (some 11) (.int .i64 0) rfl rfl (by kernel_rfl) (by kernel_rfl) (by kernel_rfl) (fun _ _ _ h => h) (Or.inl ⟨by rfl, fun w' hw' => by rfl⟩) hS ?_
  simp only [Act.put, List.setIfInBounds_toArray, List.set_cons_zero, List.set_cons_succ]
  refine wpAnyH_done (by kernel_rfl) ?_ _
  clear hb0_0 hb0_1 hb0_2 hb0_3 hb0_4 hb0_5
  have HE : Hid (Byt x3 (.slice eo 24 ec) HY) := HE.out.below hS
  have BB : Hid (Below w.heap.size w x3) := BB.out.trans (hS.mono BB.out.size)
  have c1 : x3.cell? ⟨p, 1, none⟩ = some (.pointer (some ⟨mm, 0, none⟩)) := K1.out x3 BB.out
  clear hS HB0
  have t20 : (0 : Nat) = 0 := rfl
  go_wp2_with (first
    | (have q20 := t20; go_at_call 28; refine (fits2_any x3 _ BL _ _ _ gs HY ss (HM.out.below BB.out) (HG.out.below BB.out) HE.out (HV.out.below BB.out) (by rw [HN.out]; omega) HZ.out).mono ?_; rintro e9 w9 ⟨rfl, B9⟩; rw [HF.out]; have HX : Hid (Byt w9 (.slice xo ss.length xc) EX) := HX.out.below B9; have BB : Hid (Below w.heap.size w w9) := BB.out.trans (B9.mono BB.out.size); clear B9; clear t20))
  go_ret2
  exact ⟨_, _, rfl, HX.out, BB.out⟩

set_option maxHeartbeats 8000000 in
theorem zopen_bad (k n c l e t : Int) (sv : Value) (ss : List Int) (w : World) (p : Nat) (ks : List Int) (hK : Kys w p ks) (hl : ks.length = 96) (hr : Rh k n c) (hH : Hb l e t) (hT : Tab w) (hs : Byt w sv ss) (tv : Value) (gs : List Int) (hg : Byt w tv gs) (ha : AllB ks) (N : Nat) (hsl : ss.length = 16 * N) (hN : 1 ≤ N) (hN' : N ≤ 256) (hf : ¬ gs = mc.tagB (mc.blk (kg ks)) ((he.hb k n c l e t) ++ ss)) :
    Calls Tryz.prog 14 #[.pointer (some ⟨p, 0, none⟩), .agg (he.hv k n c l e t).toArray, sv, tv] w fun x w' => x = .returned (.tuple #[.slice none 0 0, .int .i64 16]) ∧ Below w.heap.size w w' := by
  have HK : Hid (Kys w p ks) := hK
  obtain ⟨cc, mm, c0, c1, hC, hM⟩ := hK
  have K0 : Hid (∀ w', Below w.heap.size w w' → w'.cell? ⟨p, 0, none⟩ = some (.pointer (some ⟨cc, 0, none⟩))) := fun w' hb => by rw [hb.cell (World.block_lt_of_cell? w _ c0)]; exact c0
  have K1 : Hid (∀ w', Below w.heap.size w w' → w'.cell? ⟨p, 1, none⟩ = some (.pointer (some ⟨mm, 0, none⟩))) := fun w' hb => by rw [hb.cell (World.block_lt_of_cell? w _ c1)]; exact c1
  have HC : Hid (xt.Cip w cc (kd ks) (kt ks)) := hC
  have HM : Hid (mc.KeyV w (.pointer (some ⟨mm, 0, none⟩)) (mc.blk (kg ks))) := hM
  have HV : Hid (Byt w sv ss) := hs
  obtain ⟨so, sc, rfl⟩ : ∃ ao cap, sv = .slice ao ss.length cap := (by obtain ⟨ao, cap, e, _⟩ := hs; exact ⟨ao, cap, e⟩)
  have SX : Hid (∀ w0 tv, Below w.heap.size w w0 → Byt w0 tv (twk e t) → Calls Tryz.prog 27 #[.pointer (some ⟨cc, 0, none⟩), tv, .slice so ss.length sc] w0 fun x w' => ∃ u, x = .returned u ∧ (∃ xo xc, u = .tuple #[.slice xo ss.length xc, .int .i64 0] ∧ Byt w' (.slice xo ss.length xc) (xt.run (xt.xd (kd ks)) (nm16 (encr (kt ks) (twk e t))) ss N)) ∧ Below w0.heap.size w0 w') := fun w0 tv hb ht => (xt.xdec_any cc tv _ (kd ks) (kt ks) (twk e t) ss N w0 (HC.out.below hb) (kd_len hl) (kd_all ha) (kt_len hl) (kt_all ha) ht (twk_len e t) (HV.out.below hb) hsl hN hN').mono fun _ _ ⟨v', h1, h2, h3⟩ => by
    obtain ⟨xo, xc, rfl⟩ := byt_form h2 (n := ss.length) (dec_len _ hl ha HV.out.all hsl)
    exact ⟨_, h1, ⟨xo, xc, rfl, h2⟩, h3⟩
  have ST : Hid (∀ w0, Calls Tryz.prog 16 #[.agg (he.hv k n c l e t).toArray] w0 fun x w' => ∃ r, x = .returned r ∧ Byt w' r (twk e t) ∧ Below w0.heap.size w0 w') := fun w0 => ztweak_any k n c l e t w0 hH
  have SH : Hid (∀ w0, Below w.heap.size w w0 → Calls Tryz.prog 19 #[.pointer (some ⟨p, 0, none⟩), .agg (he.hv k n c l e t).toArray] w0 fun x w' => ∃ eo ec, x = .returned (.tuple #[.slice eo 24 ec, .int .i64 0]) ∧ Byt w' (.slice eo 24 ec) (he.hb k n c l e t) ∧ Below w0.heap.size w0 w') := fun w0 hb => zhead_yes k n c l e t w0 p ks (HK.out.below hb) hr hH (hT.below hb)
  have HN : Hid ((he.hb k n c l e t).length = 24) := hb_len _ _ _ _ _ _
  have HG : Hid (Byt w tv gs) := hg
  have HZ : Hid (ss.length ≤ 10000) := (by show ss.length ≤ 10000; omega)
  have HF : Hid (decide (gs = mc.tagB (mc.blk (kg ks)) ((he.hb k n c l e t) ++ ss)) = false) := decide_eq_false hf
  generalize (he.hb k n c l e t) = HY at SH HN HF
  generalize mc.blk (kg ks) = BL at HM HF
  generalize (xt.run (xt.xd (kd ks)) (nm16 (encr (kt ks) (twk e t))) ss N) = EX at SX ⊢
  generalize twk e t = TW at ST SX
  clear c0 c1 hC hM hr hH hT hs hl HK ha hsl hN hN' hg hf
  have t0 : (0 : Nat) = 0 := rfl
  go_enter Tryz.func14, Tryz.ntmps14
  go_wp2_with (first
    | (have q1 := t1; go_at_call 19; refine (SH.out w1 BB.out).mono ?_; rintro e9 w2 ⟨eo, ec, rfl, Y9, B9⟩; have HB0 : Hid (Vr w2 w.heap.size (he.hv k n c l e t)) := HB0.out.below B9 (range_lt HB0.out.1 (Nat.succ_pos _)); have HE : Hid (Byt w2 (.slice eo 24 ec) HY) := Y9; have BB : Hid (Below w.heap.size w w2) := BB.out.trans (B9.mono BB.out.size); clear hb0_0 hb0_1 hb0_2 hb0_3 hb0_4 hb0_5; have hb0_0 := HB0.out.cell 0 _ rfl; have hb0_1 := HB0.out.cell 1 _ rfl; have hb0_2 := HB0.out.cell 2 _ rfl; have hb0_3 := HB0.out.cell 3 _ rfl; have hb0_4 := HB0.out.cell 4 _ rfl; have hb0_5 := HB0.out.cell 5 _ rfl; clear B9 Y9; clear t1; have t2 : (1 : Nat) = 1 := rfl)
    | (have q0 := t0; refine box_lawC _ (he.hv k n c l e t) rfl ?_; intro w1 X9 B9 l9; have HB0 : Hid (Vr w1 w.heap.size (he.hv k n c l e t)) := X9; have BB : Hid (Below w.heap.size w w1) := B9; have hb0_0 := HB0.out.cell 0 _ rfl; have hb0_1 := HB0.out.cell 1 _ rfl; have hb0_2 := HB0.out.cell 2 _ rfl; have hb0_3 := HB0.out.cell 3 _ rfl; have hb0_4 := HB0.out.cell 4 _ rfl; have hb0_5 := HB0.out.cell 5 _ rfl; clear X9 B9 l9; clear t0; have t1 : (1 : Nat) = 1 := rfl))
  refine wp_region_held_drew (S := fun w' => Below w2.heap.size w2 w') (by kernel_rfl) (Below.refl _ _).drew (fun hS => ?_)
  obtain ⟨x1, hx0⟩ : ∃ x, x = w2.drew := ⟨_, rfl⟩
  rw [← hx0] at hS  ⊢
  clear hx0
  refine take_lawH 0 (some 23) (.pointer (some ⟨p, 0, none⟩)) rfl rfl (by kernel_rfl) (by kernel_rfl) (by kernel_rfl) (fun _ _ _ h => h) (Or.inl ⟨by rfl, fun w' hw' => by rfl⟩) hS ?_
  simp only [Act.put, List.setIfInBounds_toArray, List.set_cons_zero, List.set_cons_succ]
  refine take_lawH 1 (some 24) (.pointer (some ⟨p, 0, none⟩)) rfl rfl (by kernel_rfl) (by kernel_rfl) (by kernel_rfl) (fun _ _ _ h => h) (Or.inl ⟨by rfl, fun w' hw' => by go_simp⟩) hS ?_
  simp only [Act.put, List.setIfInBounds_toArray, List.set_cons_zero, List.set_cons_succ]
  refine take_lawH 2 (some 25) (.pointer (some ⟨p, 0, none⟩)) rfl rfl (by kernel_rfl) (by kernel_rfl) (by kernel_rfl) (fun _ _ _ h => h) (Or.inl ⟨by rfl, fun w' hw' => by go_simp⟩) hS ?_
  simp only [Act.put, List.setIfInBounds_toArray, List.set_cons_zero, List.set_cons_succ]
  refine take_lawH 3 (some 26) (.pointer (some ⟨cc, 0, none⟩)) rfl rfl (by kernel_rfl) (by kernel_rfl) (by kernel_rfl) (fun _ _ _ h => h) (Or.inl ⟨by rfl, fun w' hw' => by exact exec_loadN 46 (.tmp 25) rfl _ rfl _ _ (ld_cptr (K0.out w' (BB.out.trans (hw'.mono BB.out.size))))⟩) hS ?_
  simp only [Act.put, List.setIfInBounds_toArray, List.set_cons_zero, List.set_cons_succ]
  refine take_lawH 4 (some 27) (.agg (he.hv k n c l e t).toArray) rfl rfl (by kernel_rfl) (by kernel_rfl) (by kernel_rfl) (fun _ _ _ h => h) (Or.inl ⟨by rfl, fun w' hw' => by exact exec_loadN 26 (.tmp 5) rfl _ rfl _ _ (load_cells rowy_head (HB0.out.below hw' (range_lt HB0.out.1 (Nat.succ_pos _))).1)⟩) hS ?_
  simp only [Act.put, List.setIfInBounds_toArray, List.set_cons_zero, List.set_cons_succ]
  refine take_lawH 6 (some 29) (.slice so ss.length sc) rfl rfl (by kernel_rfl) (by kernel_rfl) (by kernel_rfl) (fun _ _ _ h => h) (Or.inl ⟨by rfl, fun w' hw' => by rfl⟩) hS ?_
  simp only [Act.put, List.setIfInBounds_toArray, List.set_cons_zero, List.set_cons_succ]
  refine wpAnyH_ready (rs := [5]) (by kernel_rfl) (by simp) ?_
  refine AllReadyH.cons rfl (fun K hK => ?_) AllReadyH.nil
  refine step_callW _ (by rfl) (some 28) rfl 16 #[.tmp 27] #[26] rfl (fun q w' => by rfl) #[.agg (he.hv k n c l e t).toArray] (by simp only [List.map_toArray, List.map_cons, List.map_nil]; rfl) (fun u w' => Byt w' u TW ∧ Below x1.heap.size x1 w') ?_ ?_
  · exact (ST.out x1).mono fun e w' ⟨r, h1, h2, h3⟩ => ⟨r, h1, h2, h3⟩
  rintro tv9 x2 ⟨y1, hb⟩
  have YT : Hid (Byt x2 tv9 TW) := y1
  clear y1
  have hS : Below w2.heap.size w2 x2 := hS.trans (hb.mono hS.size)
  clear hb
  refine hK.out _ _ hS (fun _ => ?_)
  simp only [Act.put, List.setIfInBounds_toArray, List.set_cons_zero, List.set_cons_succ]
  clear hK K
  refine wpAnyH_ready (rs := [7]) (by kernel_rfl) (by simp) ?_
  refine AllReadyH.cons rfl (fun K hK => ?_) AllReadyH.nil
  refine step_callW _ (by rfl) (some 30) rfl 27 #[.tmp 26, .tmp 28, .tmp 29] #[46, 22, 22] rfl (fun q w' => by rfl) #[.pointer (some ⟨cc, 0, none⟩), tv9, .slice so ss.length sc] (by simp only [List.map_toArray, List.map_cons, List.map_nil]; rfl) (fun u w' => (∃ xo xc, u = .tuple #[.slice xo ss.length xc, .int .i64 0] ∧ Byt w' (.slice xo ss.length xc) EX) ∧ Below x2.heap.size x2 w') ?_ ?_
  · exact SX.out x2 tv9 (BB.out.trans (hS.mono BB.out.size)) YT.out
  rintro _ x3 ⟨⟨xo, xc, rfl, y1⟩, hb⟩
  have HX : Hid (Byt x3 (.slice xo ss.length xc) EX) := y1
  clear y1
  have hS : Below w2.heap.size w2 x3 := hS.trans (hb.mono hS.size)
  clear hb
  refine hK.out _ _ hS (fun _ => ?_)
  simp only [Act.put, List.setIfInBounds_toArray, List.set_cons_zero, List.set_cons_succ]
  clear hK K
  refine take_lawH 8 (some 22) (.tuple #[.slice xo ss.length xc, .int .i64 0]) rfl rfl (by kernel_rfl) (by kernel_rfl) (by kernel_rfl) (fun _ _ _ h => h) (Or.inl ⟨by rfl, fun w' hw' => by rfl⟩) hS ?_
  simp only [Act.put, List.setIfInBounds_toArray, List.set_cons_zero, List.set_cons_succ]
  refine take_lawH 9 (some 31) (.slice xo ss.length xc) rfl rfl (by kernel_rfl) (by kernel_rfl) (by kernel_rfl) (fun _ _ _ h => h) (Or.inl ⟨by rfl, fun w' hw' => by rfl⟩) hS ?_
  simp only [Act.put, List.setIfInBounds_toArray, List.set_cons_zero, List.set_cons_succ]
  refine take_lawH 10 (some 32) (.int .i64 0) rfl rfl (by kernel_rfl) (by kernel_rfl) (by kernel_rfl) (fun _ _ _ h => h) (Or.inl ⟨by rfl, fun w' hw' => by rfl⟩) hS ?_
  simp only [Act.put, List.setIfInBounds_toArray, List.set_cons_zero, List.set_cons_succ]
  refine take_lawH 11 (some 12) (.slice xo ss.length xc) rfl rfl (by kernel_rfl) (by kernel_rfl) (by kernel_rfl) (fun _ _ _ h => h) (Or.inl ⟨by rfl, fun w' hw' => by rfl⟩) hS ?_
  simp only [Act.put, List.setIfInBounds_toArray, List.set_cons_zero, List.set_cons_succ]
  refine take_lawH 12 (some 11) (.int .i64 0) rfl rfl (by kernel_rfl) (by kernel_rfl) (by kernel_rfl) (fun _ _ _ h => h) (Or.inl ⟨by rfl, fun w' hw' => by rfl⟩) hS ?_
  simp only [Act.put, List.setIfInBounds_toArray, List.set_cons_zero, List.set_cons_succ]
  refine wpAnyH_done (by kernel_rfl) ?_ _
  clear hb0_0 hb0_1 hb0_2 hb0_3 hb0_4 hb0_5
  have HE : Hid (Byt x3 (.slice eo 24 ec) HY) := HE.out.below hS
  have BB : Hid (Below w.heap.size w x3) := BB.out.trans (hS.mono BB.out.size)
  have c1 : x3.cell? ⟨p, 1, none⟩ = some (.pointer (some ⟨mm, 0, none⟩)) := K1.out x3 BB.out
  clear hS HB0
  have t20 : (0 : Nat) = 0 := rfl
  go_wp2_with (first
    | (have q20 := t20; go_at_call 28; refine (fits2_any x3 _ BL _ _ _ gs HY ss (HM.out.below BB.out) (HG.out.below BB.out) HE.out (HV.out.below BB.out) (by rw [HN.out]; omega) HZ.out).mono ?_; rintro e9 w9 ⟨rfl, B9⟩; rw [HF.out]; have HX : Hid (Byt w9 (.slice xo ss.length xc) EX) := HX.out.below B9; have BB : Hid (Below w.heap.size w w9) := BB.out.trans (B9.mono BB.out.size); clear B9; clear t20))
  go_ret2
  exact ⟨rfl, BB.out⟩

set_option maxHeartbeats 8000000 in
theorem zopen_no (k n c l e t : Int) (sv : Value) (ss : List Int) (w : World) (p : Nat) (ks : List Int) (hK : Kys w p ks) (_hl : ks.length = 96) (hr : Rh k n c) (hH : Hb l e t) (hT : Tab w) (hs : Byt w sv ss) (tv : Value) (hx : ¬ (16 ≤ ss.length ∧ ss.length ≤ 4096 ∧ ss.length % 16 = 0)) :
    Calls Tryz.prog 14 #[.pointer (some ⟨p, 0, none⟩), .agg (he.hv k n c l e t).toArray, sv, tv] w fun x w' => x = .returned (.tuple #[.slice none 0 0, .int .i64 2]) ∧ Below w.heap.size w w' := by
  have HK : Hid (Kys w p ks) := hK
  obtain ⟨cc, mm, c0, c1, hC, hM⟩ := hK
  have K0 : Hid (∀ w', Below w.heap.size w w' → w'.cell? ⟨p, 0, none⟩ = some (.pointer (some ⟨cc, 0, none⟩))) := fun w' hb => by rw [hb.cell (World.block_lt_of_cell? w _ c0)]; exact c0
  have K1 : Hid (∀ w', Below w.heap.size w w' → w'.cell? ⟨p, 1, none⟩ = some (.pointer (some ⟨mm, 0, none⟩))) := fun w' hb => by rw [hb.cell (World.block_lt_of_cell? w _ c1)]; exact c1
  have HC : Hid (xt.Cip w cc (kd ks) (kt ks)) := hC
  have HM : Hid (mc.KeyV w (.pointer (some ⟨mm, 0, none⟩)) (mc.blk (kg ks))) := hM
  have HV : Hid (Byt w sv ss) := hs
  obtain ⟨so, sc, rfl⟩ : ∃ ao cap, sv = .slice ao ss.length cap := (by obtain ⟨ao, cap, e, _⟩ := hs; exact ⟨ao, cap, e⟩)
  have SX : Hid (∀ w0 tv, Below w.heap.size w w0 → Byt w0 tv (twk e t) → Calls Tryz.prog 27 #[.pointer (some ⟨cc, 0, none⟩), tv, .slice so ss.length sc] w0 fun x w' => ∃ u, x = .returned u ∧ u = .tuple #[.slice none 0 0, .int .i64 2] ∧ Below w0.heap.size w0 w') := fun w0 tv hb ht => (xt.xdec_no cc tv _ (kd ks) (kt ks) (twk e t) ss w0 (HC.out.below hb) ht (HV.out.below hb) fun q => hx q.2).mono fun _ _ ⟨h1, h2⟩ => ⟨_, h1, rfl, by rw [h2]; exact Below.refl _ _⟩
  have ST : Hid (∀ w0, Calls Tryz.prog 16 #[.agg (he.hv k n c l e t).toArray] w0 fun x w' => ∃ r, x = .returned r ∧ Byt w' r (twk e t) ∧ Below w0.heap.size w0 w') := fun w0 => ztweak_any k n c l e t w0 hH
  have SH : Hid (∀ w0, Below w.heap.size w w0 → Calls Tryz.prog 19 #[.pointer (some ⟨p, 0, none⟩), .agg (he.hv k n c l e t).toArray] w0 fun x w' => ∃ eo ec, x = .returned (.tuple #[.slice eo 24 ec, .int .i64 0]) ∧ Byt w' (.slice eo 24 ec) (he.hb k n c l e t) ∧ Below w0.heap.size w0 w') := fun w0 hb => zhead_yes k n c l e t w0 p ks (HK.out.below hb) hr hH (hT.below hb)
  have HN : Hid ((he.hb k n c l e t).length = 24) := hb_len _ _ _ _ _ _
  generalize (he.hb k n c l e t) = HY at SH HN ⊢
  generalize mc.blk (kg ks) = BL at HM ⊢
  generalize twk e t = TW at ST SX
  clear c0 c1 hC hM hr hH hT hs _hl HK hx
  have t0 : (0 : Nat) = 0 := rfl
  go_enter Tryz.func14, Tryz.ntmps14
  go_wp2_with (first
    | (have q1 := t1; go_at_call 19; refine (SH.out w1 BB.out).mono ?_; rintro e9 w2 ⟨eo, ec, rfl, Y9, B9⟩; have HB0 : Hid (Vr w2 w.heap.size (he.hv k n c l e t)) := HB0.out.below B9 (range_lt HB0.out.1 (Nat.succ_pos _)); have HE : Hid (Byt w2 (.slice eo 24 ec) HY) := Y9; have BB : Hid (Below w.heap.size w w2) := BB.out.trans (B9.mono BB.out.size); clear hb0_0 hb0_1 hb0_2 hb0_3 hb0_4 hb0_5; have hb0_0 := HB0.out.cell 0 _ rfl; have hb0_1 := HB0.out.cell 1 _ rfl; have hb0_2 := HB0.out.cell 2 _ rfl; have hb0_3 := HB0.out.cell 3 _ rfl; have hb0_4 := HB0.out.cell 4 _ rfl; have hb0_5 := HB0.out.cell 5 _ rfl; clear B9 Y9; clear t1; have t2 : (1 : Nat) = 1 := rfl)
    | (have q0 := t0; refine box_lawC _ (he.hv k n c l e t) rfl ?_; intro w1 X9 B9 l9; have HB0 : Hid (Vr w1 w.heap.size (he.hv k n c l e t)) := X9; have BB : Hid (Below w.heap.size w w1) := B9; have hb0_0 := HB0.out.cell 0 _ rfl; have hb0_1 := HB0.out.cell 1 _ rfl; have hb0_2 := HB0.out.cell 2 _ rfl; have hb0_3 := HB0.out.cell 3 _ rfl; have hb0_4 := HB0.out.cell 4 _ rfl; have hb0_5 := HB0.out.cell 5 _ rfl; clear X9 B9 l9; clear t0; have t1 : (1 : Nat) = 1 := rfl))
  refine wp_region_held_drew (S := fun w' => Below w2.heap.size w2 w') (by kernel_rfl) (Below.refl _ _).drew (fun hS => ?_)
  obtain ⟨x1, hx0⟩ : ∃ x, x = w2.drew := ⟨_, rfl⟩
  rw [← hx0] at hS  ⊢
  clear hx0
  refine take_lawH 0 (some 23) (.pointer (some ⟨p, 0, none⟩)) rfl rfl (by kernel_rfl) (by kernel_rfl) (by kernel_rfl) (fun _ _ _ h => h) (Or.inl ⟨by rfl, fun w' hw' => by rfl⟩) hS ?_
  simp only [Act.put, List.setIfInBounds_toArray, List.set_cons_zero, List.set_cons_succ]
  refine take_lawH 1 (some 24) (.pointer (some ⟨p, 0, none⟩)) rfl rfl (by kernel_rfl) (by kernel_rfl) (by kernel_rfl) (fun _ _ _ h => h) (Or.inl ⟨by rfl, fun w' hw' => by go_simp⟩) hS ?_
  simp only [Act.put, List.setIfInBounds_toArray, List.set_cons_zero, List.set_cons_succ]
  refine take_lawH 2 (some 25) (.pointer (some ⟨p, 0, none⟩)) rfl rfl (by kernel_rfl) (by kernel_rfl) (by kernel_rfl) (fun _ _ _ h => h) (Or.inl ⟨by rfl, fun w' hw' => by go_simp⟩) hS ?_
  simp only [Act.put, List.setIfInBounds_toArray, List.set_cons_zero, List.set_cons_succ]
  refine take_lawH 3 (some 26) (.pointer (some ⟨cc, 0, none⟩)) rfl rfl (by kernel_rfl) (by kernel_rfl) (by kernel_rfl) (fun _ _ _ h => h) (Or.inl ⟨by rfl, fun w' hw' => by exact exec_loadN 46 (.tmp 25) rfl _ rfl _ _ (ld_cptr (K0.out w' (BB.out.trans (hw'.mono BB.out.size))))⟩) hS ?_
  simp only [Act.put, List.setIfInBounds_toArray, List.set_cons_zero, List.set_cons_succ]
  refine take_lawH 4 (some 27) (.agg (he.hv k n c l e t).toArray) rfl rfl (by kernel_rfl) (by kernel_rfl) (by kernel_rfl) (fun _ _ _ h => h) (Or.inl ⟨by rfl, fun w' hw' => by exact exec_loadN 26 (.tmp 5) rfl _ rfl _ _ (load_cells rowy_head (HB0.out.below hw' (range_lt HB0.out.1 (Nat.succ_pos _))).1)⟩) hS ?_
  simp only [Act.put, List.setIfInBounds_toArray, List.set_cons_zero, List.set_cons_succ]
  refine take_lawH 6 (some 29) (.slice so ss.length sc) rfl rfl (by kernel_rfl) (by kernel_rfl) (by kernel_rfl) (fun _ _ _ h => h) (Or.inl ⟨by rfl, fun w' hw' => by rfl⟩) hS ?_
  simp only [Act.put, List.setIfInBounds_toArray, List.set_cons_zero, List.set_cons_succ]
  refine wpAnyH_ready (rs := [5]) (by kernel_rfl) (by simp) ?_
  refine AllReadyH.cons rfl (fun K hK => ?_) AllReadyH.nil
  refine step_callW _ (by rfl) (some 28) rfl 16 #[.tmp 27] #[26] rfl (fun q w' => by rfl) #[.agg (he.hv k n c l e t).toArray] (by simp only [List.map_toArray, List.map_cons, List.map_nil]; rfl) (fun u w' => Byt w' u TW ∧ Below x1.heap.size x1 w') ?_ ?_
  · exact (ST.out x1).mono fun e w' ⟨r, h1, h2, h3⟩ => ⟨r, h1, h2, h3⟩
  rintro tv9 x2 ⟨y1, hb⟩
  have YT : Hid (Byt x2 tv9 TW) := y1
  clear y1
  have hS : Below w2.heap.size w2 x2 := hS.trans (hb.mono hS.size)
  clear hb
  refine hK.out _ _ hS (fun _ => ?_)
  simp only [Act.put, List.setIfInBounds_toArray, List.set_cons_zero, List.set_cons_succ]
  clear hK K
  refine wpAnyH_ready (rs := [7]) (by kernel_rfl) (by simp) ?_
  refine AllReadyH.cons rfl (fun K hK => ?_) AllReadyH.nil
  refine step_callW _ (by rfl) (some 30) rfl 27 #[.tmp 26, .tmp 28, .tmp 29] #[46, 22, 22] rfl (fun q w' => by rfl) #[.pointer (some ⟨cc, 0, none⟩), tv9, .slice so ss.length sc] (by simp only [List.map_toArray, List.map_cons, List.map_nil]; rfl) (fun u w' => u = .tuple #[.slice none 0 0, .int .i64 2] ∧ Below x2.heap.size x2 w') ?_ ?_
  · exact SX.out x2 tv9 (BB.out.trans (hS.mono BB.out.size)) YT.out
  rintro _ x3 ⟨rfl, hb⟩
  have hS : Below w2.heap.size w2 x3 := hS.trans (hb.mono hS.size)
  clear hb
  refine hK.out _ _ hS (fun _ => ?_)
  simp only [Act.put, List.setIfInBounds_toArray, List.set_cons_zero, List.set_cons_succ]
  clear hK K
  refine take_lawH 8 (some 22) (.tuple #[.slice none 0 0, .int .i64 2]) rfl rfl (by kernel_rfl) (by kernel_rfl) (by kernel_rfl) (fun _ _ _ h => h) (Or.inl ⟨by rfl, fun w' hw' => by rfl⟩) hS ?_
  simp only [Act.put, List.setIfInBounds_toArray, List.set_cons_zero, List.set_cons_succ]
  refine take_lawH 9 (some 31) (.slice none 0 0) rfl rfl (by kernel_rfl) (by kernel_rfl) (by kernel_rfl) (fun _ _ _ h => h) (Or.inl ⟨by rfl, fun w' hw' => by rfl⟩) hS ?_
  simp only [Act.put, List.setIfInBounds_toArray, List.set_cons_zero, List.set_cons_succ]
  refine take_lawH 10 (some 32) (.int .i64 2) rfl rfl (by kernel_rfl) (by kernel_rfl) (by kernel_rfl) (fun _ _ _ h => h) (Or.inl ⟨by rfl, fun w' hw' => by rfl⟩) hS ?_
  simp only [Act.put, List.setIfInBounds_toArray, List.set_cons_zero, List.set_cons_succ]
  refine take_lawH 11 (some 12) (.slice none 0 0) rfl rfl (by kernel_rfl) (by kernel_rfl) (by kernel_rfl) (fun _ _ _ h => h) (Or.inl ⟨by rfl, fun w' hw' => by rfl⟩) hS ?_
  simp only [Act.put, List.setIfInBounds_toArray, List.set_cons_zero, List.set_cons_succ]
  refine take_lawH 12 (some 11) (.int .i64 2) rfl rfl (by kernel_rfl) (by kernel_rfl) (by kernel_rfl) (fun _ _ _ h => h) (Or.inl ⟨by rfl, fun w' hw' => by rfl⟩) hS ?_
  simp only [Act.put, List.setIfInBounds_toArray, List.set_cons_zero, List.set_cons_succ]
  refine wpAnyH_done (by kernel_rfl) ?_ _
  clear hb0_0 hb0_1 hb0_2 hb0_3 hb0_4 hb0_5
  have HE : Hid (Byt x3 (.slice eo 24 ec) HY) := HE.out.below hS
  have BB : Hid (Below w.heap.size w x3) := BB.out.trans (hS.mono BB.out.size)
  have c1 : x3.cell? ⟨p, 1, none⟩ = some (.pointer (some ⟨mm, 0, none⟩)) := K1.out x3 BB.out
  clear hS HB0
  go_wp2
  go_ret2
  exact ⟨rfl, BB.out⟩
end Go.Proofs.YtbkaecjkgjkheaaGreatDoor.se

/- That the statements' own question 'does the program answer at all?' is answered by yes. No claim of its own. -/
namespace Go.Proofs.YtbkaecjkgjkheaaGreatDoor.se
open Go.ChangeShapes Go.WideShapes Go.ChangeAt Go.RowKit Go.Proofs.YtbkaecjkgjkheaaGreatDoor.fa Go.Proofs.YtbkaecjkgjkheaaGreatDoor.he
set_option maxRecDepth 20000

set_option maxRecDepth 20000 in
set_option maxHeartbeats 4000000 in
theorem awake_any (w : World) (hT : Tab w) : Calls Tryz.prog 5 #[] w fun e w' => e = .returned (.bool true) ∧ Below w.heap.size w w' := by
  have SN : Hid (∀ w0 v, Byt w0 v (List.replicate 96 0) → Calls Tryz.prog 6 #[v] w0 fun x w' => ∃ p, x = .returned (.tuple #[.pointer (some ⟨p, 0, none⟩), .int .i64 0]) ∧ Kys w' p (List.replicate 96 0) ∧ Below w0.heap.size w0 w') := fun w0 v h => znew_yes v _ w0 h List.length_replicate
  have SS : Hid (∀ w0 p v, Below w.heap.size w w0 → Kys w0 p (List.replicate 96 0) → Byt w0 v (List.replicate 32 0) → Calls Tryz.prog 7 #[.pointer (some ⟨p, 0, none⟩), .agg (he.hv 1 0 0 0 0 0).toArray, v] w0 fun x w' => ∃ xo xc ao cap, x = .returned (.tuple #[.slice xo 32 xc, .slice ao 32 cap, .int .i64 0]) ∧ Below w0.heap.size w0 w') := fun w0 p v hb hk hv => by
    refine (zseal_yes 1 0 0 0 0 0 v _ w0 p _ hk List.length_replicate ⟨by omega, by omega, by omega, by omega, by omega, by omega⟩ ⟨by omega, by omega, by omega, by omega⟩ (hT.below hb) hv (allB_replicate 0 _ (by omega)) 2 List.length_replicate (by omega) (by omega)).mono ?_
    rintro _ _ ⟨xo, xc, ao, cap, h1, -, -, h4⟩
    rw [List.length_replicate] at h1
    exact ⟨xo, xc, ao, cap, h1, h4⟩
  have ST : Hid (∀ w0, Calls Tryz.prog 16 #[.agg (he.hv 0 0 0 0 0 7).toArray] w0 fun x w' => ∃ g cap, x = .returned (.slice (some ⟨g, 0, none⟩) 16 cap) ∧ w'.cell? ⟨g, 15, none⟩ = some (.int .u8 7) ∧ Below w0.heap.size w0 w') := fun w0 => by
    refine (ztweak_own 0 0 0 0 0 7 w0 ⟨by omega, by omega, by omega, by omega⟩).mono ?_
    rintro _ _ ⟨r, rfl, h1, h2⟩
    obtain ⟨g, cap, rfl, -, -, hc⟩ := own_cell h1 (twk_len _ _) (by omega)
    exact ⟨g, cap, rfl, hc 15 (by omega), h2⟩
  have AZ : Hid (∀ n : Nat, AllB (List.replicate n (0 : Int))) := fun n => allB_replicate 0 n (by omega)
  clear hT
  obtain ⟨Z, hZ⟩ : ∃ Z, List.replicate 96 (0 : Int) = Z := ⟨_, rfl⟩
  obtain ⟨Y, hY⟩ : ∃ Y, List.replicate 32 (0 : Int) = Y := ⟨_, rfl⟩
  have EZ : Hid (List.replicate 96 (0 : Int) = Z) := hZ
  have EY : Hid (List.replicate 32 (0 : Int) = Y) := hY
  rw [hZ] at SN SS
  rw [hY] at SS
  clear hZ hY
  have t0 : (0 : Nat) = 0 := rfl
  go_enter Tryz.func5, Tryz.ntmps5
  go_wp2_with (first
    | (have q5 := t5; go_at_call 16; refine (ST.out w4).mono ?_; rintro e9 w5 ⟨g5, cap5, rfl, c15, B5⟩; have BB : Hid (Below w.heap.size w w5) := BB.out.trans (B5.mono BB.out.size); clear B5 t5)
    | (have q4 := t4; go_at_call 7; refine (SS.out w3 p9 _ BB.out HK.out HS.out).mono ?_; rintro e9 w4 ⟨xo, xc, ao, cap, rfl, B4⟩; have BB : Hid (Below w.heap.size w w4) := BB.out.trans (B4.mono BB.out.size); clear B4 t4; have t5 : (1 : Nat) = 1 := rfl)
    | (have q3 := t3; refine make_law w2 rfl (.const (.int .i64 32)) (.const (.int .i64 32)) rfl w2.heap.size (Nat.le_refl _) 32 32 rfl rfl rfl (by omega) ?_; intro w3 o3 B3 l3; have y3 := o3.byt (AZ.out 32); rw [EY.out] at y3; have HS : Hid (Byt w3 (.slice (some ⟨w2.heap.size, 0, none⟩) 32 32) Y) := y3; have HK : Hid (Kys w3 p9 Z) := HK.out.below B3; have BB : Hid (Below w.heap.size w w3) := BB.out.trans (B3.mono BB.out.size); clear o3 y3 B3 l3 t3; have t4 : (1 : Nat) = 1 := rfl)
    | (have q2 := t2; refine build_law _ rfl 26 _ rfl (.agg (he.hv 1 0 0 0 0 0).toArray) (by kernel_rfl) ?_; clear t2; have t3 : (1 : Nat) = 1 := rfl)
    | (have q1 := t1; go_at_call 6; refine (SN.out w1 _ HB.out).mono ?_; rintro e9 w2 ⟨p9, rfl, k2, B2⟩; have HK : Hid (Kys w2 p9 Z) := k2; have BB : Hid (Below w.heap.size w w2) := BB.out.trans (B2.mono BB.out.size); clear k2 B2 t1 HB; have t2 : (1 : Nat) = 1 := rfl)
    | (have q0 := t0; refine make_law w rfl (.const (.int .i64 96)) (.const (.int .i64 96)) rfl w.heap.size (Nat.le_refl _) 96 96 rfl rfl rfl (by omega) ?_; intro w1 o1 B1 l1; have y1 := o1.byt (AZ.out 96); rw [EZ.out] at y1; have HB : Hid (Byt w1 (.slice (some ⟨w.heap.size, 0, none⟩) 96 96) Z) := y1; have BB : Hid (Below w.heap.size w w1) := B1; clear o1 y1 B1 l1 t0; have t1 : (1 : Nat) = 1 := rfl))
  go_ret
  exact ⟨rfl, BB.out⟩
end Go.Proofs.YtbkaecjkgjkheaaGreatDoor.se

