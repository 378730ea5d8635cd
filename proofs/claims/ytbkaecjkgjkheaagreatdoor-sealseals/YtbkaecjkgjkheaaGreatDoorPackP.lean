/- Texts put together (a claim holds few files). No claim of its own. -/
import Derived.Test.YtbkaecjkgjkheaaGreatDoorPackO
/- What seal's New, headBytes and Tweak answer. No claim of its own. -/
namespace Go.Proofs.YtbkaecjkgjkheaaGreatDoor.se
open Go.RowKit Go.Proofs.YtbkaecjkgjkheaaGreatDoor.fa Go.Proofs.YtbkaecjkgjkheaaGreatDoor.he
set_option maxRecDepth 20000

set_option maxHeartbeats 2000000 in
theorem znew_no (v : Value) (ks : List Int) (w : World) (h : Byt w v ks) (hl : ks.length ≠ 96) :
    Calls Tryz.prog 6 #[v] w fun x w' => x = .returned (.tuple #[.pointer none, .int .i64 2]) ∧ Below w.heap.size w w' := by
  have hlen := h.len
  obtain ⟨ao, cap, rfl, h1, h2, -⟩ := h
  have HN : ((ks.length : Int) != 96) = true := bne_iff_ne.2 (by omega)
  generalize ks.length = n at *
  clear hl hlen h1 h2
  go_enter Tryz.func6, Tryz.ntmps6
  go_wp2
  go_ret2
  exact ⟨rfl, Below.refl _ _⟩

set_option maxHeartbeats 4000000 in
theorem znew_yes (v : Value) (ks : List Int) (w : World) (h : Byt w v ks) (hl : ks.length = 96) :
    Calls Tryz.prog 6 #[v] w fun x w' => ∃ p, x = .returned (.tuple #[.pointer (some ⟨p, 0, none⟩), .int .i64 0]) ∧ Kys w' p ks ∧ Below w.heap.size w w' := by
  have ha := h.all
  have HV : Hid (Byt w v ks) := h
  have HL : Hid (ks.length = 96) := hl
  have SX : Hid (∀ w0 a b, Byt w0 a (kd ks) → Byt w0 b (kt ks) → Calls Tryz.prog 17 #[a, b] w0 fun e w' => ∃ c, e = .returned (.tuple #[.pointer (some ⟨c, 0, none⟩), .int .i64 0]) ∧ xt.Cip w' c (kd ks) (kt ks) ∧ w0.heap.size ≤ c ∧ Below w0.heap.size w0 w') := fun w0 a b h1 h2 => xt.xnew_any a b _ _ w0 h1 h2 (kd_len hl) (kt_len hl)
  have SM : Hid (∀ w0 a, Byt w0 a (kg ks) → Calls Tryz.prog 18 #[a] w0 fun e w' => ∃ c, e = .returned (.pointer (some ⟨c, 0, none⟩)) ∧ mc.KeyV w' (.pointer (some ⟨c, 0, none⟩)) (mc.blk (kg ks)) ∧ Below w0.heap.size w0 w') := fun w0 a h1 => (mc.mnew_any w0 a _ h1 (by rw [kg_len hl]; omega)).mono fun _ _ ⟨c, e1, _, e2, e3⟩ => ⟨c, e1, mc.blk_key e2 (kg_all ha), e3⟩
  clear h hl ha
  have t0 : (0 : Nat) = 0 := rfl
  go_enter Tryz.func6, Tryz.ntmps6
  go_wp2_with (first
    | (have q0 := t0; refine len_law _ rfl (.tmp 6) rfl v ks 96 rfl HV.out (by rw [HL.out]; rfl) ?_; clear t0))
  refine wp_region_held_drew (S := fun w' => Below w.heap.size w w') (by kernel_rfl) (Below.refl _ _).drew (fun hS => ?_)
  obtain ⟨x1, hx0⟩ : ∃ x, x = w.drew := ⟨_, rfl⟩
  rw [← hx0] at hS  ⊢
  clear hx0
  refine take_lawH 0 (some 10) (v) rfl rfl (by kernel_rfl) (by kernel_rfl) (by kernel_rfl) (fun _ _ _ h => h) (Or.inl ⟨by rfl, fun w' hw' => by rfl⟩) hS ?_
  simp only [Act.put, List.setIfInBounds_toArray, List.set_cons_zero, List.set_cons_succ]
  refine take_lawH 1 (some 11) (sl v 0 32) rfl rfl (by kernel_rfl) (by kernel_rfl) (by kernel_rfl) (fun _ _ _ h => h) (Or.inl ⟨by rfl, fun w' hw' => by exact exec_to (.tmp 10) (.const (.int .i64 32)) rfl _ ks _ HV.out 32 rfl rfl (by have := HL.out; omega) _⟩) hS ?_
  simp only [Act.put, List.setIfInBounds_toArray, List.set_cons_zero, List.set_cons_succ]
  refine take_lawH 2 (some 12) (v) rfl rfl (by kernel_rfl) (by kernel_rfl) (by kernel_rfl) (fun _ _ _ h => h) (Or.inl ⟨by rfl, fun w' hw' => by rfl⟩) hS ?_
  simp only [Act.put, List.setIfInBounds_toArray, List.set_cons_zero, List.set_cons_succ]
  refine take_lawH 3 (some 13) (sl v 32 64) rfl rfl (by kernel_rfl) (by kernel_rfl) (by kernel_rfl) (fun _ _ _ h => h) (Or.inl ⟨by rfl, fun w' hw' => by exact exec_part (.tmp 12) (.const (.int .i64 32)) (.const (.int .i64 64)) rfl _ ks _ HV.out 32 64 rfl rfl rfl (by omega) (by have := HL.out; omega) _⟩) hS ?_
  simp only [Act.put, List.setIfInBounds_toArray, List.set_cons_zero, List.set_cons_succ]
  refine wpAnyH_ready (rs := [4]) (by kernel_rfl) (by simp) ?_
  refine AllReadyH.cons rfl (fun K hK => ?_) AllReadyH.nil
  refine step_callW _ (by rfl) (some 14) rfl 17 #[.tmp 11, .tmp 13] #[22, 22] rfl (fun q w' => by rfl) #[sl v 0 32, sl v 32 64] (by simp only [List.map_toArray, List.map_cons, List.map_nil]; rfl) (fun u w' => (∃ c, u = .tuple #[.pointer (some ⟨c, 0, none⟩), .int .i64 0] ∧ xt.Cip w' c (kd ks) (kt ks)) ∧ Below x1.heap.size x1 w') ?_ ?_
  · exact (SX.out x1 _ _ (sl_to (HV.out.below hS) 32 (by have := HL.out; omega)) (sl_byt (HV.out.below hS) 32 64 (by omega) (by have := HL.out; omega))).mono fun e w' ⟨c, h1, h2, _, h3⟩ => ⟨_, h1, ⟨c, rfl, h2⟩, h3⟩
  rintro _ x2 ⟨⟨c1, rfl, y1⟩, hb⟩
  have HC : Hid (xt.Cip x2 c1 (kd ks) (kt ks)) := y1
  clear y1
  have hS : Below w.heap.size w x2 := hS.trans (hb.mono hS.size)
  clear hb
  refine hK.out _ _ hS (fun _ => ?_)
  simp only [Act.put, List.setIfInBounds_toArray, List.set_cons_zero, List.set_cons_succ]
  clear hK K
  refine take_lawH 5 (some 9) (.tuple #[.pointer (some ⟨c1, 0, none⟩), .int .i64 0]) rfl rfl (by kernel_rfl) (by kernel_rfl) (by kernel_rfl) (fun _ _ _ h => h) (Or.inl ⟨by rfl, fun w' hw' => by rfl⟩) hS ?_
  simp only [Act.put, List.setIfInBounds_toArray, List.set_cons_zero, List.set_cons_succ]
  refine take_lawH 6 (some 15) (.pointer (some ⟨c1, 0, none⟩)) rfl rfl (by kernel_rfl) (by kernel_rfl) (by kernel_rfl) (fun _ _ _ h => h) (Or.inl ⟨by rfl, fun w' hw' => by rfl⟩) hS ?_
  simp only [Act.put, List.setIfInBounds_toArray, List.set_cons_zero, List.set_cons_succ]
  refine take_lawH 7 (some 16) (.int .i64 0) rfl rfl (by kernel_rfl) (by kernel_rfl) (by kernel_rfl) (fun _ _ _ h => h) (Or.inl ⟨by rfl, fun w' hw' => by rfl⟩) hS ?_
  simp only [Act.put, List.setIfInBounds_toArray, List.set_cons_zero, List.set_cons_succ]
  refine take_lawH 8 (some 4) (.pointer (some ⟨c1, 0, none⟩)) rfl rfl (by kernel_rfl) (by kernel_rfl) (by kernel_rfl) (fun _ _ _ h => h) (Or.inl ⟨by rfl, fun w' hw' => by rfl⟩) hS ?_
  simp only [Act.put, List.setIfInBounds_toArray, List.set_cons_zero, List.set_cons_succ]
  refine take_lawH 9 (some 5) (.int .i64 0) rfl rfl (by kernel_rfl) (by kernel_rfl) (by kernel_rfl) (fun _ _ _ h => h) (Or.inl ⟨by rfl, fun w' hw' => by rfl⟩) hS ?_
  simp only [Act.put, List.setIfInBounds_toArray, List.set_cons_zero, List.set_cons_succ]
  refine wpAnyH_done (by kernel_rfl) ?_ _
  have t0 : (0 : Nat) = 0 := rfl
  have HS : Hid (Below w.heap.size w x2) := hS
  clear hS
  go_wp2_with (first
    | (have q1 := t1; go_at_call 18; refine (SM.out _ _ HG.out).mono ?_; rintro e9 w9 ⟨mk, rfl, y9, B9⟩; have HM : Hid (mc.KeyV w9 (.pointer (some ⟨mk, 0, none⟩)) (mc.blk (kg ks))) := y9; have HC : Hid (xt.Cip w9 c1 (kd ks) (kt ks)) := HC.out.below B9; have HS : Hid (Below w.heap.size w w9) := HS.out.trans (B9.mono HS.out.size); clear y9 B9 t1)
    | (have q0 := t0; refine cut_from _ rfl (.tmp 21) (.const (.int .i64 64)) rfl v ks 64 64 rfl rfl rfl (by have := HL.out; omega) (HV.out.below HS.out) ?_; intro v3 y3; have HG : Hid (Byt x2 v3 (kg ks)) := y3; clear y3 t0; have t1 : (1 : Nat) = 1 := rfl))
  go_ret2
  exact ⟨_, rfl, kys_new HC.out HM.out, HS.out.alloc HS.out.size _⟩

set_option maxHeartbeats 2000000 in
theorem zhead_nil (k n c l e t : Int) (w : World)  :
    Calls Tryz.prog 19 #[.pointer none, .agg (he.hv k n c l e t).toArray] w fun x w' => x = .returned (.tuple #[.slice none 0 0, .int .i64 2]) ∧ Below w.heap.size w w' := by
  have t0 : (0 : Nat) = 0 := rfl
  go_enter Tryz.func19, Tryz.ntmps19
  go_wp2_with (first
    | (have q0 := t0; refine box_lawC _ (he.hv k n c l e t) rfl ?_; intro w1 X9 B9 l9; have HB0 : Hid (Vr w1 w.heap.size (he.hv k n c l e t)) := X9; have BB : Hid (Below w.heap.size w w1) := B9; have hb0_0 := HB0.out.cell 0 _ rfl; have hb0_1 := HB0.out.cell 1 _ rfl; have hb0_2 := HB0.out.cell 2 _ rfl; have hb0_3 := HB0.out.cell 3 _ rfl; have hb0_4 := HB0.out.cell 4 _ rfl; have hb0_5 := HB0.out.cell 5 _ rfl; clear X9 B9 l9; clear t0; have t1 : (1 : Nat) = 1 := rfl))
  go_ret2
  exact ⟨rfl, BB.out⟩

set_option maxHeartbeats 2000000 in
theorem zhead_raw (k n c l e t : Int) (w : World) (p : Nat) (hc : w.cell? ⟨p, 0, none⟩ = some (.pointer none)) :
    Calls Tryz.prog 19 #[.pointer (some ⟨p, 0, none⟩), .agg (he.hv k n c l e t).toArray] w fun x w' => x = .returned (.tuple #[.slice none 0 0, .int .i64 2]) ∧ Below w.heap.size w w' := by
  have KC : Hid (∀ w', Below w.heap.size w w' → w'.cell? ⟨p, 0, none⟩ = some (.pointer none)) := fun w' hb => by rw [hb.cell (World.block_lt_of_cell? w _ hc)]; exact hc
  clear hc
  have t0 : (0 : Nat) = 0 := rfl
  go_enter Tryz.func19, Tryz.ntmps19
  go_wp2_with (first
    | (have q0 := t0; refine box_lawC _ (he.hv k n c l e t) rfl ?_; intro w1 X9 B9 l9; have HB0 : Hid (Vr w1 w.heap.size (he.hv k n c l e t)) := X9; have BB : Hid (Below w.heap.size w w1) := B9; have hb0_0 := HB0.out.cell 0 _ rfl; have hb0_1 := HB0.out.cell 1 _ rfl; have hb0_2 := HB0.out.cell 2 _ rfl; have hb0_3 := HB0.out.cell 3 _ rfl; have hb0_4 := HB0.out.cell 4 _ rfl; have hb0_5 := HB0.out.cell 5 _ rfl; have c0 : w1.cell? ⟨p, 0, none⟩ = some (.pointer none) := KC.out w1 BB.out; clear X9 B9 l9; clear t0; have t1 : (1 : Nat) = 1 := rfl))
  go_ret2
  exact ⟨rfl, BB.out⟩

set_option maxHeartbeats 2000000 in
theorem zhead_no (k n c l e t : Int) (w : World) (p : Nat) (ks : List Int) (hK : Kys w p ks) (hr : ¬ Rh k n c) :
    Calls Tryz.prog 19 #[.pointer (some ⟨p, 0, none⟩), .agg (he.hv k n c l e t).toArray] w fun x w' => x = .returned (.tuple #[.slice none 0 0, .int .i64 2]) ∧ Below w.heap.size w w' := by
  obtain ⟨cc, mm, c0, c1, _, _⟩ := hK
  have KC : Hid (∀ w', Below w.heap.size w w' → w'.cell? ⟨p, 0, none⟩ = some (.pointer (some ⟨cc, 0, none⟩))) := fun w' hb => by rw [hb.cell (World.block_lt_of_cell? w _ c0)]; exact c0
  have SH : Hid (∀ w0, Below w.heap.size w w0 → Calls Tryz.prog 34 #[.agg (he.hv k n c l e t).toArray] w0 fun x w' => x = .returned (.tuple #[.slice none 0 0, .int .i64 2]) ∧ Below w0.heap.size w0 w') := fun w0 _ => hbytes_no k n c l e t w0 hr
  clear c0 c1 hr
  have t0 : (0 : Nat) = 0 := rfl
  go_enter Tryz.func19, Tryz.ntmps19
  go_wp2_with (first
    | (have q1 := t1; go_at_call 34; refine (SH.out w1 BB.out).mono ?_; rintro e9 w2 ⟨rfl, B9⟩; have HB0 : Hid (Vr w2 w.heap.size (he.hv k n c l e t)) := HB0.out.below B9 (range_lt HB0.out.1 (Nat.succ_pos _)); have BB : Hid (Below w.heap.size w w2) := BB.out.trans (B9.mono BB.out.size); clear hb0_0 hb0_1 hb0_2 hb0_3 hb0_4 hb0_5 c0; have hb0_0 := HB0.out.cell 0 _ rfl; have hb0_1 := HB0.out.cell 1 _ rfl; have hb0_2 := HB0.out.cell 2 _ rfl; have hb0_3 := HB0.out.cell 3 _ rfl; have hb0_4 := HB0.out.cell 4 _ rfl; have hb0_5 := HB0.out.cell 5 _ rfl; have c0 : w2.cell? ⟨p, 0, none⟩ = some (.pointer (some ⟨cc, 0, none⟩)) := KC.out w2 BB.out; clear B9; clear t1; have t2 : (1 : Nat) = 1 := rfl)
    | (have q0 := t0; refine box_lawC _ (he.hv k n c l e t) rfl ?_; intro w1 X9 B9 l9; have HB0 : Hid (Vr w1 w.heap.size (he.hv k n c l e t)) := X9; have BB : Hid (Below w.heap.size w w1) := B9; have hb0_0 := HB0.out.cell 0 _ rfl; have hb0_1 := HB0.out.cell 1 _ rfl; have hb0_2 := HB0.out.cell 2 _ rfl; have hb0_3 := HB0.out.cell 3 _ rfl; have hb0_4 := HB0.out.cell 4 _ rfl; have hb0_5 := HB0.out.cell 5 _ rfl; have c0 : w1.cell? ⟨p, 0, none⟩ = some (.pointer (some ⟨cc, 0, none⟩)) := KC.out w1 BB.out; clear X9 B9 l9; clear t0; have t1 : (1 : Nat) = 1 := rfl))
  go_ret2
  exact ⟨rfl, BB.out⟩

set_option maxHeartbeats 2000000 in
theorem zhead_yes (k n c l e t : Int) (w : World) (p : Nat) (ks : List Int) (hK : Kys w p ks) (hr : Rh k n c) (hH : Hb l e t) (hT : Tab w) :
    Calls Tryz.prog 19 #[.pointer (some ⟨p, 0, none⟩), .agg (he.hv k n c l e t).toArray] w fun x w' => ∃ eo ec, x = .returned (.tuple #[.slice eo 24 ec, .int .i64 0]) ∧ Byt w' (.slice eo 24 ec) (he.hb k n c l e t) ∧ Below w.heap.size w w' := by
  obtain ⟨cc, mm, c0, c1, _, _⟩ := hK
  have KC : Hid (∀ w', Below w.heap.size w w' → w'.cell? ⟨p, 0, none⟩ = some (.pointer (some ⟨cc, 0, none⟩))) := fun w' hb => by rw [hb.cell (World.block_lt_of_cell? w _ c0)]; exact c0
  have SH : Hid (∀ w0, Below w.heap.size w w0 → Calls Tryz.prog 34 #[.agg (he.hv k n c l e t).toArray] w0 fun x w' => ∃ v, x = .returned (.tuple #[v, .int .i64 0]) ∧ Own w0.heap.size w' v (he.hb k n c l e t) ∧ Below w0.heap.size w0 w') := fun w0 hb => hbytes_yes k n c l e t w0 hr hH.1 hH.2.1 hH.2.2 (hT.below hb)
  have HA : Hid (AllB (he.hb k n c l e t)) := hb_all hr l e t
  have HN : Hid ((he.hb k n c l e t).length = 24) := hb_len _ _ _ _ _ _
  generalize (he.hb k n c l e t) = Z at SH HA HN ⊢
  clear c0 c1 hr hH hT
  have t0 : (0 : Nat) = 0 := rfl
  go_enter Tryz.func19, Tryz.ntmps19
  go_wp2_with (first
    | (have q1 := t1; go_at_call 34; refine (SH.out w1 BB.out).mono ?_; rintro e9 w2 ⟨v9, rfl, O9, B9⟩; have HB0 : Hid (Vr w2 w.heap.size (he.hv k n c l e t)) := HB0.out.below B9 (range_lt HB0.out.1 (Nat.succ_pos _)); have HO : Hid (Byt w2 v9 Z) := O9.byt HA.out; have BB : Hid (Below w.heap.size w w2) := BB.out.trans (B9.mono BB.out.size); clear hb0_0 hb0_1 hb0_2 hb0_3 hb0_4 hb0_5 c0; have hb0_0 := HB0.out.cell 0 _ rfl; have hb0_1 := HB0.out.cell 1 _ rfl; have hb0_2 := HB0.out.cell 2 _ rfl; have hb0_3 := HB0.out.cell 3 _ rfl; have hb0_4 := HB0.out.cell 4 _ rfl; have hb0_5 := HB0.out.cell 5 _ rfl; have c0 : w2.cell? ⟨p, 0, none⟩ = some (.pointer (some ⟨cc, 0, none⟩)) := KC.out w2 BB.out; clear B9 O9; clear t1; have t2 : (1 : Nat) = 1 := rfl)
    | (have q0 := t0; refine box_lawC _ (he.hv k n c l e t) rfl ?_; intro w1 X9 B9 l9; have HB0 : Hid (Vr w1 w.heap.size (he.hv k n c l e t)) := X9; have BB : Hid (Below w.heap.size w w1) := B9; have hb0_0 := HB0.out.cell 0 _ rfl; have hb0_1 := HB0.out.cell 1 _ rfl; have hb0_2 := HB0.out.cell 2 _ rfl; have hb0_3 := HB0.out.cell 3 _ rfl; have hb0_4 := HB0.out.cell 4 _ rfl; have hb0_5 := HB0.out.cell 5 _ rfl; have c0 : w1.cell? ⟨p, 0, none⟩ = some (.pointer (some ⟨cc, 0, none⟩)) := KC.out w1 BB.out; clear X9 B9 l9; clear t0; have t1 : (1 : Nat) = 1 := rfl))
  go_ret2
  obtain ⟨eo, ec, rfl⟩ := byt_form HO.out HN.out
  exact ⟨_, _, rfl, HO.out, BB.out⟩

set_option maxHeartbeats 4000000 in
theorem ztweak_own (k n c l e t : Int) (w : World) (hH : Hb l e t) :
    Calls Tryz.prog 16 #[.agg (he.hv k n c l e t).toArray] w fun x w' => ∃ r, x = .returned r ∧ Own w.heap.size w' r (twk e t) ∧ Below w.heap.size w w' := by
  have HE : Hid (0 ≤ e ∧ e ≤ 18446744073709551615) := hH.2.1
  have HQ : Hid (0 ≤ t ∧ t ≤ 18446744073709551615) := hH.2.2
  have SB : Hid (∀ x : Int, 0 ≤ x ∧ x ≤ 18446744073709551615 → ∀ w0, Calls Tryz.prog 31 #[.int .u64 x, .int .i64 8] w0 fun e w' => ∃ ao cap, e = .returned (.slice ao 8 cap) ∧ Byt w' (.slice ao 8 cap) (le x 8).reverse ∧ Below w0.heap.size w0 w') := fun x hx w0 => (big_any x 8 w0 hx).mono fun _ _ ⟨v, h1, h2, h3⟩ => by
    rw [clamp48.2.1] at h2
    obtain ⟨ao, cap, rfl⟩ := byt_form h2 (n := 8) (by simp [le_len])
    exact ⟨ao, cap, h1, h2, h3⟩
  clear hH
  have t0 : (0 : Nat) = 0 := rfl
  go_enter Tryz.func16, Tryz.ntmps16
  go_wp2_with (first
    | (have q0 := t0; refine box_lawC _ (he.hv k n c l e t) rfl ?_; intro w1 X9 B9 l9; have HB0 : Hid (Vr w1 w.heap.size (he.hv k n c l e t)) := X9; have BB : Hid (Below w.heap.size w w1) := B9; have hb0_0 := HB0.out.cell 0 _ rfl; have hb0_1 := HB0.out.cell 1 _ rfl; have hb0_2 := HB0.out.cell 2 _ rfl; have hb0_3 := HB0.out.cell 3 _ rfl; have hb0_4 := HB0.out.cell 4 _ rfl; have hb0_5 := HB0.out.cell 5 _ rfl; clear X9 B9 l9; clear t0; have t1 : (1 : Nat) = 1 := rfl))
  clear hb0_0 hb0_1 hb0_2 hb0_3 hb0_4 hb0_5
  refine wp_region_held_drew (S := fun w' => Below w1.heap.size w1 w') (by kernel_rfl) (Below.refl _ _).drew (fun hS => ?_)
  obtain ⟨x1, hx0⟩ : ∃ x, x = w1.drew := ⟨_, rfl⟩
  rw [← hx0] at hS  ⊢
  clear hx0
  refine take_lawH 0 (some 3) (.pointer (some ⟨w.heap.size, 4, none⟩)) rfl rfl (by kernel_rfl) (by kernel_rfl) (by kernel_rfl) (fun _ _ _ h => h) (Or.inl ⟨by rfl, fun w' hw' => by go_simp⟩) hS ?_
  simp only [Act.put, List.setIfInBounds_toArray, List.set_cons_zero, List.set_cons_succ]
  refine take_lawH 1 (some 4) (.int .u64 e) rfl rfl (by kernel_rfl) (by kernel_rfl) (by kernel_rfl) (fun _ _ _ h => h) (Or.inl ⟨by rfl, fun w' hw' => by exact exec_loadN 24 (.tmp 3) rfl _ rfl _ _ (ld_u64 ((HB0.out.below hw' (range_lt HB0.out.1 (Nat.succ_pos _))).cell 4 _ rfl))⟩) hS ?_
  simp only [Act.put, List.setIfInBounds_toArray, List.set_cons_zero, List.set_cons_succ]
  refine take_lawH 3 (some 6) (.pointer (some ⟨w.heap.size, 5, none⟩)) rfl rfl (by kernel_rfl) (by kernel_rfl) (by kernel_rfl) (fun _ _ _ h => h) (Or.inl ⟨by rfl, fun w' hw' => by go_simp⟩) hS ?_
  simp only [Act.put, List.setIfInBounds_toArray, List.set_cons_zero, List.set_cons_succ]
  refine take_lawH 4 (some 7) (.int .u64 t) rfl rfl (by kernel_rfl) (by kernel_rfl) (by kernel_rfl) (fun _ _ _ h => h) (Or.inl ⟨by rfl, fun w' hw' => by exact exec_loadN 24 (.tmp 6) rfl _ rfl _ _ (ld_u64 ((HB0.out.below hw' (range_lt HB0.out.1 (Nat.succ_pos _))).cell 5 _ rfl))⟩) hS ?_
  simp only [Act.put, List.setIfInBounds_toArray, List.set_cons_zero, List.set_cons_succ]
  refine wpAnyH_ready (rs := [2]) (by kernel_rfl) (by simp) ?_
  refine AllReadyH.cons rfl (fun K hK => ?_) AllReadyH.nil
  refine step_callW _ (by rfl) (some 5) rfl 31 #[.tmp 4, .const (.int .i64 8)] #[24, 3] rfl (fun q w' => by rfl) #[.int .u64 e, .int .i64 8] (by simp only [List.map_toArray, List.map_cons, List.map_nil]; rfl) (fun u w' => (∃ ao cap, u = .slice ao 8 cap ∧ Byt w' u (le e 8).reverse) ∧ Below x1.heap.size x1 w') ?_ ?_
  · exact (SB.out e HE.out x1).mono fun e w' ⟨ao, cap, h1, h2, h3⟩ => ⟨_, h1, ⟨ao, cap, rfl, h2⟩, h3⟩
  rintro _ x2 ⟨⟨ao, ac, rfl, y1⟩, hb⟩
  have Ya : Hid (Byt x2 (.slice ao 8 ac) (le e 8).reverse) := y1
  clear y1
  have hS : Below w1.heap.size w1 x2 := hS.trans (hb.mono hS.size)
  clear hb
  refine hK.out _ _ hS (fun _ => ?_)
  simp only [Act.put, List.setIfInBounds_toArray, List.set_cons_zero, List.set_cons_succ]
  clear hK K
  refine wpAnyH_ready (rs := [5]) (by kernel_rfl) (by simp) ?_
  refine AllReadyH.cons rfl (fun K hK => ?_) AllReadyH.nil
  refine step_callW _ (by rfl) (some 8) rfl 31 #[.tmp 7, .const (.int .i64 8)] #[24, 3] rfl (fun q w' => by rfl) #[.int .u64 t, .int .i64 8] (by simp only [List.map_toArray, List.map_cons, List.map_nil]; rfl) (fun u w' => (∃ ao cap, u = .slice ao 8 cap ∧ Byt w' u (le t 8).reverse) ∧ Below x2.heap.size x2 w') ?_ ?_
  · exact (SB.out t HQ.out x2).mono fun e w' ⟨ao, cap, h1, h2, h3⟩ => ⟨_, h1, ⟨ao, cap, rfl, h2⟩, h3⟩
  rintro _ x3 ⟨⟨bo, bc, rfl, y1⟩, hb⟩
  have Yb : Hid (Byt x3 (.slice bo 8 bc) (le t 8).reverse) := y1
  have Ya : Hid (Byt x3 (.slice ao 8 ac) (le e 8).reverse) := Ya.out.below hb
  clear y1
  have hS : Below w1.heap.size w1 x3 := hS.trans (hb.mono hS.size)
  clear hb
  refine hK.out _ _ hS (fun _ => ?_)
  simp only [Act.put, List.setIfInBounds_toArray, List.set_cons_zero, List.set_cons_succ]
  clear hK K
  refine wpAnyH_ready (rs := [6]) (by kernel_rfl) (by simp) ?_
  refine AllReadyH.cons rfl (fun K hK => ?_) AllReadyH.nil
  refine step_two _ rfl (some 9) rfl (.tmp 5) (.tmp 8) rfl ao 8 ac bo 8 bc rfl rfl ?_
  have SC := hdH (cat2_any x3 (.slice ao 8 ac) (.slice bo 8 bc) _ _ Ya.out Yb.out (by simp [le_len]) (by simp [le_len]) (by simp [le_len]))
  obtain ⟨g, hg⟩ : ∃ g, g = x3.heap.size := ⟨_, rfl⟩
  have HB2 : Hid (Below w1.heap.size w1 x3) := hS
  have hS : Below w1.heap.size w1 (x3.alloc (.cells #[.slice ao 8 ac, .slice bo 8 bc] 22)) := hS.alloc hS.size _
  obtain ⟨x4, hx9⟩ : ∃ x, x = x3.alloc (.cells #[.slice ao 8 ac, .slice bo 8 bc] 22) := ⟨_, rfl⟩
  rw [← hx9] at hS SC ⊢
  clear hx9 hg
  refine hK.out _ _ hS (fun _ => ?_)
  simp only [Act.put, List.setIfInBounds_toArray, List.set_cons_zero, List.set_cons_succ]
  clear hK K
  refine wpAnyH_ready (rs := [7]) (by kernel_rfl) (by simp) ?_
  refine AllReadyH.cons rfl (fun K hK => ?_) AllReadyH.nil
  refine step_callW _ (by rfl) (some 10) rfl 30 #[.tmp 9] #[72] rfl (fun q w' => by rfl) #[.slice (some ⟨x3.heap.size, 0, none⟩) 2 2] (by simp only [List.map_toArray, List.map_cons, List.map_nil]; rfl) (fun u w' => Own x3.heap.size w' u (twk e t) ∧ Below x3.heap.size x3 w') ?_ ?_
  · exact SC.out
  rintro r1 x5 ⟨y1, hb⟩
  have HR : Hid (Own x3.heap.size x5 r1 (twk e t)) := y1
  have LB : Hid (w1.heap.size ≤ x3.heap.size) := HB2.out.size
  have hS : Below w1.heap.size w1 x5 := HB2.out.trans (hb.mono HB2.out.size)
  clear hb y1
  refine hK.out _ _ hS (fun _ => ?_)
  simp only [Act.put, List.setIfInBounds_toArray, List.set_cons_zero, List.set_cons_succ]
  clear hK K
  refine take_lawH 8 (some 2) (r1) rfl rfl (by kernel_rfl) (by kernel_rfl) (by kernel_rfl) (fun _ _ _ h => h) (Or.inl ⟨by rfl, fun w' hw' => by rfl⟩) hS ?_
  simp only [Act.put, List.setIfInBounds_toArray, List.set_cons_zero, List.set_cons_succ]
  refine wpAnyH_done (by kernel_rfl) ?_ _
  have BZ : Hid (Below w.heap.size w _) := BB.out.trans (hS.mono BB.out.size)
  clear hS
  go_wp2
  go_ret
  exact ⟨_, rfl, own_less HR.out (Nat.le_trans BB.out.size LB.out), BZ.out⟩
theorem ztweak_any (k n c l e t : Int) (w : World) (hH : Hb l e t) :
    Calls Tryz.prog 16 #[.agg (he.hv k n c l e t).toArray] w fun x w' => ∃ r, x = .returned r ∧ Byt w' r (twk e t) ∧ Below w.heap.size w w' :=
  (ztweak_own k n c l e t w hH).mono fun _ _ ⟨r, h1, h2, h3⟩ => ⟨r, h1, h2.byt (twk_all _ _), h3⟩
end Go.Proofs.YtbkaecjkgjkheaaGreatDoor.se

