/- What the reference's Read and Done answer, and law15's same. No claim of its own. -/
import Derived.Test.YtahfcpdekjdceaaDoorPackK
import Derived.Test.YtahfcpdekjdceaaDoorPackJ
namespace Go.Proofs.YtahfcpdekjdceaaDoor.pa
open Go.RowKit Go.Proofs.YtahfcpdekjdceaaDoor.fa Go.Proofs.YtahfcpdekjdceaaDoor.he
set_option maxRecDepth 20000

set_option maxHeartbeats 4000000 in
theorem rpread_no (g0 g1 g3 g4 g5 : Int) (S : Nat) (v : Value) (xs : List Int) (w : World) (hb : Byt w v xs) (hl : xs.length = S + 88) (h : ¬ Tl (xs.drop S)) :
    Calls Tryd.prog 32 #[.agg (ints .i64 [g0, g1, (S : Int), g3, g4, g5]), v] w fun x w' => x = .returned (.agg Z10.toArray) ∧ Below w.heap.size w w' := by
  have HL : Hid (xs.length = S + 88) := hl
  have HB : Hid (Byt w v xs) := hb
  have SH : Hid (∀ w0 u, Byt w0 u (xs.drop S) → Calls Tryd.prog 46 #[u] w0 fun x w' => x = .returned (.tuple #[.agg (hv 0 0 0 0 0 0).toArray, .bool false]) ∧ Below w0.heap.size w0 w') := fun w0 u hu => rread_no u _ w0 hu (by simp; omega) h
  generalize hE : xs.drop S = E at SH
  have HEE : Hid (xs.drop S = E) := hE
  clear h hl hb hE
  have t0 : (0 : Nat) = 0 := rfl
  go_enter Tryd.func32, Tryd.ntmps32
  go_wp2_with (first
    | (have q7 := t7; (with_reducible refine at_store ?_); refine store_lawC _ Z10 w1.heap.size 0 rfl rfl HV4.out.2 rowy_rpage.2 (pg10_one _ _ _ _ _ _ _ _ _ _ _ _ _ _) ?_; intro w6 E9 R9 T9 B9; have K9 : ∀ k, k ≠ w1.heap.size → w6.heap[k]? = w5.heap[k]? := (by rw [E9.out]; exact fun k hk => heap_cells _ _ _ _ k hk); have HB0 : Hid (Vr w6 w.heap.size [.int .i64 g0, .int .i64 g1, .int .i64 (S : Int), .int .i64 g3, .int .i64 g4, .int .i64 g5]) := HB0.out.heap (K9 _ (Nat.ne_of_lt LT_HB0_HV4.out)); have HE : Hid (Byt w6 v5 E) := byt_nob HE.out NB_HV4.out K9; have NB_HV6 : Hid (NoB w6 w3.heap.size) := NB_HV6.out.heap (K9 _ (Nat.ne_of_gt LT_HV4_HV6.out)); have HV6 : Hid (Vr w6 w3.heap.size (hv 0 0 0 0 0 0)) := HV6.out.heap (K9 _ (Nat.ne_of_gt LT_HV4_HV6.out)); have NB_HV4 : Hid (NoB w6 w1.heap.size) := (by rw [E9.out]; exact NB_HV4.out.set HV4.out rfl (pg10_nob _ _ _ _ _ _ _ _ _ _ _ _ _ _)); have HV4 : Hid (Vr w6 w1.heap.size Z10) := ⟨R9, T9⟩; have BB : Hid (Below w.heap.size w w6) := BB.out.trans (B9.mono LE_HV4.out); clear hb0_0 hb0_1 hb0_2 hb0_3 hb0_4 hb0_5; have hb0_0 := HB0.out.cell 0 _ rfl; have hb0_1 := HB0.out.cell 1 _ rfl; have hb0_2 := HB0.out.cell 2 _ rfl; have hb0_3 := HB0.out.cell 3 _ rfl; have hb0_4 := HB0.out.cell 4 _ rfl; have hb0_5 := HB0.out.cell 5 _ rfl; clear E9 R9 T9 B9 K9; clear t7; have t8 : (1 : Nat) = 1 := rfl)
    | (have q6 := t6; refine build_law _ rfl 70 _ rfl (.agg Z10.toArray) (by kernel_rfl) ?_; clear t6; have t7 : (1 : Nat) = 1 := rfl)
    | (have q5 := t5; (with_reducible refine at_store ?_); refine store_lawC _ (hv 0 0 0 0 0 0) w3.heap.size 0 rfl rfl HV6.out.2 rowy_head.2 (hv_one _ _ _ _ _ _) ?_; intro w5 E9 R9 T9 B9; have K9 : ∀ k, k ≠ w3.heap.size → w5.heap[k]? = w4.heap[k]? := (by rw [E9.out]; exact fun k hk => heap_cells _ _ _ _ k hk); have HB0 : Hid (Vr w5 w.heap.size [.int .i64 g0, .int .i64 g1, .int .i64 (S : Int), .int .i64 g3, .int .i64 g4, .int .i64 g5]) := HB0.out.heap (K9 _ (Nat.ne_of_lt LT_HB0_HV6.out)); have NB_HV4 : Hid (NoB w5 w1.heap.size) := NB_HV4.out.heap (K9 _ (Nat.ne_of_lt LT_HV4_HV6.out)); have HV4 : Hid (Vr w5 w1.heap.size Z10) := HV4.out.heap (K9 _ (Nat.ne_of_lt LT_HV4_HV6.out)); have HE : Hid (Byt w5 v5 E) := byt_nob HE.out NB_HV6.out K9; have NB_HV6 : Hid (NoB w5 w3.heap.size) := (by rw [E9.out]; exact NB_HV6.out.set HV6.out rfl (hv_nob _ _ _ _ _ _)); have HV6 : Hid (Vr w5 w3.heap.size (hv 0 0 0 0 0 0)) := ⟨R9, T9⟩; have BB : Hid (Below w.heap.size w w5) := BB.out.trans (B9.mono LE_HV6.out); clear hb0_0 hb0_1 hb0_2 hb0_3 hb0_4 hb0_5; have hb0_0 := HB0.out.cell 0 _ rfl; have hb0_1 := HB0.out.cell 1 _ rfl; have hb0_2 := HB0.out.cell 2 _ rfl; have hb0_3 := HB0.out.cell 3 _ rfl; have hb0_4 := HB0.out.cell 4 _ rfl; have hb0_5 := HB0.out.cell 5 _ rfl; clear E9 R9 T9 B9 K9; clear t5; have t6 : (1 : Nat) = 1 := rfl)
    | (have q4 := t4; (with_reducible refine at_alloc ?_); refine new_lawN _ (hv 0 0 0 0 0 0) zero_head (hv_nob _ _ _ _ _ _) ?_; intro w4 X9 N9 B9; have LT_HB0_HV6 : Hid (w.heap.size < w3.heap.size) := range_lt HB0.out.1 (Nat.succ_pos _); have LT_HV4_HV6 : Hid (w1.heap.size < w3.heap.size) := range_lt HV4.out.1 (Nat.succ_pos _); have LE_HV6 : Hid (w.heap.size ≤ w3.heap.size) := BB.out.size; have HB0 : Hid (Vr w4 w.heap.size [.int .i64 g0, .int .i64 g1, .int .i64 (S : Int), .int .i64 g3, .int .i64 g4, .int .i64 g5]) := HB0.out.below B9 (range_lt HB0.out.1 (Nat.succ_pos _)); have NB_HV4 : Hid (NoB w4 w1.heap.size) := NB_HV4.out.heap (B9.block _ (range_lt HV4.out.1 (Nat.succ_pos _))); have HV4 : Hid (Vr w4 w1.heap.size Z10) := HV4.out.below B9 (range_lt HV4.out.1 (Nat.succ_pos _)); have HE : Hid (Byt w4 v5 E) := HE.out.below B9; have HV6 : Hid (Vr w4 w3.heap.size (hv 0 0 0 0 0 0)) := X9; have NB_HV6 : Hid (NoB w4 w3.heap.size) := N9; have BB : Hid (Below w.heap.size w w4) := BB.out.trans (B9.mono BB.out.size); clear hb0_0 hb0_1 hb0_2 hb0_3 hb0_4 hb0_5; have hb0_0 := HB0.out.cell 0 _ rfl; have hb0_1 := HB0.out.cell 1 _ rfl; have hb0_2 := HB0.out.cell 2 _ rfl; have hb0_3 := HB0.out.cell 3 _ rfl; have hb0_4 := HB0.out.cell 4 _ rfl; have hb0_5 := HB0.out.cell 5 _ rfl; clear X9 N9 B9; clear t4; have t5 : (1 : Nat) = 1 := rfl)
    | (have q3 := t3; go_at_call 46; refine (SH.out w2 v5 HE.out).mono ?_; rintro e9 w3 ⟨rfl, B9⟩; have HB0 : Hid (Vr w3 w.heap.size [.int .i64 g0, .int .i64 g1, .int .i64 (S : Int), .int .i64 g3, .int .i64 g4, .int .i64 g5]) := HB0.out.below B9 (range_lt HB0.out.1 (Nat.succ_pos _)); have NB_HV4 : Hid (NoB w3 w1.heap.size) := NB_HV4.out.heap (B9.block _ (range_lt HV4.out.1 (Nat.succ_pos _))); have HV4 : Hid (Vr w3 w1.heap.size Z10) := HV4.out.below B9 (range_lt HV4.out.1 (Nat.succ_pos _)); have HE : Hid (Byt w3 v5 E) := HE.out.below B9; have BB : Hid (Below w.heap.size w w3) := BB.out.trans (B9.mono BB.out.size); clear hb0_0 hb0_1 hb0_2 hb0_3 hb0_4 hb0_5; have hb0_0 := HB0.out.cell 0 _ rfl; have hb0_1 := HB0.out.cell 1 _ rfl; have hb0_2 := HB0.out.cell 2 _ rfl; have hb0_3 := HB0.out.cell 3 _ rfl; have hb0_4 := HB0.out.cell 4 _ rfl; have hb0_5 := HB0.out.cell 5 _ rfl; clear B9; clear t3; have t4 : (1 : Nat) = 1 := rfl)
    | (have q2 := t2; refine cut_from _ rfl (.tmp 8) (.tmp 10) rfl v xs (S : Int) S rfl rfl rfl (by have := HL.out; omega) (HB.out.below BB.out) ?_; intro v5 Y9; rw [HEE.out] at Y9; have HE : Hid (Byt w2 v5 E) := Y9; clear Y9; clear t2; have t3 : (1 : Nat) = 1 := rfl)
    | (have q1 := t1; (with_reducible refine at_alloc ?_); refine new_lawN _ Z10 zero_rpage (pg10_nob _ _ _ _ _ _ _ _ _ _ _ _ _ _) ?_; intro w2 X9 N9 B9; have LT_HB0_HV4 : Hid (w.heap.size < w1.heap.size) := range_lt HB0.out.1 (Nat.succ_pos _); have LE_HV4 : Hid (w.heap.size ≤ w1.heap.size) := BB.out.size; have HB0 : Hid (Vr w2 w.heap.size [.int .i64 g0, .int .i64 g1, .int .i64 (S : Int), .int .i64 g3, .int .i64 g4, .int .i64 g5]) := HB0.out.below B9 (range_lt HB0.out.1 (Nat.succ_pos _)); have HV4 : Hid (Vr w2 w1.heap.size Z10) := X9; have NB_HV4 : Hid (NoB w2 w1.heap.size) := N9; have BB : Hid (Below w.heap.size w w2) := BB.out.trans (B9.mono BB.out.size); clear hb0_0 hb0_1 hb0_2 hb0_3 hb0_4 hb0_5; have hb0_0 := HB0.out.cell 0 _ rfl; have hb0_1 := HB0.out.cell 1 _ rfl; have hb0_2 := HB0.out.cell 2 _ rfl; have hb0_3 := HB0.out.cell 3 _ rfl; have hb0_4 := HB0.out.cell 4 _ rfl; have hb0_5 := HB0.out.cell 5 _ rfl; clear X9 N9 B9; clear t1; have t2 : (1 : Nat) = 1 := rfl)
    | (have q0 := t0; refine box_lawC _ [.int .i64 g0, .int .i64 g1, .int .i64 (S : Int), .int .i64 g3, .int .i64 g4, .int .i64 g5] rfl ?_; intro w1 X9 B9 l9; have HB0 : Hid (Vr w1 w.heap.size [.int .i64 g0, .int .i64 g1, .int .i64 (S : Int), .int .i64 g3, .int .i64 g4, .int .i64 g5]) := X9; have BB : Hid (Below w.heap.size w w1) := B9; have hb0_0 := HB0.out.cell 0 _ rfl; have hb0_1 := HB0.out.cell 1 _ rfl; have hb0_2 := HB0.out.cell 2 _ rfl; have hb0_3 := HB0.out.cell 3 _ rfl; have hb0_4 := HB0.out.cell 4 _ rfl; have hb0_5 := HB0.out.cell 5 _ rfl; clear X9 B9 l9; clear t0; have t1 : (1 : Nat) = 1 := rfl))
  exact bodyPost_ret (v := .agg Z10.toArray) (results_c rfl _ _ w1.heap.size _ rowy_rpage rfl HV4.out.1) rfl ⟨rfl, BB.out⟩

set_option maxHeartbeats 4000000 in
theorem rpread_yes (g0 g1 g3 g4 g5 : Int) (S : Nat) (v : Value) (xs : List Int) (w : World) (hb : Byt w v xs) (hl : xs.length = S + 88) (h : Tl (xs.drop S)) :
    Calls Tryd.prog 32 #[.agg (ints .i64 [g0, g1, (S : Int), g3, g4, g5]), v] w fun x w' => ∃ po pc uo uc, x = .returned (.agg (pg10 (qk (xs.drop S)) (qn (xs.drop S)) (qc (xs.drop S)) (ql (xs.drop S)) (qe (xs.drop S)) (qt (xs.drop S)) (.slice po S pc) (.slice uo 32 uc) (decide ((xs.drop S).drop 80 = List.replicate 8 0)) true).toArray) ∧ Byt w' (.slice po S pc) (xs.take S) ∧ Byt w' (.slice uo 32 uc) (sub (xs.drop S) 48 80) ∧ Below w.heap.size w w' := by
  have HL : Hid (xs.length = S + 88) := hl
  have HB : Hid (Byt w v xs) := hb
  obtain ⟨s0, c0, e0⟩ := byt_form (sl_to hb S (by omega)) (n := S) (by simp; omega)
  have y0 := sl_to hb S (by omega)
  rw [e0] at y0
  have SH : Hid (∀ w0 u, Byt w0 u (xs.drop S) → Calls Tryd.prog 46 #[u] w0 fun x w' => x = .returned (.tuple #[.agg (hv (qk (xs.drop S)) (qn (xs.drop S)) (qc (xs.drop S)) (ql (xs.drop S)) (qe (xs.drop S)) (qt (xs.drop S))).toArray, .bool true]) ∧ Below w0.heap.size w0 w') := fun w0 u hu => rread_yes u _ w0 hu (by simp; omega) h
  have SD : Hid (∀ w0 u, Byt w0 u (xs.drop S) → Calls Tryd.prog 47 #[u] w0 fun x w' => x = .returned (.bool (decide ((xs.drop S).drop 80 = List.replicate 8 0))) ∧ Below w0.heap.size w0 w') := fun w0 u hu => rcomm_any u _ w0 hu (by simp; omega)
  have HS0 : Hid (sl v 0 S = .slice s0 S c0 ∧ Byt w (.slice s0 S c0) (xs.take S)) := ⟨e0, y0⟩
  generalize decide ((xs.drop S).drop 80 = List.replicate 8 0) = D at SD ⊢
  have HLE : Hid ((xs.drop S).length = 88) := (by show _ = _; simp; omega)
  generalize qk (xs.drop S) = k at SH ⊢
  generalize qn (xs.drop S) = n at SH ⊢
  generalize qc (xs.drop S) = c at SH ⊢
  generalize ql (xs.drop S) = l at SH ⊢
  generalize qe (xs.drop S) = e at SH ⊢
  generalize qt (xs.drop S) = t at SH ⊢
  generalize hE : xs.drop S = E at SH SD HLE ⊢
  have HEE : Hid (xs.drop S = E) := hE
  generalize xs.take S = Q at HS0 ⊢
  clear h hl hb hE e0 y0
  have t0 : (0 : Nat) = 0 := rfl
  go_enter Tryd.func32, Tryd.ntmps32
  go_wp2_with (first
    | (have q5 := t5; (with_reducible refine at_store ?_); refine store_lawC _ (hv k n c l e t) w3.heap.size 0 rfl rfl HV6.out.2 rowy_head.2 (hv_one _ _ _ _ _ _) ?_; intro w5 E9 R9 T9 B9; have K9 : ∀ k, k ≠ w3.heap.size → w5.heap[k]? = w4.heap[k]? := (by rw [E9.out]; exact fun k hk => heap_cells _ _ _ _ k hk); have HB0 : Hid (Vr w5 w.heap.size [.int .i64 g0, .int .i64 g1, .int .i64 (S : Int), .int .i64 g3, .int .i64 g4, .int .i64 g5]) := HB0.out.heap (K9 _ (Nat.ne_of_lt LT_HB0_HV6.out)); have NB_HV4 : Hid (NoB w5 w1.heap.size) := NB_HV4.out.heap (K9 _ (Nat.ne_of_lt LT_HV4_HV6.out)); have HV4 : Hid (Vr w5 w1.heap.size Z10) := HV4.out.heap (K9 _ (Nat.ne_of_lt LT_HV4_HV6.out)); have HE : Hid (Byt w5 v5 E) := byt_nob HE.out NB_HV6.out K9; have NB_HV6 : Hid (NoB w5 w3.heap.size) := (by rw [E9.out]; exact NB_HV6.out.set HV6.out rfl (hv_nob _ _ _ _ _ _)); have HV6 : Hid (Vr w5 w3.heap.size (hv k n c l e t)) := ⟨R9, T9⟩; have BB : Hid (Below w.heap.size w w5) := BB.out.trans (B9.mono LE_HV6.out); clear hb0_0 hb0_1 hb0_2 hb0_3 hb0_4 hb0_5; have hb0_0 := HB0.out.cell 0 _ rfl; have hb0_1 := HB0.out.cell 1 _ rfl; have hb0_2 := HB0.out.cell 2 _ rfl; have hb0_3 := HB0.out.cell 3 _ rfl; have hb0_4 := HB0.out.cell 4 _ rfl; have hb0_5 := HB0.out.cell 5 _ rfl; clear E9 R9 T9 B9 K9; clear t5; have t6 : (1 : Nat) = 1 := rfl)
    | (have q4 := t4; (with_reducible refine at_alloc ?_); refine new_lawN _ (hv 0 0 0 0 0 0) zero_head (hv_nob _ _ _ _ _ _) ?_; intro w4 X9 N9 B9; have LT_HB0_HV6 : Hid (w.heap.size < w3.heap.size) := range_lt HB0.out.1 (Nat.succ_pos _); have LT_HV4_HV6 : Hid (w1.heap.size < w3.heap.size) := range_lt HV4.out.1 (Nat.succ_pos _); have LE_HV6 : Hid (w.heap.size ≤ w3.heap.size) := BB.out.size; have HB0 : Hid (Vr w4 w.heap.size [.int .i64 g0, .int .i64 g1, .int .i64 (S : Int), .int .i64 g3, .int .i64 g4, .int .i64 g5]) := HB0.out.below B9 (range_lt HB0.out.1 (Nat.succ_pos _)); have NB_HV4 : Hid (NoB w4 w1.heap.size) := NB_HV4.out.heap (B9.block _ (range_lt HV4.out.1 (Nat.succ_pos _))); have HV4 : Hid (Vr w4 w1.heap.size Z10) := HV4.out.below B9 (range_lt HV4.out.1 (Nat.succ_pos _)); have HE : Hid (Byt w4 v5 E) := HE.out.below B9; have HV6 : Hid (Vr w4 w3.heap.size (hv 0 0 0 0 0 0)) := X9; have NB_HV6 : Hid (NoB w4 w3.heap.size) := N9; have BB : Hid (Below w.heap.size w w4) := BB.out.trans (B9.mono BB.out.size); clear hb0_0 hb0_1 hb0_2 hb0_3 hb0_4 hb0_5; have hb0_0 := HB0.out.cell 0 _ rfl; have hb0_1 := HB0.out.cell 1 _ rfl; have hb0_2 := HB0.out.cell 2 _ rfl; have hb0_3 := HB0.out.cell 3 _ rfl; have hb0_4 := HB0.out.cell 4 _ rfl; have hb0_5 := HB0.out.cell 5 _ rfl; clear X9 N9 B9; clear t4; have t5 : (1 : Nat) = 1 := rfl)
    | (have q3 := t3; go_at_call 46; refine (SH.out w2 v5 HE.out).mono ?_; rintro e9 w3 ⟨rfl, B9⟩; have HB0 : Hid (Vr w3 w.heap.size [.int .i64 g0, .int .i64 g1, .int .i64 (S : Int), .int .i64 g3, .int .i64 g4, .int .i64 g5]) := HB0.out.below B9 (range_lt HB0.out.1 (Nat.succ_pos _)); have NB_HV4 : Hid (NoB w3 w1.heap.size) := NB_HV4.out.heap (B9.block _ (range_lt HV4.out.1 (Nat.succ_pos _))); have HV4 : Hid (Vr w3 w1.heap.size Z10) := HV4.out.below B9 (range_lt HV4.out.1 (Nat.succ_pos _)); have HE : Hid (Byt w3 v5 E) := HE.out.below B9; have BB : Hid (Below w.heap.size w w3) := BB.out.trans (B9.mono BB.out.size); clear hb0_0 hb0_1 hb0_2 hb0_3 hb0_4 hb0_5; have hb0_0 := HB0.out.cell 0 _ rfl; have hb0_1 := HB0.out.cell 1 _ rfl; have hb0_2 := HB0.out.cell 2 _ rfl; have hb0_3 := HB0.out.cell 3 _ rfl; have hb0_4 := HB0.out.cell 4 _ rfl; have hb0_5 := HB0.out.cell 5 _ rfl; clear B9; clear t3; have t4 : (1 : Nat) = 1 := rfl)
    | (have q2 := t2; refine cut_from _ rfl (.tmp 8) (.tmp 10) rfl v xs (S : Int) S rfl rfl rfl (by have := HL.out; omega) (HB.out.below BB.out) ?_; intro v5 Y9; rw [HEE.out] at Y9; have HE : Hid (Byt w2 v5 E) := Y9; clear Y9; clear t2; have t3 : (1 : Nat) = 1 := rfl)
    | (have q1 := t1; (with_reducible refine at_alloc ?_); refine new_lawN _ Z10 zero_rpage (pg10_nob _ _ _ _ _ _ _ _ _ _ _ _ _ _) ?_; intro w2 X9 N9 B9; have LT_HB0_HV4 : Hid (w.heap.size < w1.heap.size) := range_lt HB0.out.1 (Nat.succ_pos _); have LE_HV4 : Hid (w.heap.size ≤ w1.heap.size) := BB.out.size; have HB0 : Hid (Vr w2 w.heap.size [.int .i64 g0, .int .i64 g1, .int .i64 (S : Int), .int .i64 g3, .int .i64 g4, .int .i64 g5]) := HB0.out.below B9 (range_lt HB0.out.1 (Nat.succ_pos _)); have HV4 : Hid (Vr w2 w1.heap.size Z10) := X9; have NB_HV4 : Hid (NoB w2 w1.heap.size) := N9; have BB : Hid (Below w.heap.size w w2) := BB.out.trans (B9.mono BB.out.size); clear hb0_0 hb0_1 hb0_2 hb0_3 hb0_4 hb0_5; have hb0_0 := HB0.out.cell 0 _ rfl; have hb0_1 := HB0.out.cell 1 _ rfl; have hb0_2 := HB0.out.cell 2 _ rfl; have hb0_3 := HB0.out.cell 3 _ rfl; have hb0_4 := HB0.out.cell 4 _ rfl; have hb0_5 := HB0.out.cell 5 _ rfl; clear X9 N9 B9; clear t1; have t2 : (1 : Nat) = 1 := rfl)
    | (have q0 := t0; refine box_lawC _ [.int .i64 g0, .int .i64 g1, .int .i64 (S : Int), .int .i64 g3, .int .i64 g4, .int .i64 g5] rfl ?_; intro w1 X9 B9 l9; have HB0 : Hid (Vr w1 w.heap.size [.int .i64 g0, .int .i64 g1, .int .i64 (S : Int), .int .i64 g3, .int .i64 g4, .int .i64 g5]) := X9; have BB : Hid (Below w.heap.size w w1) := B9; have hb0_0 := HB0.out.cell 0 _ rfl; have hb0_1 := HB0.out.cell 1 _ rfl; have hb0_2 := HB0.out.cell 2 _ rfl; have hb0_3 := HB0.out.cell 3 _ rfl; have hb0_4 := HB0.out.cell 4 _ rfl; have hb0_5 := HB0.out.cell 5 _ rfl; clear X9 B9 l9; clear t0; have t1 : (1 : Nat) = 1 := rfl))
  have HE0 : Hid (Byt w5 v5 E) := HE.out
  obtain ⟨uo, uc, eu⟩ := byt_form (sl_sub HE.out 48 80 (by omega) (by have := HLE.out; omega)) (n := 32) (sub_len _ _ _ (by have := HLE.out; omega))
  have HY : Hid (Byt w5 (.slice uo 32 uc) (sub E 48 80)) := (by rw [← eu]; exact sl_sub HE.out 48 80 (by omega) (by have := HLE.out; omega))
  have HU : Hid (sl v5 48 80 = .slice uo 32 uc ∧ True) := ⟨eu, trivial⟩
  clear eu
  have HE : Hid (Byt w5.drew v5 E) := he.byt_drawn HE.out 1
  have HY : Hid (Byt w5.drew (.slice uo 32 uc) (sub E 48 80)) := he.byt_drawn HY.out 1
  have HV4 : Hid (Vr w5.drew w1.heap.size Z10) := HV4.out.drewN 1
  have NB_HV4 : Hid (NoB w5.drew w1.heap.size) := NB_HV4.out
  have BB : Hid (Below w.heap.size w w5.drew) := BB.out.drew
  refine wp_region_held_drew (S := fun w' => w'.rangeAt w3.heap.size 0 (hv k n c l e t) ∧ w'.rangeAt w.heap.size 0 [.int .i64 g0, .int .i64 g1, .int .i64 (S : Int), .int .i64 g3, .int .i64 g4, .int .i64 g5]) (by kernel_rfl) ⟨HV6.out.1, HB0.out.1⟩ (fun hS => ?_)
  obtain ⟨x1, hx0⟩ : ∃ x, x = w5.drew := ⟨_, rfl⟩
  rw [← hx0] at hS HE HY HV4 NB_HV4 BB ⊢
  clear hx0
  refine take_lawH 0 (some 20) (.agg (hv k n c l e t).toArray) rfl rfl (by kernel_rfl) (by kernel_rfl) (by kernel_rfl) (fun _ _ _ h => h) (Or.inl ⟨by rfl, fun w' hw' => by exact exec_loadN 57 (.tmp 6) rfl _ rfl _ _ (load_cells rowy_head hw'.1)⟩) hS ?_
  simp only [Act.put, List.setIfInBounds_toArray, List.set_cons_zero, List.set_cons_succ]
  refine take_lawH 1 (some 21) (v) rfl rfl (by kernel_rfl) (by kernel_rfl) (by kernel_rfl) (fun _ _ _ h => h) (Or.inl ⟨by rfl, fun w' hw' => by rfl⟩) hS ?_
  simp only [Act.put, List.setIfInBounds_toArray, List.set_cons_zero, List.set_cons_succ]
  refine take_lawH 2 (some 22) (.pointer (some ⟨w.heap.size, 2, none⟩)) rfl rfl (by kernel_rfl) (by kernel_rfl) (by kernel_rfl) (fun _ _ _ h => h) (Or.inl ⟨by rfl, fun w' hw' => by go_simp⟩) hS ?_
  simp only [Act.put, List.setIfInBounds_toArray, List.set_cons_zero, List.set_cons_succ]
  refine take_lawH 3 (some 23) (.int .i64 (S : Int)) rfl rfl (by kernel_rfl) (by kernel_rfl) (by kernel_rfl) (fun _ _ _ h => h) (Or.inl ⟨by rfl, fun w' hw' => by exact exec_loadN 3 (.tmp 22) rfl _ rfl _ _ (ld_int (hw'.2 2 _ rfl))⟩) hS ?_
  simp only [Act.put, List.setIfInBounds_toArray, List.set_cons_zero, List.set_cons_succ]
  refine take_lawH 4 (some 24) (.slice s0 S c0) rfl rfl (by kernel_rfl) (by kernel_rfl) (by kernel_rfl) (fun _ _ _ h => h) (Or.inl ⟨by rfl, fun w' hw' => by rw [← HS0.out.1]; exact exec_to (.tmp 21) (.tmp 23) rfl v xs _ HB.out S rfl rfl (by have := HL.out; omega) _⟩) hS ?_
  simp only [Act.put, List.setIfInBounds_toArray, List.set_cons_zero, List.set_cons_succ]
  refine take_lawH 5 (some 25) (v5) rfl rfl (by kernel_rfl) (by kernel_rfl) (by kernel_rfl) (fun _ _ _ h => h) (Or.inl ⟨by rfl, fun w' hw' => by rfl⟩) hS ?_
  simp only [Act.put, List.setIfInBounds_toArray, List.set_cons_zero, List.set_cons_succ]
  refine take_lawH 6 (some 26) (.slice uo 32 uc) rfl rfl (by kernel_rfl) (by kernel_rfl) (by kernel_rfl) (fun _ _ _ h => h) (Or.inl ⟨by rfl, fun w' hw' => by rw [← HU.out.1]; exact exec_part (.tmp 25) (.const (.int .i64 48)) (.const (.int .i64 80)) rfl v5 E _ HE0.out 48 80 rfl rfl rfl (by omega) (by have := HLE.out; omega) _⟩) hS ?_
  simp only [Act.put, List.setIfInBounds_toArray, List.set_cons_zero, List.set_cons_succ]
  refine take_lawH 7 (some 27) (v5) rfl rfl (by kernel_rfl) (by kernel_rfl) (by kernel_rfl) (fun _ _ _ h => h) (Or.inl ⟨by rfl, fun w' hw' => by rfl⟩) hS ?_
  simp only [Act.put, List.setIfInBounds_toArray, List.set_cons_zero, List.set_cons_succ]
  refine wpAnyH_ready (rs := [8]) (by kernel_rfl) (by simp) ?_
  refine AllReadyH.cons rfl (fun K hK => ?_) AllReadyH.nil
  refine step_callW _ (by rfl) (some 28) rfl 47 #[.tmp 27] #[24] rfl (fun q w' => by rfl) #[v5] (by simp only [List.map_toArray, List.map_cons, List.map_nil]; rfl) (fun u w' => u = .bool D ∧ Below x1.heap.size x1 w') ?_ ?_
  · exact (SD.out _ _ HE.out).mono fun _ _ ⟨h1, h2⟩ => ⟨_, h1, rfl, h2⟩
  rintro _ x2 ⟨rfl, hb⟩
  have HY : Hid (Byt x2 (.slice uo 32 uc) (sub E 48 80)) := HY.out.below hb
  have NB_HV4 : Hid (NoB x2 w1.heap.size) := NB_HV4.out.heap (hb.block _ (range_lt HV4.out.1 (Nat.succ_pos _)))
  have HV4 : Hid (Vr x2 w1.heap.size Z10) := HV4.out.below hb (range_lt HV4.out.1 (Nat.succ_pos _))
  have BB : Hid (Below w.heap.size w x2) := BB.out.trans (hb.mono BB.out.size)
  have hS : x2.rangeAt w3.heap.size 0 (hv k n c l e t) ∧ x2.rangeAt w.heap.size 0 [.int .i64 g0, .int .i64 g1, .int .i64 (S : Int), .int .i64 g3, .int .i64 g4, .int .i64 g5] := ⟨range_heap hS.1 (hb.block _ (range_lt hS.1 (Nat.succ_pos _))), range_heap hS.2 (hb.block _ (range_lt hS.2 (Nat.succ_pos _)))⟩
  clear hb
  refine hK.out _ _ hS (fun _ => ?_)
  simp only [Act.put, List.setIfInBounds_toArray, List.set_cons_zero, List.set_cons_succ]
  clear hK K
  refine take_lawH 9 (some 29) (.agg (pg10 k n c l e t (.slice s0 S c0) (.slice uo 32 uc) D true).toArray) rfl rfl (by kernel_rfl) (by kernel_rfl) (by kernel_rfl) (fun _ _ _ h => h) (Or.inl ⟨by rfl, fun w' hw' => by exact exec_build 70 _ rfl _ _ (by kernel_rfl)⟩) hS ?_
  simp only [Act.put, List.setIfInBounds_toArray, List.set_cons_zero, List.set_cons_succ]
  refine wpAnyH_ready (rs := [10]) (by kernel_rfl) (by simp) ?_
  refine AllReadyH.cons rfl (fun K hK => ?_) AllReadyH.nil
  refine step_storeK _ rfl none rfl (.tmp 4) (.tmp 29) 70 rfl w1.heap.size Z10 (pg10 k n c l e t (.slice s0 S c0) (.slice uo 32 uc) D true) rfl rfl HV4.out rfl rowy_rpage.2 (pg10_one _ _ _ _ _ _ _ _ _ _ _ _ _ _) ?_
  intro x3 v9 B9 K9
  have HY : Hid (Byt x3 (.slice uo 32 uc) (sub E 48 80)) := byt_nob HY.out NB_HV4.out K9
  have HQ : Hid (Vr x3 w1.heap.size (pg10 k n c l e t (.slice s0 S c0) (.slice uo 32 uc) D true)) := v9
  have BB : Hid (Below w.heap.size w x3) := BB.out.trans (B9.mono LE_HV4.out)
  have hS : x3.rangeAt w3.heap.size 0 (hv k n c l e t) ∧ x3.rangeAt w.heap.size 0 [.int .i64 g0, .int .i64 g1, .int .i64 (S : Int), .int .i64 g3, .int .i64 g4, .int .i64 g5] := ⟨range_heap hS.1 (K9 _ (Nat.ne_of_gt LT_HV4_HV6.out)), range_heap hS.2 (K9 _ (Nat.ne_of_lt LT_HB0_HV4.out))⟩
  clear v9 B9 K9
  refine hK.out _ _ hS (fun _ => ?_)
  simp only [Act.put]
  clear hK K
  refine wpAnyH_done (by kernel_rfl) ?_ _
  go_wp2
  exact bodyPost_ret (v := .agg (pg10 k n c l e t (.slice s0 S c0) (.slice uo 32 uc) D true).toArray) (results_c rfl _ _ w1.heap.size _ rowy_rpage rfl HQ.out.1) rfl ⟨_, _, _, _, rfl, HS0.out.2.below BB.out, HY.out, BB.out⟩
end Go.Proofs.YtahfcpdekjdceaaDoor.pa
