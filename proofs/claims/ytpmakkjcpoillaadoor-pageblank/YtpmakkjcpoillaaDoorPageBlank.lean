/- A blank page tells nothing, of any geometry that is right: Read answers ErrForm, Done false, for any kind. Of other geometries: the program answers. No condition. -/
import Derived.Test.YtpmakkjcpoillaaDoorCards
import Derived.Test.YtpmakkjcpoillaaDoorTie
import Derived.Test.YtpmakkjcpoillaaDoorPAwk
namespace Go.Proofs.YtpmakkjcpoillaaDoor.pageBlank
open Go.ChangeShapes Go.WideShapes Go.ChangeAt Go.RowKit Go.Proofs.YtpmakkjcpoillaaDoor.pa Go.Proofs.YtpmakkjcpoillaaDoor.he
set_option maxRecDepth 20000

set_option maxHeartbeats 8000000 in
theorem walk (g : List Int) (kd : Int) (w : World) (hg : g.length = 6) (_hk : -9223372036854775808 ≤ kd ∧ kd ≤ 9223372036854775807) (hT : Tab w) :
    Calls Tryd.prog 6 #[.agg (ints .i64 g), .int .i64 kd] w fun x w' => x = .returned (.bool true) ∧ Below w.heap.size w w' := by
  obtain ⟨g0, g1, g2, g3, g4, g5, rfl⟩ : ∃ g0 g1 g2 g3 g4 g5, g = [g0, g1, g2, g3, g4, g5] := by
    match g, hg with
    | [g0, g1, g2, g3, g4, g5], _ => exact ⟨g0, g1, g2, g3, g4, g5, rfl⟩
  have HT : Hid (Tab w) := hT
  by_cases hr : ge.Rt [g0, g1, g2, g3, g4, g5]
  · obtain ⟨S, rfl, s1, s2⟩ := sec_of hr
    have SG : Hid (∀ w0, Calls Tryd.prog 9 #[.agg (ints .i64 [g0, g1, (S : Int), g3, g4, g5])] w0 fun x w' => x = .returned (.bool true) ∧ Below w0.heap.size w0 w') := ge.right_yes [g0, g1, (S : Int), g3, g4, g5] rfl hr
    have SF : Hid (∀ w0, Calls Tryd.prog 18 #[.int .u8 255, .int .i64 ((S + 88 : Nat) : Int)] w0 fun x w' => ∃ ao cap, x = .returned (.slice ao (S + 88) cap) ∧ Byt w' (.slice ao (S + 88) cap) (List.replicate (S + 88) 255) ∧ Below w0.heap.size w0 w') := fun w0 => (rfill_any 255 (S + 88 : Nat) w0 (by omega)).mono (by rintro _ _ ⟨v, rfl, h1, h2⟩; rw [clampS (by omega)] at h1; obtain ⟨ao, cap, e⟩ := byt_form h1 (n := S + 88) (by simp); subst e; exact ⟨ao, cap, rfl, h1, h2⟩)
    have SR : Hid (∀ w0 v, Below w.heap.size w w0 → Byt w0 v (List.replicate (S + 88) 255) → Calls Tryd.prog 15 #[.agg (ints .i64 [g0, g1, (S : Int), g3, g4, g5]), v] w0 fun x w' => x = .returned (.tuple #[.agg Z9.toArray, .int .i64 1]) ∧ Below w0.heap.size w0 w') := fun w0 v hb hv => read_none g0 g1 g3 g4 g5 S v _ w0 hv hr (by simp) (hT.below hb) (by rw [List.drop_replicate, show S + 88 - S = 88 by omega]; intro q; exact absurd q.2.1 (by decide))
    have SD : Hid (∀ w0 v, Below w.heap.size w w0 → Byt w0 v (List.replicate (S + 88) 255) → Calls Tryd.prog 16 #[.agg (ints .i64 [g0, g1, (S : Int), g3, g4, g5]), v, .int .i64 kd] w0 fun x w' => x = .returned (.tuple #[.agg Z9.toArray, .bool false]) ∧ Below w0.heap.size w0 w') := fun w0 v hb hv => done_err g0 g1 S g3 g4 g5 v kd w0 1 (by omega) fun w1 h1 => SR.out w1 v (hb.trans (h1.mono hb.size)) (hv.below h1)
    have ZB : Hid (decide (List.replicate (S + 88) (255 : Int) = List.replicate (List.replicate (S + 88) (255 : Int)).length 255) = true) := decide_eq_true (by rw [List.length_replicate])
    have hq : IntKind.i64.wrap ((S : Int) + 88) = ((S + 88 : Nat) : Int) := by rw [IntKind.wrap_i64]; omega
    generalize List.replicate (S + 88) (255 : Int) = Z at SF SR SD ZB
    generalize S + 88 = T at SF hq
    clear hr hT s1 s2 hg
    have t0 : (0 : Nat) = 0 := rfl
    go_enter Tryd.func6, Tryd.ntmps6
    go_wp2_with (first
      | (have q10 := t10; go_at_call 10; refine (awake_any w10 (HT.out.below BB.out)).mono ?_; rintro e9 w11 ⟨rfl, B9⟩; have HB0 : Hid (Vr w11 w.heap.size [.int .i64 g0, .int .i64 g1, .int .i64 (S : Int), .int .i64 g3, .int .i64 g4, .int .i64 g5]) := HB0.out.below B9 (range_lt HB0.out.1 (Nat.succ_pos _)); have HF : Hid (Byt w11 (.slice fo T fc) Z) := HF.out.below B9; have NB_HV6 : Hid (NoB w11 w4.heap.size) := NB_HV6.out.heap (B9.block _ (range_lt HV6.out.1 (Nat.succ_pos _))); have HV6 : Hid (Vr w11 w4.heap.size Z9) := HV6.out.below B9 (range_lt HV6.out.1 (Nat.succ_pos _)); have NB_HV8 : Hid (NoB w11 w7.heap.size) := NB_HV8.out.heap (B9.block _ (range_lt HV8.out.1 (Nat.succ_pos _))); have HV8 : Hid (Vr w11 w7.heap.size Z9) := HV8.out.below B9 (range_lt HV8.out.1 (Nat.succ_pos _)); have BB : Hid (Below w.heap.size w w11) := BB.out.trans (B9.mono BB.out.size); clear hb0_0 hb0_1 hb0_2 hb0_3 hb0_4 hb0_5; have hb0_0 := HB0.out.cell 0 _ rfl; have hb0_1 := HB0.out.cell 1 _ rfl; have hb0_2 := HB0.out.cell 2 _ rfl; have hb0_3 := HB0.out.cell 3 _ rfl; have hb0_4 := HB0.out.cell 4 _ rfl; have hb0_5 := HB0.out.cell 5 _ rfl; clear B9; clear t10; have t11 : (1 : Nat) = 1 := rfl)
      | (have q9 := t9; go_at_call 17; refine (blank_yes w9 _ Z HF.out ZB.out).mono ?_; rintro e9 w10 ⟨rfl, B9⟩; have HB0 : Hid (Vr w10 w.heap.size [.int .i64 g0, .int .i64 g1, .int .i64 (S : Int), .int .i64 g3, .int .i64 g4, .int .i64 g5]) := HB0.out.below B9 (range_lt HB0.out.1 (Nat.succ_pos _)); have HF : Hid (Byt w10 (.slice fo T fc) Z) := HF.out.below B9; have NB_HV6 : Hid (NoB w10 w4.heap.size) := NB_HV6.out.heap (B9.block _ (range_lt HV6.out.1 (Nat.succ_pos _))); have HV6 : Hid (Vr w10 w4.heap.size Z9) := HV6.out.below B9 (range_lt HV6.out.1 (Nat.succ_pos _)); have NB_HV8 : Hid (NoB w10 w7.heap.size) := NB_HV8.out.heap (B9.block _ (range_lt HV8.out.1 (Nat.succ_pos _))); have HV8 : Hid (Vr w10 w7.heap.size Z9) := HV8.out.below B9 (range_lt HV8.out.1 (Nat.succ_pos _)); have BB : Hid (Below w.heap.size w w10) := BB.out.trans (B9.mono BB.out.size); clear hb0_0 hb0_1 hb0_2 hb0_3 hb0_4 hb0_5; have hb0_0 := HB0.out.cell 0 _ rfl; have hb0_1 := HB0.out.cell 1 _ rfl; have hb0_2 := HB0.out.cell 2 _ rfl; have hb0_3 := HB0.out.cell 3 _ rfl; have hb0_4 := HB0.out.cell 4 _ rfl; have hb0_5 := HB0.out.cell 5 _ rfl; clear B9; clear t9; have t10 : (1 : Nat) = 1 := rfl)
      | (have q8 := t8; (with_reducible refine at_store ?_); refine store_lawC _ Z9 w7.heap.size 0 rfl rfl HV8.out.2 rowy_page.2 (pg9_one _ _ _ _ _ _ _ _ _ _ _ _ _) ?_; intro w9 E9 R9 T9 B9; have K9 : ∀ k, k ≠ w7.heap.size → w9.heap[k]? = w8.heap[k]? := (by rw [E9.out]; exact fun k hk => heap_cells _ _ _ _ k hk); have HB0 : Hid (Vr w9 w.heap.size [.int .i64 g0, .int .i64 g1, .int .i64 (S : Int), .int .i64 g3, .int .i64 g4, .int .i64 g5]) := HB0.out.heap (K9 _ (Nat.ne_of_lt LT_HB0_HV8.out)); have HF : Hid (Byt w9 (.slice fo T fc) Z) := byt_nob HF.out NB_HV8.out K9; have NB_HV6 : Hid (NoB w9 w4.heap.size) := NB_HV6.out.heap (K9 _ (Nat.ne_of_lt LT_HV6_HV8.out)); have HV6 : Hid (Vr w9 w4.heap.size Z9) := HV6.out.heap (K9 _ (Nat.ne_of_lt LT_HV6_HV8.out)); have NB_HV8 : Hid (NoB w9 w7.heap.size) := (by rw [E9.out]; exact NB_HV8.out.set HV8.out rfl (pg9_nob _ _ _ _ _ _ _ _ _ _ _ _ _)); have HV8 : Hid (Vr w9 w7.heap.size Z9) := ⟨R9, T9⟩; have BB : Hid (Below w.heap.size w w9) := BB.out.trans (B9.mono LE_HV8.out); clear hb0_0 hb0_1 hb0_2 hb0_3 hb0_4 hb0_5; have hb0_0 := HB0.out.cell 0 _ rfl; have hb0_1 := HB0.out.cell 1 _ rfl; have hb0_2 := HB0.out.cell 2 _ rfl; have hb0_3 := HB0.out.cell 3 _ rfl; have hb0_4 := HB0.out.cell 4 _ rfl; have hb0_5 := HB0.out.cell 5 _ rfl; clear E9 R9 T9 B9 K9; clear t8; have t9 : (1 : Nat) = 1 := rfl)
      | (have q7 := t7; (with_reducible refine at_alloc ?_); refine new_lawN _ Z9 zero_page (pg9_nob _ _ _ _ _ _ _ _ _ _ _ _ _) ?_; intro w8 X9 N9 B9; have LT_HB0_HV8 : Hid (w.heap.size < w7.heap.size) := range_lt HB0.out.1 (Nat.succ_pos _); have LT_HV6_HV8 : Hid (w4.heap.size < w7.heap.size) := range_lt HV6.out.1 (Nat.succ_pos _); have LE_HV8 : Hid (w.heap.size ≤ w7.heap.size) := BB.out.size; have HB0 : Hid (Vr w8 w.heap.size [.int .i64 g0, .int .i64 g1, .int .i64 (S : Int), .int .i64 g3, .int .i64 g4, .int .i64 g5]) := HB0.out.below B9 (range_lt HB0.out.1 (Nat.succ_pos _)); have HF : Hid (Byt w8 (.slice fo T fc) Z) := HF.out.below B9; have NB_HV6 : Hid (NoB w8 w4.heap.size) := NB_HV6.out.heap (B9.block _ (range_lt HV6.out.1 (Nat.succ_pos _))); have HV6 : Hid (Vr w8 w4.heap.size Z9) := HV6.out.below B9 (range_lt HV6.out.1 (Nat.succ_pos _)); have HV8 : Hid (Vr w8 w7.heap.size Z9) := X9; have NB_HV8 : Hid (NoB w8 w7.heap.size) := N9; have BB : Hid (Below w.heap.size w w8) := BB.out.trans (B9.mono BB.out.size); clear hb0_0 hb0_1 hb0_2 hb0_3 hb0_4 hb0_5; have hb0_0 := HB0.out.cell 0 _ rfl; have hb0_1 := HB0.out.cell 1 _ rfl; have hb0_2 := HB0.out.cell 2 _ rfl; have hb0_3 := HB0.out.cell 3 _ rfl; have hb0_4 := HB0.out.cell 4 _ rfl; have hb0_5 := HB0.out.cell 5 _ rfl; clear X9 N9 B9; clear t7; have t8 : (1 : Nat) = 1 := rfl)
      | (have q6 := t6; go_at_call 16; refine (SD.out w6 (.slice fo T fc) BB.out HF.out).mono ?_; rintro e9 w7 ⟨rfl, B9⟩; have HB0 : Hid (Vr w7 w.heap.size [.int .i64 g0, .int .i64 g1, .int .i64 (S : Int), .int .i64 g3, .int .i64 g4, .int .i64 g5]) := HB0.out.below B9 (range_lt HB0.out.1 (Nat.succ_pos _)); have HF : Hid (Byt w7 (.slice fo T fc) Z) := HF.out.below B9; have NB_HV6 : Hid (NoB w7 w4.heap.size) := NB_HV6.out.heap (B9.block _ (range_lt HV6.out.1 (Nat.succ_pos _))); have HV6 : Hid (Vr w7 w4.heap.size Z9) := HV6.out.below B9 (range_lt HV6.out.1 (Nat.succ_pos _)); have BB : Hid (Below w.heap.size w w7) := BB.out.trans (B9.mono BB.out.size); clear hb0_0 hb0_1 hb0_2 hb0_3 hb0_4 hb0_5; have hb0_0 := HB0.out.cell 0 _ rfl; have hb0_1 := HB0.out.cell 1 _ rfl; have hb0_2 := HB0.out.cell 2 _ rfl; have hb0_3 := HB0.out.cell 3 _ rfl; have hb0_4 := HB0.out.cell 4 _ rfl; have hb0_5 := HB0.out.cell 5 _ rfl; clear B9; clear t6; have t7 : (1 : Nat) = 1 := rfl)
      | (have q5 := t5; (with_reducible refine at_store ?_); refine store_lawC _ Z9 w4.heap.size 0 rfl rfl HV6.out.2 rowy_page.2 (pg9_one _ _ _ _ _ _ _ _ _ _ _ _ _) ?_; intro w6 E9 R9 T9 B9; have K9 : ∀ k, k ≠ w4.heap.size → w6.heap[k]? = w5.heap[k]? := (by rw [E9.out]; exact fun k hk => heap_cells _ _ _ _ k hk); have HB0 : Hid (Vr w6 w.heap.size [.int .i64 g0, .int .i64 g1, .int .i64 (S : Int), .int .i64 g3, .int .i64 g4, .int .i64 g5]) := HB0.out.heap (K9 _ (Nat.ne_of_lt LT_HB0_HV6.out)); have HF : Hid (Byt w6 (.slice fo T fc) Z) := byt_nob HF.out NB_HV6.out K9; have NB_HV6 : Hid (NoB w6 w4.heap.size) := (by rw [E9.out]; exact NB_HV6.out.set HV6.out rfl (pg9_nob _ _ _ _ _ _ _ _ _ _ _ _ _)); have HV6 : Hid (Vr w6 w4.heap.size Z9) := ⟨R9, T9⟩; have BB : Hid (Below w.heap.size w w6) := BB.out.trans (B9.mono LE_HV6.out); clear hb0_0 hb0_1 hb0_2 hb0_3 hb0_4 hb0_5; have hb0_0 := HB0.out.cell 0 _ rfl; have hb0_1 := HB0.out.cell 1 _ rfl; have hb0_2 := HB0.out.cell 2 _ rfl; have hb0_3 := HB0.out.cell 3 _ rfl; have hb0_4 := HB0.out.cell 4 _ rfl; have hb0_5 := HB0.out.cell 5 _ rfl; clear E9 R9 T9 B9 K9; clear t5; have t6 : (1 : Nat) = 1 := rfl)
      | (have q4 := t4; (with_reducible refine at_alloc ?_); refine new_lawN _ Z9 zero_page (pg9_nob _ _ _ _ _ _ _ _ _ _ _ _ _) ?_; intro w5 X9 N9 B9; have LT_HB0_HV6 : Hid (w.heap.size < w4.heap.size) := range_lt HB0.out.1 (Nat.succ_pos _); have LE_HV6 : Hid (w.heap.size ≤ w4.heap.size) := BB.out.size; have HB0 : Hid (Vr w5 w.heap.size [.int .i64 g0, .int .i64 g1, .int .i64 (S : Int), .int .i64 g3, .int .i64 g4, .int .i64 g5]) := HB0.out.below B9 (range_lt HB0.out.1 (Nat.succ_pos _)); have HF : Hid (Byt w5 (.slice fo T fc) Z) := HF.out.below B9; have HV6 : Hid (Vr w5 w4.heap.size Z9) := X9; have NB_HV6 : Hid (NoB w5 w4.heap.size) := N9; have BB : Hid (Below w.heap.size w w5) := BB.out.trans (B9.mono BB.out.size); clear hb0_0 hb0_1 hb0_2 hb0_3 hb0_4 hb0_5; have hb0_0 := HB0.out.cell 0 _ rfl; have hb0_1 := HB0.out.cell 1 _ rfl; have hb0_2 := HB0.out.cell 2 _ rfl; have hb0_3 := HB0.out.cell 3 _ rfl; have hb0_4 := HB0.out.cell 4 _ rfl; have hb0_5 := HB0.out.cell 5 _ rfl; clear X9 N9 B9; clear t4; have t5 : (1 : Nat) = 1 := rfl)
      | (have q3 := t3; go_at_call 15; refine (SR.out w3 (.slice fo T fc) BB.out HF.out).mono ?_; rintro e9 w4 ⟨rfl, B9⟩; have HB0 : Hid (Vr w4 w.heap.size [.int .i64 g0, .int .i64 g1, .int .i64 (S : Int), .int .i64 g3, .int .i64 g4, .int .i64 g5]) := HB0.out.below B9 (range_lt HB0.out.1 (Nat.succ_pos _)); have HF : Hid (Byt w4 (.slice fo T fc) Z) := HF.out.below B9; have BB : Hid (Below w.heap.size w w4) := BB.out.trans (B9.mono BB.out.size); clear hb0_0 hb0_1 hb0_2 hb0_3 hb0_4 hb0_5; have hb0_0 := HB0.out.cell 0 _ rfl; have hb0_1 := HB0.out.cell 1 _ rfl; have hb0_2 := HB0.out.cell 2 _ rfl; have hb0_3 := HB0.out.cell 3 _ rfl; have hb0_4 := HB0.out.cell 4 _ rfl; have hb0_5 := HB0.out.cell 5 _ rfl; clear B9; clear t3; have t4 : (1 : Nat) = 1 := rfl)
      | (have q2 := t2; go_at_call 18; refine (SF.out w2).mono ?_; rintro e9 w3 ⟨fo, fc, rfl, Y9, B9⟩; have HB0 : Hid (Vr w3 w.heap.size [.int .i64 g0, .int .i64 g1, .int .i64 (S : Int), .int .i64 g3, .int .i64 g4, .int .i64 g5]) := HB0.out.below B9 (range_lt HB0.out.1 (Nat.succ_pos _)); have HF : Hid (Byt w3 (.slice fo T fc) Z) := Y9; have BB : Hid (Below w.heap.size w w3) := BB.out.trans (B9.mono BB.out.size); clear hb0_0 hb0_1 hb0_2 hb0_3 hb0_4 hb0_5; have hb0_0 := HB0.out.cell 0 _ rfl; have hb0_1 := HB0.out.cell 1 _ rfl; have hb0_2 := HB0.out.cell 2 _ rfl; have hb0_3 := HB0.out.cell 3 _ rfl; have hb0_4 := HB0.out.cell 4 _ rfl; have hb0_5 := HB0.out.cell 5 _ rfl; clear B9 Y9; clear t2; have t3 : (1 : Nat) = 1 := rfl)
      | (have q1 := t1; go_at_call 9; refine (SG.out w1).mono ?_; rintro e9 w2 ⟨rfl, B9⟩; have HB0 : Hid (Vr w2 w.heap.size [.int .i64 g0, .int .i64 g1, .int .i64 (S : Int), .int .i64 g3, .int .i64 g4, .int .i64 g5]) := HB0.out.below B9 (range_lt HB0.out.1 (Nat.succ_pos _)); have BB : Hid (Below w.heap.size w w2) := BB.out.trans (B9.mono BB.out.size); clear hb0_0 hb0_1 hb0_2 hb0_3 hb0_4 hb0_5; have hb0_0 := HB0.out.cell 0 _ rfl; have hb0_1 := HB0.out.cell 1 _ rfl; have hb0_2 := HB0.out.cell 2 _ rfl; have hb0_3 := HB0.out.cell 3 _ rfl; have hb0_4 := HB0.out.cell 4 _ rfl; have hb0_5 := HB0.out.cell 5 _ rfl; clear B9; clear t1; have t2 : (1 : Nat) = 1 := rfl)
      | (have q0 := t0; refine box_lawC _ [.int .i64 g0, .int .i64 g1, .int .i64 (S : Int), .int .i64 g3, .int .i64 g4, .int .i64 g5] rfl ?_; intro w1 X9 B9 l9; have HB0 : Hid (Vr w1 w.heap.size [.int .i64 g0, .int .i64 g1, .int .i64 (S : Int), .int .i64 g3, .int .i64 g4, .int .i64 g5]) := X9; have BB : Hid (Below w.heap.size w w1) := B9; have hb0_0 := HB0.out.cell 0 _ rfl; have hb0_1 := HB0.out.cell 1 _ rfl; have hb0_2 := HB0.out.cell 2 _ rfl; have hb0_3 := HB0.out.cell 3 _ rfl; have hb0_4 := HB0.out.cell 4 _ rfl; have hb0_5 := HB0.out.cell 5 _ rfl; clear X9 B9 l9; clear t0; have t1 : (1 : Nat) = 1 := rfl))
    go_ret
    exact ⟨rfl, BB.out⟩
  · have SG : Hid (∀ w0, Calls Tryd.prog 9 #[.agg (ints .i64 [g0, g1, g2, g3, g4, g5])] w0 fun x w' => x = .returned (.bool false) ∧ Below w0.heap.size w0 w') := ge.right_no [g0, g1, g2, g3, g4, g5] rfl hr
    clear hr hT hg
    have t0 : (0 : Nat) = 0 := rfl
    go_enter Tryd.func6, Tryd.ntmps6
    go_wp2_with (first
      | (have q2 := t2; go_at_call 10; refine (awake_any w2 (HT.out.below BB.out)).mono ?_; rintro e9 w3 ⟨rfl, B9⟩; have HB0 : Hid (Vr w3 w.heap.size [.int .i64 g0, .int .i64 g1, .int .i64 g2, .int .i64 g3, .int .i64 g4, .int .i64 g5]) := HB0.out.below B9 (range_lt HB0.out.1 (Nat.succ_pos _)); have BB : Hid (Below w.heap.size w w3) := BB.out.trans (B9.mono BB.out.size); clear hb0_0 hb0_1 hb0_2 hb0_3 hb0_4 hb0_5; have hb0_0 := HB0.out.cell 0 _ rfl; have hb0_1 := HB0.out.cell 1 _ rfl; have hb0_2 := HB0.out.cell 2 _ rfl; have hb0_3 := HB0.out.cell 3 _ rfl; have hb0_4 := HB0.out.cell 4 _ rfl; have hb0_5 := HB0.out.cell 5 _ rfl; clear B9; clear t2; have t3 : (1 : Nat) = 1 := rfl)
      | (have q1 := t1; go_at_call 9; refine (SG.out w1).mono ?_; rintro e9 w2 ⟨rfl, B9⟩; have HB0 : Hid (Vr w2 w.heap.size [.int .i64 g0, .int .i64 g1, .int .i64 g2, .int .i64 g3, .int .i64 g4, .int .i64 g5]) := HB0.out.below B9 (range_lt HB0.out.1 (Nat.succ_pos _)); have BB : Hid (Below w.heap.size w w2) := BB.out.trans (B9.mono BB.out.size); clear hb0_0 hb0_1 hb0_2 hb0_3 hb0_4 hb0_5; have hb0_0 := HB0.out.cell 0 _ rfl; have hb0_1 := HB0.out.cell 1 _ rfl; have hb0_2 := HB0.out.cell 2 _ rfl; have hb0_3 := HB0.out.cell 3 _ rfl; have hb0_4 := HB0.out.cell 4 _ rfl; have hb0_5 := HB0.out.cell 5 _ rfl; clear B9; clear t1; have t2 : (1 : Nat) = 1 := rfl)
      | (have q0 := t0; refine box_lawC _ [.int .i64 g0, .int .i64 g1, .int .i64 g2, .int .i64 g3, .int .i64 g4, .int .i64 g5] rfl ?_; intro w1 X9 B9 l9; have HB0 : Hid (Vr w1 w.heap.size [.int .i64 g0, .int .i64 g1, .int .i64 g2, .int .i64 g3, .int .i64 g4, .int .i64 g5]) := X9; have BB : Hid (Below w.heap.size w w1) := B9; have hb0_0 := HB0.out.cell 0 _ rfl; have hb0_1 := HB0.out.cell 1 _ rfl; have hb0_2 := HB0.out.cell 2 _ rfl; have hb0_3 := HB0.out.cell 3 _ rfl; have hb0_4 := HB0.out.cell 4 _ rfl; have hb0_5 := HB0.out.cell 5 _ rfl; clear X9 B9 l9; clear t0; have t1 : (1 : Nat) = 1 := rfl))
    go_ret
    exact ⟨rfl, BB.out⟩

theorem params : ∀ t ∈ Tryd.f6.params.toList, Tryd.prog.readableRec t = true ∧ t < Tryd.prog.types.size := by
  rw [Tryd.params6]
  intro t ht
  simp at ht
  rcases ht with rfl | rfl
  · exact ⟨by kernel_rfl, of_decide_eq_true (by kernel_rfl)⟩
  · exact ⟨by kernel_rfl, of_decide_eq_true (by kernel_rfl)⟩

theorem contract (H : Type) (enc : TypeId × Value → H) (W : World) (base : Nat) (args : Array Value) (ds gs : List (DataW H)) (before : List MemPlace)
    (hval : ∀ (j : Nat) t v, Tryd.f6.params[j]? = some t → args[j]? = some v → Value.okWide Tryd.prog W .any base t v)
    (hW : DataW.Whole enc Tryd.prog Tryd.f6.params.toList Rows.pageBlankSpec.vars false W args.toList ds gs before) (hL : laidMetH Tryd.prog Rows.pageBlankRow.laid W) :
    Calls Tryd.prog 6 args W fun e W' => ∃ v, e = .returned v ∧ Rows.pageBlankSpec.post enc Tryd.prog Tryd.f6 false true false false W args v W' := by
  have hW' := hW
  obtain ⟨p, q, hA0, hV, rfl, hfz, hnd⟩ := hW
  have hA : DataW.TrodAll enc Tryd.prog W 0 (fun _ => true) true Tryd.f6.params.toList args.toList ds p := hA0
  rw [Tryd.params6] at hA hval
  obtain ⟨v0, v1, d0, d1, p0, p1, rfl, rfl, rfl, h0, h1⟩ := trodAll_two hA
  obtain ⟨rfl, rfl⟩ := trodVars_none hV
  obtain ⟨g0, rfl, n0⟩ := ge.geo_open (hval 0 23 v0 rfl rfl) h0
  obtain ⟨x1, rfl, rfl, rfl, w1⟩ := open_int Tryd.underlying3 (hval 1 3 v1 rfl rfl) h1
  clear hA0
  refine (walk g0 x1 W n0 (bounds_i64 w1) (table hL)).mono fun e W' ⟨he, hg⟩ => ?_
  subst he
  exact ⟨_, rfl, post_law rfl (by kernel_rfl) params rfl rfl rfl hW' hg⟩

theorem laid_met (os : Os) : laidMet Tryd.prog Rows.pageBlankRow.laid (({ World.holding Tryd.prog os ⟨#[], #[], []⟩ with heap := (World.holding Tryd.prog os ⟨#[], #[], []⟩).heap.modify 0 fun | .cells _ t frozen => .cells #[.int .i64 1, .int .i64 1, .int .i64 1, .int .i64 1, .int .i64 4, .int .i64 8, .int .i64 8] t frozen | o => o } : World).forCall (fun _ _ => 0) ⟨#[], #[.agg #[.int .i64 0, .int .i64 0, .int .i64 0, .int .i64 0, .int .i64 0, .int .i64 0], .int .i64 0], []⟩).memory :=
  laidMet_of_run' 8 (by kernel_rfl) (by kernel_rfl)
theorem reads (os : Os) {H : Type} (enc : TypeId × Value → H) : ∃ places, DataW.whole enc Tryd.prog (({ World.holding Tryd.prog os ⟨#[], #[], []⟩ with heap := (World.holding Tryd.prog os ⟨#[], #[], []⟩).heap.modify 0 fun | .cells _ t frozen => .cells #[.int .i64 1, .int .i64 1, .int .i64 1, .int .i64 1, .int .i64 4, .int .i64 8, .int .i64 8] t frozen | o => o } : World).forCall (fun _ _ => 0) ⟨#[], #[.agg #[.int .i64 0, .int .i64 0, .int .i64 0, .int .i64 0, .int .i64 0, .int .i64 0], .int .i64 0], []⟩).memory Tryd.f6.params.toList Rows.pageBlankSpec.vars false #[Value.agg #[.int .i64 0, .int .i64 0, .int .i64 0, .int .i64 0, .int .i64 0, .int .i64 0], Value.int .i64 0].toList 8 = some ([.agg [.lit (.int .i64 0), .lit (.int .i64 0), .lit (.int .i64 0), .lit (.int .i64 0), .lit (.int .i64 0), .lit (.int .i64 0)], .lit (.int .i64 0)], [], places) :=
  ⟨[], by kernel_rfl⟩

set_option maxRecDepth 100000 in
theorem lifted (os : Os) (started : os.Started) (H : Type) (enc : TypeId × Value → H) (F : Stop.Interp) :
    ReturnsInHanded {} Tryd.checked os 6 .any ((OpenSpec.ofChange Rows.pageBlankSpec).preRow enc Tryd.prog Tryd.f6 Rows.pageBlankRow.domain false Rows.pageBlankRow.laid) (((OpenSpec.ofChange Rows.pageBlankSpec).at F).post enc Tryd.prog Tryd.f6 false true false false) := by
  obtain ⟨places, hx⟩ := reads os enc
  refine returnsInHanded_of_row (C := Tryd.checked) (s := OpenSpec.ofChange Rows.pageBlankSpec) own started (by kernel_rfl) Tryd.func6
    (witness_row_at (enc := enc) (C := Tryd.checked) false ({ World.holding Tryd.prog os ⟨#[], #[], []⟩ with heap := (World.holding Tryd.prog os ⟨#[], #[], []⟩).heap.modify 0 fun | .cells _ t frozen => .cells #[.int .i64 1, .int .i64 1, .int .i64 1, .int .i64 1, .int .i64 4, .int .i64 8, .int .i64 8] t frozen | o => o } : World) #[.agg #[.int .i64 0, .int .i64 0, .int .i64 0, .int .i64 0, .int .i64 0, .int .i64 0], .int .i64 0] rfl (by kernel_rfl) (by kernel_rfl) (by kernel_rfl)
      (OpenSpec.preRow_of_cond 8 hx (by kernel_rfl) (fun k hk => by cases hk) (by kernel_rfl) (laid_met os))) ?_
  intro W base args ds gs before hval hW _ _ _ hL _ _
  exact contract H enc W base args ds gs before hval hW hL

theorem said : Rows.PageBlankSaid :=
  OpenClaim.holds_of_cond 6 Tryd.f6 rfl rfl rfl rfl rfl rfl rfl ⟨rfl, rfl, rfl, rfl, rfl⟩ rfl rfl rfl rfl rfl (by kernel_rfl) Tryd.func6 (by kernel_rfl)
    (of_decide_eq_true (by kernel_rfl)) (by unfold Func.isWrapper; first | (rw [if_pos (by decide +kernel)]; kernel_rfl) | (rw [if_neg (by decide +kernel)]; exact ⟨rfl, rfl⟩))
    (fun os started H enc _ F => by rw [OpenClaim.pre_eq_preRow]; exact lifted os started H enc F)

theorem plain (f : FuncId) (fn : Func) (hf : Tryd.pinned.checked.prog.funcNamed "nepenthe/nepenthelaw15.PageBlank" = some f) (hfn : Tryd.pinned.checked.prog.funcs[f]? = some fn) :
    false = Tryd.pinned.checked.prog.looks [] ∧ ∀ (j : Nat) t, fn.params[j]? = some t → Tryd.pinned.checked.prog.wantsStandIn t = false := by
  obtain rfl : f = 6 := Option.some.inj ((show Tryd.prog.funcNamed "nepenthe/nepenthelaw15.PageBlank" = some 6 by kernel_rfl).symm.trans hf) |>.symm
  obtain rfl : fn = Tryd.f6 := (Option.some.inj (Tryd.func6.symm.trans hfn)).symm
  refine ⟨by kernel_rfl, fun j t ht => ?_⟩
  rw [Tryd.params6] at ht
  have hm := Array.mem_of_getElem? ht
  simp at hm
  rcases hm with rfl | rfl
  · exact (show Tryd.prog.wantsStandIn 23 = false by kernel_rfl)
  · exact (show Tryd.prog.wantsStandIn 3 = false by kernel_rfl)
end Go.Proofs.YtpmakkjcpoillaaDoor.pageBlank

namespace Go.Proofs.YtpmakkjcpoillaaDoor
theorem pageBlank_card : Rows.PageBlankCardSaid :=
  Claim7.holds_tied_plain_at .later [] _ _ _ _ pageBlank.said (fun _ h => by cases h) (by kernel_rfl) (fun _ h => by cases h) pageBlank_row_tie rfl ⟨rfl, rfl⟩ (by kernel_rfl) rfl pageBlank.plain (by kernel_rfl)
#print axioms pageBlank_card
end Go.Proofs.YtpmakkjcpoillaaDoor
