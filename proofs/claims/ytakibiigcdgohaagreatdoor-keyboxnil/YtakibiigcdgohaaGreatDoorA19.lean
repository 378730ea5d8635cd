/- Parts of the proof: what KeyboxNil reaches. No claim of its own. -/
import Derived.Lib.AppendZeros
import Derived.Lib.SliceRun
import Derived.Deep.RegionHeld3
import Derived.Deep.DeepCutAuto
import Derived.Laws.StructEq
import Derived.WalkKit
import Derived.WalkSmall
import Derived.ProofKit
import Derived.OpenShut
import Derived.BigQuiet
import Derived.Deep.QuietTactic
import Derived.Deep.WholeRow
import Derived.Deep.MidRow
import Derived.Laws.AppendOwnNone
import Derived.Deep.DeepHandedRow
import Derived.Lib.LaidTab
import Derived.Deep.Matrix
import Derived.ArgAppend
import Derived.Lib.MakeNoZero
import Derived.Test.YtakibiigcdgohaaGreatDoorA00
import Derived.Test.YtakibiigcdgohaaGreatDoorA01
import Derived.Test.YtakibiigcdgohaaGreatDoorA02
import Derived.Test.YtakibiigcdgohaaGreatDoorA03
import Derived.Test.YtakibiigcdgohaaGreatDoorA04
import Derived.Test.YtakibiigcdgohaaGreatDoorA05
import Derived.Test.YtakibiigcdgohaaGreatDoorA06
import Derived.Test.YtakibiigcdgohaaGreatDoorA07
import Derived.Test.YtakibiigcdgohaaGreatDoorA08
import Derived.Test.YtakibiigcdgohaaGreatDoorA09
import Derived.Test.YtakibiigcdgohaaGreatDoorA10
import Derived.Test.YtakibiigcdgohaaGreatDoorA11
import Derived.Test.YtakibiigcdgohaaGreatDoorA12
import Derived.Test.YtakibiigcdgohaaGreatDoorA13
import Derived.Test.YtakibiigcdgohaaGreatDoorA14
import Derived.Test.YtakibiigcdgohaaGreatDoorA15
import Derived.Test.YtakibiigcdgohaaGreatDoorA16
import Derived.Test.YtakibiigcdgohaaGreatDoorA17
import Derived.Test.YtakibiigcdgohaaGreatDoorA18
namespace Go.Proofs.YtakibiigcdgohaaGreatDoor.pa
open Go.RowKit Go.Proofs.YtakibiigcdgohaaGreatDoor.fa Go.Proofs.YtakibiigcdgohaaGreatDoor.he
set_option maxRecDepth 20000
set_option maxHeartbeats 4000000 in
theorem done_err (g0 g1 g2 g3 g4 g5 : Int) (v : Value) (kd : Int) (w : World) (E : Int) (hE : E ≠ 0) (hR : ∀ w0, Below w.heap.size w w0 → Calls Tryz.prog 81 #[.agg (ints .i64 [g0, g1, g2, g3, g4, g5]), v] w0 fun x w' => x = .returned (.tuple #[.agg Z9.toArray, .int .i64 E]) ∧ Below w0.heap.size w0 w') :
    Calls Tryz.prog 80 #[.agg (ints .i64 [g0, g1, g2, g3, g4, g5]), v, .int .i64 kd] w fun x w' => x = .returned (.tuple #[.agg Z9.toArray, .bool false]) ∧ Below w.heap.size w w' := by
  have SR : Hid (∀ w0, Below w.heap.size w w0 → Calls Tryz.prog 81 #[.agg (ints .i64 [g0, g1, g2, g3, g4, g5]), v] w0 fun x w' => x = .returned (.tuple #[.agg Z9.toArray, .int .i64 E]) ∧ Below w0.heap.size w0 w') := hR
  have n0 : (E != 0) = true := bne_iff_ne.2 hE
  clear hR hE
  have t0 : (0 : Nat) = 0 := rfl
  go_enter Tryz.func80, Tryz.ntmps80
  go_wp2_with (first
    | (have q6 := t6; (with_reducible refine at_store ?_); refine store_lawC _ Z9 w1.heap.size 0 rfl rfl HV6.out.2 rowy_page.2 (pg9_one _ _ _ _ _ _ _ _ _ _ _ _ _) ?_; intro w6 E9 R9 T9 B9; have K9 : ∀ k, k ≠ w1.heap.size → w6.heap[k]? = w5.heap[k]? := (by rw [E9.out]; exact fun k hk => heap_cells _ _ _ _ k hk); have HB0 : Hid (Vr w6 w.heap.size [.int .i64 g0, .int .i64 g1, .int .i64 g2, .int .i64 g3, .int .i64 g4, .int .i64 g5]) := HB0.out.heap (K9 _ (Nat.ne_of_lt LT_HB0_HV6.out)); have NB_HV8 : Hid (NoB w6 w3.heap.size) := NB_HV8.out.heap (K9 _ (Nat.ne_of_gt LT_HV6_HV8.out)); have HV8 : Hid (Vr w6 w3.heap.size Z9) := HV8.out.heap (K9 _ (Nat.ne_of_gt LT_HV6_HV8.out)); have NB_HV6 : Hid (NoB w6 w1.heap.size) := (by rw [E9.out]; exact NB_HV6.out.set HV6.out rfl (pg9_nob _ _ _ _ _ _ _ _ _ _ _ _ _)); have HV6 : Hid (Vr w6 w1.heap.size Z9) := ⟨R9, T9⟩; have BB : Hid (Below w.heap.size w w6) := BB.out.trans (B9.mono LE_HV6.out); clear hb0_0 hb0_1 hb0_2 hb0_3 hb0_4 hb0_5; have hb0_0 := HB0.out.cell 0 _ rfl; have hb0_1 := HB0.out.cell 1 _ rfl; have hb0_2 := HB0.out.cell 2 _ rfl; have hb0_3 := HB0.out.cell 3 _ rfl; have hb0_4 := HB0.out.cell 4 _ rfl; have hb0_5 := HB0.out.cell 5 _ rfl; clear E9 R9 T9 B9 K9; clear t6; have t7 : (1 : Nat) = 1 := rfl)
    | (have q5 := t5; refine build_law _ rfl 152 _ rfl (.agg Z9.toArray) (by kernel_rfl) ?_; clear t5; have t6 : (1 : Nat) = 1 := rfl)
    | (have q4 := t4; (with_reducible refine at_store ?_); refine store_lawC _ Z9 w3.heap.size 0 rfl rfl HV8.out.2 rowy_page.2 (pg9_one _ _ _ _ _ _ _ _ _ _ _ _ _) ?_; intro w5 E9 R9 T9 B9; have K9 : ∀ k, k ≠ w3.heap.size → w5.heap[k]? = w4.heap[k]? := (by rw [E9.out]; exact fun k hk => heap_cells _ _ _ _ k hk); have HB0 : Hid (Vr w5 w.heap.size [.int .i64 g0, .int .i64 g1, .int .i64 g2, .int .i64 g3, .int .i64 g4, .int .i64 g5]) := HB0.out.heap (K9 _ (Nat.ne_of_lt LT_HB0_HV8.out)); have NB_HV6 : Hid (NoB w5 w1.heap.size) := NB_HV6.out.heap (K9 _ (Nat.ne_of_lt LT_HV6_HV8.out)); have HV6 : Hid (Vr w5 w1.heap.size Z9) := HV6.out.heap (K9 _ (Nat.ne_of_lt LT_HV6_HV8.out)); have NB_HV8 : Hid (NoB w5 w3.heap.size) := (by rw [E9.out]; exact NB_HV8.out.set HV8.out rfl (pg9_nob _ _ _ _ _ _ _ _ _ _ _ _ _)); have HV8 : Hid (Vr w5 w3.heap.size Z9) := ⟨R9, T9⟩; have BB : Hid (Below w.heap.size w w5) := BB.out.trans (B9.mono LE_HV8.out); clear hb0_0 hb0_1 hb0_2 hb0_3 hb0_4 hb0_5; have hb0_0 := HB0.out.cell 0 _ rfl; have hb0_1 := HB0.out.cell 1 _ rfl; have hb0_2 := HB0.out.cell 2 _ rfl; have hb0_3 := HB0.out.cell 3 _ rfl; have hb0_4 := HB0.out.cell 4 _ rfl; have hb0_5 := HB0.out.cell 5 _ rfl; clear E9 R9 T9 B9 K9; clear t4; have t5 : (1 : Nat) = 1 := rfl)
    | (have q3 := t3; (with_reducible refine at_alloc ?_); refine new_lawN _ Z9 zero_page (pg9_nob _ _ _ _ _ _ _ _ _ _ _ _ _) ?_; intro w4 X9 N9 B9; have LT_HB0_HV8 : Hid (w.heap.size < w3.heap.size) := range_lt HB0.out.1 (Nat.succ_pos _); have LT_HV6_HV8 : Hid (w1.heap.size < w3.heap.size) := range_lt HV6.out.1 (Nat.succ_pos _); have LE_HV8 : Hid (w.heap.size ≤ w3.heap.size) := BB.out.size; have HB0 : Hid (Vr w4 w.heap.size [.int .i64 g0, .int .i64 g1, .int .i64 g2, .int .i64 g3, .int .i64 g4, .int .i64 g5]) := HB0.out.below B9 (range_lt HB0.out.1 (Nat.succ_pos _)); have NB_HV6 : Hid (NoB w4 w1.heap.size) := NB_HV6.out.heap (B9.block _ (range_lt HV6.out.1 (Nat.succ_pos _))); have HV6 : Hid (Vr w4 w1.heap.size Z9) := HV6.out.below B9 (range_lt HV6.out.1 (Nat.succ_pos _)); have HV8 : Hid (Vr w4 w3.heap.size Z9) := X9; have NB_HV8 : Hid (NoB w4 w3.heap.size) := N9; have BB : Hid (Below w.heap.size w w4) := BB.out.trans (B9.mono BB.out.size); clear hb0_0 hb0_1 hb0_2 hb0_3 hb0_4 hb0_5; have hb0_0 := HB0.out.cell 0 _ rfl; have hb0_1 := HB0.out.cell 1 _ rfl; have hb0_2 := HB0.out.cell 2 _ rfl; have hb0_3 := HB0.out.cell 3 _ rfl; have hb0_4 := HB0.out.cell 4 _ rfl; have hb0_5 := HB0.out.cell 5 _ rfl; clear X9 N9 B9; clear t3; have t4 : (1 : Nat) = 1 := rfl)
    | (have q2 := t2; go_at_call 81; refine (SR.out w2 BB.out).mono ?_; rintro e9 w3 ⟨rfl, B9⟩; have HB0 : Hid (Vr w3 w.heap.size [.int .i64 g0, .int .i64 g1, .int .i64 g2, .int .i64 g3, .int .i64 g4, .int .i64 g5]) := HB0.out.below B9 (range_lt HB0.out.1 (Nat.succ_pos _)); have NB_HV6 : Hid (NoB w3 w1.heap.size) := NB_HV6.out.heap (B9.block _ (range_lt HV6.out.1 (Nat.succ_pos _))); have HV6 : Hid (Vr w3 w1.heap.size Z9) := HV6.out.below B9 (range_lt HV6.out.1 (Nat.succ_pos _)); have BB : Hid (Below w.heap.size w w3) := BB.out.trans (B9.mono BB.out.size); clear hb0_0 hb0_1 hb0_2 hb0_3 hb0_4 hb0_5; have hb0_0 := HB0.out.cell 0 _ rfl; have hb0_1 := HB0.out.cell 1 _ rfl; have hb0_2 := HB0.out.cell 2 _ rfl; have hb0_3 := HB0.out.cell 3 _ rfl; have hb0_4 := HB0.out.cell 4 _ rfl; have hb0_5 := HB0.out.cell 5 _ rfl; clear B9; clear t2; have t3 : (1 : Nat) = 1 := rfl)
    | (have q1 := t1; (with_reducible refine at_alloc ?_); refine new_lawN _ Z9 zero_page (pg9_nob _ _ _ _ _ _ _ _ _ _ _ _ _) ?_; intro w2 X9 N9 B9; have LT_HB0_HV6 : Hid (w.heap.size < w1.heap.size) := range_lt HB0.out.1 (Nat.succ_pos _); have LE_HV6 : Hid (w.heap.size ≤ w1.heap.size) := BB.out.size; have HB0 : Hid (Vr w2 w.heap.size [.int .i64 g0, .int .i64 g1, .int .i64 g2, .int .i64 g3, .int .i64 g4, .int .i64 g5]) := HB0.out.below B9 (range_lt HB0.out.1 (Nat.succ_pos _)); have HV6 : Hid (Vr w2 w1.heap.size Z9) := X9; have NB_HV6 : Hid (NoB w2 w1.heap.size) := N9; have BB : Hid (Below w.heap.size w w2) := BB.out.trans (B9.mono BB.out.size); clear hb0_0 hb0_1 hb0_2 hb0_3 hb0_4 hb0_5; have hb0_0 := HB0.out.cell 0 _ rfl; have hb0_1 := HB0.out.cell 1 _ rfl; have hb0_2 := HB0.out.cell 2 _ rfl; have hb0_3 := HB0.out.cell 3 _ rfl; have hb0_4 := HB0.out.cell 4 _ rfl; have hb0_5 := HB0.out.cell 5 _ rfl; clear X9 N9 B9; clear t1; have t2 : (1 : Nat) = 1 := rfl)
    | (have q0 := t0; refine box_lawC _ [.int .i64 g0, .int .i64 g1, .int .i64 g2, .int .i64 g3, .int .i64 g4, .int .i64 g5] rfl ?_; intro w1 X9 B9 l9; have HB0 : Hid (Vr w1 w.heap.size [.int .i64 g0, .int .i64 g1, .int .i64 g2, .int .i64 g3, .int .i64 g4, .int .i64 g5]) := X9; have BB : Hid (Below w.heap.size w w1) := B9; have hb0_0 := HB0.out.cell 0 _ rfl; have hb0_1 := HB0.out.cell 1 _ rfl; have hb0_2 := HB0.out.cell 2 _ rfl; have hb0_3 := HB0.out.cell 3 _ rfl; have hb0_4 := HB0.out.cell 4 _ rfl; have hb0_5 := HB0.out.cell 5 _ rfl; clear X9 B9 l9; clear t0; have t1 : (1 : Nat) = 1 := rfl))
  exact bodyPost_ret (v := .tuple #[.agg Z9.toArray, .bool false]) (results_cv rfl _ _ w1.heap.size _ _ rowy_page rfl rfl HV6.out.1) rfl ⟨rfl, BB.out⟩
set_option maxHeartbeats 4000000 in
theorem done_un0 (g0 g1 g3 g4 g5 : Int) (S : Nat) (v : Value) (kd : Int) (w : World) (k n c l e t : Int) (D : Bool) (Q U : List Int) (hD : D = false) (hR : ∀ w0, Below w.heap.size w w0 → Calls Tryz.prog 81 #[.agg (ints .i64 [g0, g1, (S : Int), g3, g4, g5]), v] w0 fun x w' => ∃ po pc uo uc, x = .returned (.tuple #[.agg (pg9 k n c l e t (.slice po S pc) (.slice uo 32 uc) D).toArray, .int .i64 0]) ∧ Byt w' (.slice po S pc) Q ∧ Byt w' (.slice uo 32 uc) U ∧ Below w0.heap.size w0 w') :
    Calls Tryz.prog 80 #[.agg (ints .i64 [g0, g1, (S : Int), g3, g4, g5]), v, .int .i64 kd] w fun x w' => x = .returned (.tuple #[.agg Z9.toArray, .bool false]) ∧ Below w.heap.size w w' := by
  subst hD
  have SR : Hid (∀ w0, Below w.heap.size w w0 → Calls Tryz.prog 81 #[.agg (ints .i64 [g0, g1, (S : Int), g3, g4, g5]), v] w0 fun x w' => ∃ po pc uo uc, x = .returned (.tuple #[.agg (pg9 k n c l e t (.slice po S pc) (.slice uo 32 uc) false).toArray, .int .i64 0]) ∧ Byt w' (.slice po S pc) Q ∧ Byt w' (.slice uo 32 uc) U ∧ Below w0.heap.size w0 w') := hR
  clear hR
  have t0 : (0 : Nat) = 0 := rfl
  go_enter Tryz.func80, Tryz.ntmps80
  go_wp2_with (first
    | (have q6 := t6; (with_reducible refine at_store ?_); refine store_lawC _ Z9 w1.heap.size 0 rfl rfl HV6.out.2 rowy_page.2 (pg9_one _ _ _ _ _ _ _ _ _ _ _ _ _) ?_; intro w6 E9 R9 T9 B9; have K9 : ∀ k, k ≠ w1.heap.size → w6.heap[k]? = w5.heap[k]? := (by rw [E9.out]; exact fun k hk => heap_cells _ _ _ _ k hk); have HB0 : Hid (Vr w6 w.heap.size [.int .i64 g0, .int .i64 g1, .int .i64 (S : Int), .int .i64 g3, .int .i64 g4, .int .i64 g5]) := HB0.out.heap (K9 _ (Nat.ne_of_lt LT_HB0_HV6.out)); have HP : Hid (Byt w6 (.slice po S pc) Q) := byt_nob HP.out NB_HV6.out K9; have HY : Hid (Byt w6 (.slice uo 32 uc) U) := byt_nob HY.out NB_HV6.out K9; have NB_HV8 : Hid (NoB w6 w3.heap.size) := NB_HV8.out.heap (K9 _ (Nat.ne_of_gt LT_HV6_HV8.out)); have HV8 : Hid (Vr w6 w3.heap.size (pg9 k n c l e t (.slice po S pc) (.slice uo 32 uc) false)) := HV8.out.heap (K9 _ (Nat.ne_of_gt LT_HV6_HV8.out)); have NB_HV6 : Hid (NoB w6 w1.heap.size) := (by rw [E9.out]; exact NB_HV6.out.set HV6.out rfl (pg9_nob _ _ _ _ _ _ _ _ _ _ _ _ _)); have HV6 : Hid (Vr w6 w1.heap.size Z9) := ⟨R9, T9⟩; have BB : Hid (Below w.heap.size w w6) := BB.out.trans (B9.mono LE_HV6.out); clear hb0_0 hb0_1 hb0_2 hb0_3 hb0_4 hb0_5 hv8_0 hv8_1 hv8_2 hv8_3 hv8_4 hv8_5 hv8_6 hv8_7 hv8_8; have hb0_0 := HB0.out.cell 0 _ rfl; have hb0_1 := HB0.out.cell 1 _ rfl; have hb0_2 := HB0.out.cell 2 _ rfl; have hb0_3 := HB0.out.cell 3 _ rfl; have hb0_4 := HB0.out.cell 4 _ rfl; have hb0_5 := HB0.out.cell 5 _ rfl; have hv8_0 := HV8.out.cell 0 _ rfl; have hv8_1 := HV8.out.cell 1 _ rfl; have hv8_2 := HV8.out.cell 2 _ rfl; have hv8_3 := HV8.out.cell 3 _ rfl; have hv8_4 := HV8.out.cell 4 _ rfl; have hv8_5 := HV8.out.cell 5 _ rfl; have hv8_6 := HV8.out.cell 6 _ rfl; have hv8_7 := HV8.out.cell 7 _ rfl; have hv8_8 := HV8.out.cell 8 _ rfl; clear E9 R9 T9 B9 K9; clear t6; have t7 : (1 : Nat) = 1 := rfl)
    | (have q5 := t5; refine build_law _ rfl 152 _ rfl (.agg Z9.toArray) (by kernel_rfl) ?_; clear t5; have t6 : (1 : Nat) = 1 := rfl)
    | (have q4 := t4; (with_reducible refine at_store ?_); refine store_lawC _ (pg9 k n c l e t (.slice po S pc) (.slice uo 32 uc) false) w3.heap.size 0 rfl rfl HV8.out.2 rowy_page.2 (pg9_one _ _ _ _ _ _ _ _ _ _ _ _ _) ?_; intro w5 E9 R9 T9 B9; have K9 : ∀ k, k ≠ w3.heap.size → w5.heap[k]? = w4.heap[k]? := (by rw [E9.out]; exact fun k hk => heap_cells _ _ _ _ k hk); have HB0 : Hid (Vr w5 w.heap.size [.int .i64 g0, .int .i64 g1, .int .i64 (S : Int), .int .i64 g3, .int .i64 g4, .int .i64 g5]) := HB0.out.heap (K9 _ (Nat.ne_of_lt LT_HB0_HV8.out)); have NB_HV6 : Hid (NoB w5 w1.heap.size) := NB_HV6.out.heap (K9 _ (Nat.ne_of_lt LT_HV6_HV8.out)); have HV6 : Hid (Vr w5 w1.heap.size Z9) := HV6.out.heap (K9 _ (Nat.ne_of_lt LT_HV6_HV8.out)); have HP : Hid (Byt w5 (.slice po S pc) Q) := byt_nob HP.out NB_HV8.out K9; have HY : Hid (Byt w5 (.slice uo 32 uc) U) := byt_nob HY.out NB_HV8.out K9; have NB_HV8 : Hid (NoB w5 w3.heap.size) := (by rw [E9.out]; exact NB_HV8.out.set HV8.out rfl (pg9_nob _ _ _ _ _ _ _ _ _ _ _ _ _)); have HV8 : Hid (Vr w5 w3.heap.size (pg9 k n c l e t (.slice po S pc) (.slice uo 32 uc) false)) := ⟨R9, T9⟩; have BB : Hid (Below w.heap.size w w5) := BB.out.trans (B9.mono LE_HV8.out); clear hb0_0 hb0_1 hb0_2 hb0_3 hb0_4 hb0_5; have hb0_0 := HB0.out.cell 0 _ rfl; have hb0_1 := HB0.out.cell 1 _ rfl; have hb0_2 := HB0.out.cell 2 _ rfl; have hb0_3 := HB0.out.cell 3 _ rfl; have hb0_4 := HB0.out.cell 4 _ rfl; have hb0_5 := HB0.out.cell 5 _ rfl; have hv8_0 := HV8.out.cell 0 _ rfl; have hv8_1 := HV8.out.cell 1 _ rfl; have hv8_2 := HV8.out.cell 2 _ rfl; have hv8_3 := HV8.out.cell 3 _ rfl; have hv8_4 := HV8.out.cell 4 _ rfl; have hv8_5 := HV8.out.cell 5 _ rfl; have hv8_6 := HV8.out.cell 6 _ rfl; have hv8_7 := HV8.out.cell 7 _ rfl; have hv8_8 := HV8.out.cell 8 _ rfl; clear E9 R9 T9 B9 K9; clear t4; have t5 : (1 : Nat) = 1 := rfl)
    | (have q3 := t3; (with_reducible refine at_alloc ?_); refine new_lawN _ Z9 zero_page (pg9_nob _ _ _ _ _ _ _ _ _ _ _ _ _) ?_; intro w4 X9 N9 B9; have LT_HB0_HV8 : Hid (w.heap.size < w3.heap.size) := range_lt HB0.out.1 (Nat.succ_pos _); have LT_HV6_HV8 : Hid (w1.heap.size < w3.heap.size) := range_lt HV6.out.1 (Nat.succ_pos _); have LE_HV8 : Hid (w.heap.size ≤ w3.heap.size) := BB.out.size; have HB0 : Hid (Vr w4 w.heap.size [.int .i64 g0, .int .i64 g1, .int .i64 (S : Int), .int .i64 g3, .int .i64 g4, .int .i64 g5]) := HB0.out.below B9 (range_lt HB0.out.1 (Nat.succ_pos _)); have NB_HV6 : Hid (NoB w4 w1.heap.size) := NB_HV6.out.heap (B9.block _ (range_lt HV6.out.1 (Nat.succ_pos _))); have HV6 : Hid (Vr w4 w1.heap.size Z9) := HV6.out.below B9 (range_lt HV6.out.1 (Nat.succ_pos _)); have HP : Hid (Byt w4 (.slice po S pc) Q) := HP.out.below B9; have HY : Hid (Byt w4 (.slice uo 32 uc) U) := HY.out.below B9; have HV8 : Hid (Vr w4 w3.heap.size Z9) := X9; have NB_HV8 : Hid (NoB w4 w3.heap.size) := N9; have BB : Hid (Below w.heap.size w w4) := BB.out.trans (B9.mono BB.out.size); clear hb0_0 hb0_1 hb0_2 hb0_3 hb0_4 hb0_5; have hb0_0 := HB0.out.cell 0 _ rfl; have hb0_1 := HB0.out.cell 1 _ rfl; have hb0_2 := HB0.out.cell 2 _ rfl; have hb0_3 := HB0.out.cell 3 _ rfl; have hb0_4 := HB0.out.cell 4 _ rfl; have hb0_5 := HB0.out.cell 5 _ rfl; clear X9 N9 B9; clear t3; have t4 : (1 : Nat) = 1 := rfl)
    | (have q2 := t2; go_at_call 81; refine (SR.out w2 BB.out).mono ?_; rintro e9 w3 ⟨po, pc, uo, uc, rfl, Y8, Y9, B9⟩; have HB0 : Hid (Vr w3 w.heap.size [.int .i64 g0, .int .i64 g1, .int .i64 (S : Int), .int .i64 g3, .int .i64 g4, .int .i64 g5]) := HB0.out.below B9 (range_lt HB0.out.1 (Nat.succ_pos _)); have NB_HV6 : Hid (NoB w3 w1.heap.size) := NB_HV6.out.heap (B9.block _ (range_lt HV6.out.1 (Nat.succ_pos _))); have HV6 : Hid (Vr w3 w1.heap.size Z9) := HV6.out.below B9 (range_lt HV6.out.1 (Nat.succ_pos _)); have HP : Hid (Byt w3 (.slice po S pc) Q) := Y8; have HY : Hid (Byt w3 (.slice uo 32 uc) U) := Y9; have BB : Hid (Below w.heap.size w w3) := BB.out.trans (B9.mono BB.out.size); clear hb0_0 hb0_1 hb0_2 hb0_3 hb0_4 hb0_5; have hb0_0 := HB0.out.cell 0 _ rfl; have hb0_1 := HB0.out.cell 1 _ rfl; have hb0_2 := HB0.out.cell 2 _ rfl; have hb0_3 := HB0.out.cell 3 _ rfl; have hb0_4 := HB0.out.cell 4 _ rfl; have hb0_5 := HB0.out.cell 5 _ rfl; clear B9 Y8 Y9; clear t2; have t3 : (1 : Nat) = 1 := rfl)
    | (have q1 := t1; (with_reducible refine at_alloc ?_); refine new_lawN _ Z9 zero_page (pg9_nob _ _ _ _ _ _ _ _ _ _ _ _ _) ?_; intro w2 X9 N9 B9; have LT_HB0_HV6 : Hid (w.heap.size < w1.heap.size) := range_lt HB0.out.1 (Nat.succ_pos _); have LE_HV6 : Hid (w.heap.size ≤ w1.heap.size) := BB.out.size; have HB0 : Hid (Vr w2 w.heap.size [.int .i64 g0, .int .i64 g1, .int .i64 (S : Int), .int .i64 g3, .int .i64 g4, .int .i64 g5]) := HB0.out.below B9 (range_lt HB0.out.1 (Nat.succ_pos _)); have HV6 : Hid (Vr w2 w1.heap.size Z9) := X9; have NB_HV6 : Hid (NoB w2 w1.heap.size) := N9; have BB : Hid (Below w.heap.size w w2) := BB.out.trans (B9.mono BB.out.size); clear hb0_0 hb0_1 hb0_2 hb0_3 hb0_4 hb0_5; have hb0_0 := HB0.out.cell 0 _ rfl; have hb0_1 := HB0.out.cell 1 _ rfl; have hb0_2 := HB0.out.cell 2 _ rfl; have hb0_3 := HB0.out.cell 3 _ rfl; have hb0_4 := HB0.out.cell 4 _ rfl; have hb0_5 := HB0.out.cell 5 _ rfl; clear X9 N9 B9; clear t1; have t2 : (1 : Nat) = 1 := rfl)
    | (have q0 := t0; refine box_lawC _ [.int .i64 g0, .int .i64 g1, .int .i64 (S : Int), .int .i64 g3, .int .i64 g4, .int .i64 g5] rfl ?_; intro w1 X9 B9 l9; have HB0 : Hid (Vr w1 w.heap.size [.int .i64 g0, .int .i64 g1, .int .i64 (S : Int), .int .i64 g3, .int .i64 g4, .int .i64 g5]) := X9; have BB : Hid (Below w.heap.size w w1) := B9; have hb0_0 := HB0.out.cell 0 _ rfl; have hb0_1 := HB0.out.cell 1 _ rfl; have hb0_2 := HB0.out.cell 2 _ rfl; have hb0_3 := HB0.out.cell 3 _ rfl; have hb0_4 := HB0.out.cell 4 _ rfl; have hb0_5 := HB0.out.cell 5 _ rfl; clear X9 B9 l9; clear t0; have t1 : (1 : Nat) = 1 := rfl))
  exact bodyPost_ret (v := .tuple #[.agg Z9.toArray, .bool false]) (results_cv rfl _ _ w1.heap.size _ _ rowy_page rfl rfl HV6.out.1) rfl ⟨rfl, BB.out⟩
set_option maxHeartbeats 4000000 in
theorem done_un1 (g0 g1 g3 g4 g5 : Int) (S : Nat) (v : Value) (kd : Int) (w : World) (k n c l e t : Int) (D : Bool) (Q U : List Int) (hD : D = true) (hk : k ≠ kd) (hR : ∀ w0, Below w.heap.size w w0 → Calls Tryz.prog 81 #[.agg (ints .i64 [g0, g1, (S : Int), g3, g4, g5]), v] w0 fun x w' => ∃ po pc uo uc, x = .returned (.tuple #[.agg (pg9 k n c l e t (.slice po S pc) (.slice uo 32 uc) D).toArray, .int .i64 0]) ∧ Byt w' (.slice po S pc) Q ∧ Byt w' (.slice uo 32 uc) U ∧ Below w0.heap.size w0 w') :
    Calls Tryz.prog 80 #[.agg (ints .i64 [g0, g1, (S : Int), g3, g4, g5]), v, .int .i64 kd] w fun x w' => x = .returned (.tuple #[.agg Z9.toArray, .bool false]) ∧ Below w.heap.size w w' := by
  subst hD
  have n1 : (k != kd) = true := bne_iff_ne.2 hk
  clear hk
  have SR : Hid (∀ w0, Below w.heap.size w w0 → Calls Tryz.prog 81 #[.agg (ints .i64 [g0, g1, (S : Int), g3, g4, g5]), v] w0 fun x w' => ∃ po pc uo uc, x = .returned (.tuple #[.agg (pg9 k n c l e t (.slice po S pc) (.slice uo 32 uc) true).toArray, .int .i64 0]) ∧ Byt w' (.slice po S pc) Q ∧ Byt w' (.slice uo 32 uc) U ∧ Below w0.heap.size w0 w') := hR
  clear hR
  have t0 : (0 : Nat) = 0 := rfl
  go_enter Tryz.func80, Tryz.ntmps80
  go_wp2_with (first
    | (have q6 := t6; (with_reducible refine at_store ?_); refine store_lawC _ Z9 w1.heap.size 0 rfl rfl HV6.out.2 rowy_page.2 (pg9_one _ _ _ _ _ _ _ _ _ _ _ _ _) ?_; intro w6 E9 R9 T9 B9; have K9 : ∀ k, k ≠ w1.heap.size → w6.heap[k]? = w5.heap[k]? := (by rw [E9.out]; exact fun k hk => heap_cells _ _ _ _ k hk); have HB0 : Hid (Vr w6 w.heap.size [.int .i64 g0, .int .i64 g1, .int .i64 (S : Int), .int .i64 g3, .int .i64 g4, .int .i64 g5]) := HB0.out.heap (K9 _ (Nat.ne_of_lt LT_HB0_HV6.out)); have HP : Hid (Byt w6 (.slice po S pc) Q) := byt_nob HP.out NB_HV6.out K9; have HY : Hid (Byt w6 (.slice uo 32 uc) U) := byt_nob HY.out NB_HV6.out K9; have NB_HV8 : Hid (NoB w6 w3.heap.size) := NB_HV8.out.heap (K9 _ (Nat.ne_of_gt LT_HV6_HV8.out)); have HV8 : Hid (Vr w6 w3.heap.size (pg9 k n c l e t (.slice po S pc) (.slice uo 32 uc) true)) := HV8.out.heap (K9 _ (Nat.ne_of_gt LT_HV6_HV8.out)); have NB_HV6 : Hid (NoB w6 w1.heap.size) := (by rw [E9.out]; exact NB_HV6.out.set HV6.out rfl (pg9_nob _ _ _ _ _ _ _ _ _ _ _ _ _)); have HV6 : Hid (Vr w6 w1.heap.size Z9) := ⟨R9, T9⟩; have BB : Hid (Below w.heap.size w w6) := BB.out.trans (B9.mono LE_HV6.out); clear hb0_0 hb0_1 hb0_2 hb0_3 hb0_4 hb0_5 hv8_0 hv8_1 hv8_2 hv8_3 hv8_4 hv8_5 hv8_6 hv8_7 hv8_8; have hb0_0 := HB0.out.cell 0 _ rfl; have hb0_1 := HB0.out.cell 1 _ rfl; have hb0_2 := HB0.out.cell 2 _ rfl; have hb0_3 := HB0.out.cell 3 _ rfl; have hb0_4 := HB0.out.cell 4 _ rfl; have hb0_5 := HB0.out.cell 5 _ rfl; have hv8_0 := HV8.out.cell 0 _ rfl; have hv8_1 := HV8.out.cell 1 _ rfl; have hv8_2 := HV8.out.cell 2 _ rfl; have hv8_3 := HV8.out.cell 3 _ rfl; have hv8_4 := HV8.out.cell 4 _ rfl; have hv8_5 := HV8.out.cell 5 _ rfl; have hv8_6 := HV8.out.cell 6 _ rfl; have hv8_7 := HV8.out.cell 7 _ rfl; have hv8_8 := HV8.out.cell 8 _ rfl; clear E9 R9 T9 B9 K9; clear t6; have t7 : (1 : Nat) = 1 := rfl)
    | (have q5 := t5; refine build_law _ rfl 152 _ rfl (.agg Z9.toArray) (by kernel_rfl) ?_; clear t5; have t6 : (1 : Nat) = 1 := rfl)
    | (have q4 := t4; (with_reducible refine at_store ?_); refine store_lawC _ (pg9 k n c l e t (.slice po S pc) (.slice uo 32 uc) true) w3.heap.size 0 rfl rfl HV8.out.2 rowy_page.2 (pg9_one _ _ _ _ _ _ _ _ _ _ _ _ _) ?_; intro w5 E9 R9 T9 B9; have K9 : ∀ k, k ≠ w3.heap.size → w5.heap[k]? = w4.heap[k]? := (by rw [E9.out]; exact fun k hk => heap_cells _ _ _ _ k hk); have HB0 : Hid (Vr w5 w.heap.size [.int .i64 g0, .int .i64 g1, .int .i64 (S : Int), .int .i64 g3, .int .i64 g4, .int .i64 g5]) := HB0.out.heap (K9 _ (Nat.ne_of_lt LT_HB0_HV8.out)); have NB_HV6 : Hid (NoB w5 w1.heap.size) := NB_HV6.out.heap (K9 _ (Nat.ne_of_lt LT_HV6_HV8.out)); have HV6 : Hid (Vr w5 w1.heap.size Z9) := HV6.out.heap (K9 _ (Nat.ne_of_lt LT_HV6_HV8.out)); have HP : Hid (Byt w5 (.slice po S pc) Q) := byt_nob HP.out NB_HV8.out K9; have HY : Hid (Byt w5 (.slice uo 32 uc) U) := byt_nob HY.out NB_HV8.out K9; have NB_HV8 : Hid (NoB w5 w3.heap.size) := (by rw [E9.out]; exact NB_HV8.out.set HV8.out rfl (pg9_nob _ _ _ _ _ _ _ _ _ _ _ _ _)); have HV8 : Hid (Vr w5 w3.heap.size (pg9 k n c l e t (.slice po S pc) (.slice uo 32 uc) true)) := ⟨R9, T9⟩; have BB : Hid (Below w.heap.size w w5) := BB.out.trans (B9.mono LE_HV8.out); clear hb0_0 hb0_1 hb0_2 hb0_3 hb0_4 hb0_5; have hb0_0 := HB0.out.cell 0 _ rfl; have hb0_1 := HB0.out.cell 1 _ rfl; have hb0_2 := HB0.out.cell 2 _ rfl; have hb0_3 := HB0.out.cell 3 _ rfl; have hb0_4 := HB0.out.cell 4 _ rfl; have hb0_5 := HB0.out.cell 5 _ rfl; have hv8_0 := HV8.out.cell 0 _ rfl; have hv8_1 := HV8.out.cell 1 _ rfl; have hv8_2 := HV8.out.cell 2 _ rfl; have hv8_3 := HV8.out.cell 3 _ rfl; have hv8_4 := HV8.out.cell 4 _ rfl; have hv8_5 := HV8.out.cell 5 _ rfl; have hv8_6 := HV8.out.cell 6 _ rfl; have hv8_7 := HV8.out.cell 7 _ rfl; have hv8_8 := HV8.out.cell 8 _ rfl; clear E9 R9 T9 B9 K9; clear t4; have t5 : (1 : Nat) = 1 := rfl)
    | (have q3 := t3; (with_reducible refine at_alloc ?_); refine new_lawN _ Z9 zero_page (pg9_nob _ _ _ _ _ _ _ _ _ _ _ _ _) ?_; intro w4 X9 N9 B9; have LT_HB0_HV8 : Hid (w.heap.size < w3.heap.size) := range_lt HB0.out.1 (Nat.succ_pos _); have LT_HV6_HV8 : Hid (w1.heap.size < w3.heap.size) := range_lt HV6.out.1 (Nat.succ_pos _); have LE_HV8 : Hid (w.heap.size ≤ w3.heap.size) := BB.out.size; have HB0 : Hid (Vr w4 w.heap.size [.int .i64 g0, .int .i64 g1, .int .i64 (S : Int), .int .i64 g3, .int .i64 g4, .int .i64 g5]) := HB0.out.below B9 (range_lt HB0.out.1 (Nat.succ_pos _)); have NB_HV6 : Hid (NoB w4 w1.heap.size) := NB_HV6.out.heap (B9.block _ (range_lt HV6.out.1 (Nat.succ_pos _))); have HV6 : Hid (Vr w4 w1.heap.size Z9) := HV6.out.below B9 (range_lt HV6.out.1 (Nat.succ_pos _)); have HP : Hid (Byt w4 (.slice po S pc) Q) := HP.out.below B9; have HY : Hid (Byt w4 (.slice uo 32 uc) U) := HY.out.below B9; have HV8 : Hid (Vr w4 w3.heap.size Z9) := X9; have NB_HV8 : Hid (NoB w4 w3.heap.size) := N9; have BB : Hid (Below w.heap.size w w4) := BB.out.trans (B9.mono BB.out.size); clear hb0_0 hb0_1 hb0_2 hb0_3 hb0_4 hb0_5; have hb0_0 := HB0.out.cell 0 _ rfl; have hb0_1 := HB0.out.cell 1 _ rfl; have hb0_2 := HB0.out.cell 2 _ rfl; have hb0_3 := HB0.out.cell 3 _ rfl; have hb0_4 := HB0.out.cell 4 _ rfl; have hb0_5 := HB0.out.cell 5 _ rfl; clear X9 N9 B9; clear t3; have t4 : (1 : Nat) = 1 := rfl)
    | (have q2 := t2; go_at_call 81; refine (SR.out w2 BB.out).mono ?_; rintro e9 w3 ⟨po, pc, uo, uc, rfl, Y8, Y9, B9⟩; have HB0 : Hid (Vr w3 w.heap.size [.int .i64 g0, .int .i64 g1, .int .i64 (S : Int), .int .i64 g3, .int .i64 g4, .int .i64 g5]) := HB0.out.below B9 (range_lt HB0.out.1 (Nat.succ_pos _)); have NB_HV6 : Hid (NoB w3 w1.heap.size) := NB_HV6.out.heap (B9.block _ (range_lt HV6.out.1 (Nat.succ_pos _))); have HV6 : Hid (Vr w3 w1.heap.size Z9) := HV6.out.below B9 (range_lt HV6.out.1 (Nat.succ_pos _)); have HP : Hid (Byt w3 (.slice po S pc) Q) := Y8; have HY : Hid (Byt w3 (.slice uo 32 uc) U) := Y9; have BB : Hid (Below w.heap.size w w3) := BB.out.trans (B9.mono BB.out.size); clear hb0_0 hb0_1 hb0_2 hb0_3 hb0_4 hb0_5; have hb0_0 := HB0.out.cell 0 _ rfl; have hb0_1 := HB0.out.cell 1 _ rfl; have hb0_2 := HB0.out.cell 2 _ rfl; have hb0_3 := HB0.out.cell 3 _ rfl; have hb0_4 := HB0.out.cell 4 _ rfl; have hb0_5 := HB0.out.cell 5 _ rfl; clear B9 Y8 Y9; clear t2; have t3 : (1 : Nat) = 1 := rfl)
    | (have q1 := t1; (with_reducible refine at_alloc ?_); refine new_lawN _ Z9 zero_page (pg9_nob _ _ _ _ _ _ _ _ _ _ _ _ _) ?_; intro w2 X9 N9 B9; have LT_HB0_HV6 : Hid (w.heap.size < w1.heap.size) := range_lt HB0.out.1 (Nat.succ_pos _); have LE_HV6 : Hid (w.heap.size ≤ w1.heap.size) := BB.out.size; have HB0 : Hid (Vr w2 w.heap.size [.int .i64 g0, .int .i64 g1, .int .i64 (S : Int), .int .i64 g3, .int .i64 g4, .int .i64 g5]) := HB0.out.below B9 (range_lt HB0.out.1 (Nat.succ_pos _)); have HV6 : Hid (Vr w2 w1.heap.size Z9) := X9; have NB_HV6 : Hid (NoB w2 w1.heap.size) := N9; have BB : Hid (Below w.heap.size w w2) := BB.out.trans (B9.mono BB.out.size); clear hb0_0 hb0_1 hb0_2 hb0_3 hb0_4 hb0_5; have hb0_0 := HB0.out.cell 0 _ rfl; have hb0_1 := HB0.out.cell 1 _ rfl; have hb0_2 := HB0.out.cell 2 _ rfl; have hb0_3 := HB0.out.cell 3 _ rfl; have hb0_4 := HB0.out.cell 4 _ rfl; have hb0_5 := HB0.out.cell 5 _ rfl; clear X9 N9 B9; clear t1; have t2 : (1 : Nat) = 1 := rfl)
    | (have q0 := t0; refine box_lawC _ [.int .i64 g0, .int .i64 g1, .int .i64 (S : Int), .int .i64 g3, .int .i64 g4, .int .i64 g5] rfl ?_; intro w1 X9 B9 l9; have HB0 : Hid (Vr w1 w.heap.size [.int .i64 g0, .int .i64 g1, .int .i64 (S : Int), .int .i64 g3, .int .i64 g4, .int .i64 g5]) := X9; have BB : Hid (Below w.heap.size w w1) := B9; have hb0_0 := HB0.out.cell 0 _ rfl; have hb0_1 := HB0.out.cell 1 _ rfl; have hb0_2 := HB0.out.cell 2 _ rfl; have hb0_3 := HB0.out.cell 3 _ rfl; have hb0_4 := HB0.out.cell 4 _ rfl; have hb0_5 := HB0.out.cell 5 _ rfl; clear X9 B9 l9; clear t0; have t1 : (1 : Nat) = 1 := rfl))
  exact bodyPost_ret (v := .tuple #[.agg Z9.toArray, .bool false]) (results_cv rfl _ _ w1.heap.size _ _ rowy_page rfl rfl HV6.out.1) rfl ⟨rfl, BB.out⟩
set_option maxHeartbeats 4000000 in
theorem done_ok (g0 g1 g3 g4 g5 : Int) (S : Nat) (v : Value) (kd : Int) (w : World) (k n c l e t : Int) (D : Bool) (Q U : List Int) (hD : D = true) (hk : k = kd) (hR : ∀ w0, Below w.heap.size w w0 → Calls Tryz.prog 81 #[.agg (ints .i64 [g0, g1, (S : Int), g3, g4, g5]), v] w0 fun x w' => ∃ po pc uo uc, x = .returned (.tuple #[.agg (pg9 k n c l e t (.slice po S pc) (.slice uo 32 uc) D).toArray, .int .i64 0]) ∧ Byt w' (.slice po S pc) Q ∧ Byt w' (.slice uo 32 uc) U ∧ Below w0.heap.size w0 w') :
    Calls Tryz.prog 80 #[.agg (ints .i64 [g0, g1, (S : Int), g3, g4, g5]), v, .int .i64 kd] w fun x w' => ∃ po pc uo uc, x = .returned (.tuple #[.agg (pg9 k n c l e t (.slice po S pc) (.slice uo 32 uc) true).toArray, .bool true]) ∧ Byt w' (.slice po S pc) Q ∧ Byt w' (.slice uo 32 uc) U ∧ Below w.heap.size w w' := by
  subst hD
  subst hk
  have SR : Hid (∀ w0, Below w.heap.size w w0 → Calls Tryz.prog 81 #[.agg (ints .i64 [g0, g1, (S : Int), g3, g4, g5]), v] w0 fun x w' => ∃ po pc uo uc, x = .returned (.tuple #[.agg (pg9 k n c l e t (.slice po S pc) (.slice uo 32 uc) true).toArray, .int .i64 0]) ∧ Byt w' (.slice po S pc) Q ∧ Byt w' (.slice uo 32 uc) U ∧ Below w0.heap.size w0 w') := hR
  clear hR
  have t0 : (0 : Nat) = 0 := rfl
  go_enter Tryz.func80, Tryz.ntmps80
  go_wp2_with (first
    | (have q5 := t5; (with_reducible refine at_store ?_); refine store_lawC _ (pg9 k n c l e t (.slice po S pc) (.slice uo 32 uc) true) w1.heap.size 0 rfl rfl HV6.out.2 rowy_page.2 (pg9_one _ _ _ _ _ _ _ _ _ _ _ _ _) ?_; intro w6 E9 R9 T9 B9; have K9 : ∀ k, k ≠ w1.heap.size → w6.heap[k]? = w5.heap[k]? := (by rw [E9.out]; exact fun k hk => heap_cells _ _ _ _ k hk); have HB0 : Hid (Vr w6 w.heap.size [.int .i64 g0, .int .i64 g1, .int .i64 (S : Int), .int .i64 g3, .int .i64 g4, .int .i64 g5]) := HB0.out.heap (K9 _ (Nat.ne_of_lt LT_HB0_HV6.out)); have HP : Hid (Byt w6 (.slice po S pc) Q) := byt_nob HP.out NB_HV6.out K9; have HY : Hid (Byt w6 (.slice uo 32 uc) U) := byt_nob HY.out NB_HV6.out K9; have NB_HV8 : Hid (NoB w6 w3.heap.size) := NB_HV8.out.heap (K9 _ (Nat.ne_of_gt LT_HV6_HV8.out)); have HV8 : Hid (Vr w6 w3.heap.size (pg9 k n c l e t (.slice po S pc) (.slice uo 32 uc) true)) := HV8.out.heap (K9 _ (Nat.ne_of_gt LT_HV6_HV8.out)); have NB_HV6 : Hid (NoB w6 w1.heap.size) := (by rw [E9.out]; exact NB_HV6.out.set HV6.out rfl (pg9_nob _ _ _ _ _ _ _ _ _ _ _ _ _)); have HV6 : Hid (Vr w6 w1.heap.size (pg9 k n c l e t (.slice po S pc) (.slice uo 32 uc) true)) := ⟨R9, T9⟩; have BB : Hid (Below w.heap.size w w6) := BB.out.trans (B9.mono LE_HV6.out); clear hb0_0 hb0_1 hb0_2 hb0_3 hb0_4 hb0_5 hv8_0 hv8_1 hv8_2 hv8_3 hv8_4 hv8_5 hv8_6 hv8_7 hv8_8; have hb0_0 := HB0.out.cell 0 _ rfl; have hb0_1 := HB0.out.cell 1 _ rfl; have hb0_2 := HB0.out.cell 2 _ rfl; have hb0_3 := HB0.out.cell 3 _ rfl; have hb0_4 := HB0.out.cell 4 _ rfl; have hb0_5 := HB0.out.cell 5 _ rfl; have hv8_0 := HV8.out.cell 0 _ rfl; have hv8_1 := HV8.out.cell 1 _ rfl; have hv8_2 := HV8.out.cell 2 _ rfl; have hv8_3 := HV8.out.cell 3 _ rfl; have hv8_4 := HV8.out.cell 4 _ rfl; have hv8_5 := HV8.out.cell 5 _ rfl; have hv8_6 := HV8.out.cell 6 _ rfl; have hv8_7 := HV8.out.cell 7 _ rfl; have hv8_8 := HV8.out.cell 8 _ rfl; clear E9 R9 T9 B9 K9; clear t5; have t6 : (1 : Nat) = 1 := rfl)
    | (have q4 := t4; (with_reducible refine at_store ?_); refine store_lawC _ (pg9 k n c l e t (.slice po S pc) (.slice uo 32 uc) true) w3.heap.size 0 rfl rfl HV8.out.2 rowy_page.2 (pg9_one _ _ _ _ _ _ _ _ _ _ _ _ _) ?_; intro w5 E9 R9 T9 B9; have K9 : ∀ k, k ≠ w3.heap.size → w5.heap[k]? = w4.heap[k]? := (by rw [E9.out]; exact fun k hk => heap_cells _ _ _ _ k hk); have HB0 : Hid (Vr w5 w.heap.size [.int .i64 g0, .int .i64 g1, .int .i64 (S : Int), .int .i64 g3, .int .i64 g4, .int .i64 g5]) := HB0.out.heap (K9 _ (Nat.ne_of_lt LT_HB0_HV8.out)); have NB_HV6 : Hid (NoB w5 w1.heap.size) := NB_HV6.out.heap (K9 _ (Nat.ne_of_lt LT_HV6_HV8.out)); have HV6 : Hid (Vr w5 w1.heap.size Z9) := HV6.out.heap (K9 _ (Nat.ne_of_lt LT_HV6_HV8.out)); have HP : Hid (Byt w5 (.slice po S pc) Q) := byt_nob HP.out NB_HV8.out K9; have HY : Hid (Byt w5 (.slice uo 32 uc) U) := byt_nob HY.out NB_HV8.out K9; have NB_HV8 : Hid (NoB w5 w3.heap.size) := (by rw [E9.out]; exact NB_HV8.out.set HV8.out rfl (pg9_nob _ _ _ _ _ _ _ _ _ _ _ _ _)); have HV8 : Hid (Vr w5 w3.heap.size (pg9 k n c l e t (.slice po S pc) (.slice uo 32 uc) true)) := ⟨R9, T9⟩; have BB : Hid (Below w.heap.size w w5) := BB.out.trans (B9.mono LE_HV8.out); clear hb0_0 hb0_1 hb0_2 hb0_3 hb0_4 hb0_5; have hb0_0 := HB0.out.cell 0 _ rfl; have hb0_1 := HB0.out.cell 1 _ rfl; have hb0_2 := HB0.out.cell 2 _ rfl; have hb0_3 := HB0.out.cell 3 _ rfl; have hb0_4 := HB0.out.cell 4 _ rfl; have hb0_5 := HB0.out.cell 5 _ rfl; have hv8_0 := HV8.out.cell 0 _ rfl; have hv8_1 := HV8.out.cell 1 _ rfl; have hv8_2 := HV8.out.cell 2 _ rfl; have hv8_3 := HV8.out.cell 3 _ rfl; have hv8_4 := HV8.out.cell 4 _ rfl; have hv8_5 := HV8.out.cell 5 _ rfl; have hv8_6 := HV8.out.cell 6 _ rfl; have hv8_7 := HV8.out.cell 7 _ rfl; have hv8_8 := HV8.out.cell 8 _ rfl; clear E9 R9 T9 B9 K9; clear t4; have t5 : (1 : Nat) = 1 := rfl)
    | (have q3 := t3; (with_reducible refine at_alloc ?_); refine new_lawN _ Z9 zero_page (pg9_nob _ _ _ _ _ _ _ _ _ _ _ _ _) ?_; intro w4 X9 N9 B9; have LT_HB0_HV8 : Hid (w.heap.size < w3.heap.size) := range_lt HB0.out.1 (Nat.succ_pos _); have LT_HV6_HV8 : Hid (w1.heap.size < w3.heap.size) := range_lt HV6.out.1 (Nat.succ_pos _); have LE_HV8 : Hid (w.heap.size ≤ w3.heap.size) := BB.out.size; have HB0 : Hid (Vr w4 w.heap.size [.int .i64 g0, .int .i64 g1, .int .i64 (S : Int), .int .i64 g3, .int .i64 g4, .int .i64 g5]) := HB0.out.below B9 (range_lt HB0.out.1 (Nat.succ_pos _)); have NB_HV6 : Hid (NoB w4 w1.heap.size) := NB_HV6.out.heap (B9.block _ (range_lt HV6.out.1 (Nat.succ_pos _))); have HV6 : Hid (Vr w4 w1.heap.size Z9) := HV6.out.below B9 (range_lt HV6.out.1 (Nat.succ_pos _)); have HP : Hid (Byt w4 (.slice po S pc) Q) := HP.out.below B9; have HY : Hid (Byt w4 (.slice uo 32 uc) U) := HY.out.below B9; have HV8 : Hid (Vr w4 w3.heap.size Z9) := X9; have NB_HV8 : Hid (NoB w4 w3.heap.size) := N9; have BB : Hid (Below w.heap.size w w4) := BB.out.trans (B9.mono BB.out.size); clear hb0_0 hb0_1 hb0_2 hb0_3 hb0_4 hb0_5; have hb0_0 := HB0.out.cell 0 _ rfl; have hb0_1 := HB0.out.cell 1 _ rfl; have hb0_2 := HB0.out.cell 2 _ rfl; have hb0_3 := HB0.out.cell 3 _ rfl; have hb0_4 := HB0.out.cell 4 _ rfl; have hb0_5 := HB0.out.cell 5 _ rfl; clear X9 N9 B9; clear t3; have t4 : (1 : Nat) = 1 := rfl)
    | (have q2 := t2; go_at_call 81; refine (SR.out w2 BB.out).mono ?_; rintro e9 w3 ⟨po, pc, uo, uc, rfl, Y8, Y9, B9⟩; have HB0 : Hid (Vr w3 w.heap.size [.int .i64 g0, .int .i64 g1, .int .i64 (S : Int), .int .i64 g3, .int .i64 g4, .int .i64 g5]) := HB0.out.below B9 (range_lt HB0.out.1 (Nat.succ_pos _)); have NB_HV6 : Hid (NoB w3 w1.heap.size) := NB_HV6.out.heap (B9.block _ (range_lt HV6.out.1 (Nat.succ_pos _))); have HV6 : Hid (Vr w3 w1.heap.size Z9) := HV6.out.below B9 (range_lt HV6.out.1 (Nat.succ_pos _)); have HP : Hid (Byt w3 (.slice po S pc) Q) := Y8; have HY : Hid (Byt w3 (.slice uo 32 uc) U) := Y9; have BB : Hid (Below w.heap.size w w3) := BB.out.trans (B9.mono BB.out.size); clear hb0_0 hb0_1 hb0_2 hb0_3 hb0_4 hb0_5; have hb0_0 := HB0.out.cell 0 _ rfl; have hb0_1 := HB0.out.cell 1 _ rfl; have hb0_2 := HB0.out.cell 2 _ rfl; have hb0_3 := HB0.out.cell 3 _ rfl; have hb0_4 := HB0.out.cell 4 _ rfl; have hb0_5 := HB0.out.cell 5 _ rfl; clear B9 Y8 Y9; clear t2; have t3 : (1 : Nat) = 1 := rfl)
    | (have q1 := t1; (with_reducible refine at_alloc ?_); refine new_lawN _ Z9 zero_page (pg9_nob _ _ _ _ _ _ _ _ _ _ _ _ _) ?_; intro w2 X9 N9 B9; have LT_HB0_HV6 : Hid (w.heap.size < w1.heap.size) := range_lt HB0.out.1 (Nat.succ_pos _); have LE_HV6 : Hid (w.heap.size ≤ w1.heap.size) := BB.out.size; have HB0 : Hid (Vr w2 w.heap.size [.int .i64 g0, .int .i64 g1, .int .i64 (S : Int), .int .i64 g3, .int .i64 g4, .int .i64 g5]) := HB0.out.below B9 (range_lt HB0.out.1 (Nat.succ_pos _)); have HV6 : Hid (Vr w2 w1.heap.size Z9) := X9; have NB_HV6 : Hid (NoB w2 w1.heap.size) := N9; have BB : Hid (Below w.heap.size w w2) := BB.out.trans (B9.mono BB.out.size); clear hb0_0 hb0_1 hb0_2 hb0_3 hb0_4 hb0_5; have hb0_0 := HB0.out.cell 0 _ rfl; have hb0_1 := HB0.out.cell 1 _ rfl; have hb0_2 := HB0.out.cell 2 _ rfl; have hb0_3 := HB0.out.cell 3 _ rfl; have hb0_4 := HB0.out.cell 4 _ rfl; have hb0_5 := HB0.out.cell 5 _ rfl; clear X9 N9 B9; clear t1; have t2 : (1 : Nat) = 1 := rfl)
    | (have q0 := t0; refine box_lawC _ [.int .i64 g0, .int .i64 g1, .int .i64 (S : Int), .int .i64 g3, .int .i64 g4, .int .i64 g5] rfl ?_; intro w1 X9 B9 l9; have HB0 : Hid (Vr w1 w.heap.size [.int .i64 g0, .int .i64 g1, .int .i64 (S : Int), .int .i64 g3, .int .i64 g4, .int .i64 g5]) := X9; have BB : Hid (Below w.heap.size w w1) := B9; have hb0_0 := HB0.out.cell 0 _ rfl; have hb0_1 := HB0.out.cell 1 _ rfl; have hb0_2 := HB0.out.cell 2 _ rfl; have hb0_3 := HB0.out.cell 3 _ rfl; have hb0_4 := HB0.out.cell 4 _ rfl; have hb0_5 := HB0.out.cell 5 _ rfl; clear X9 B9 l9; clear t0; have t1 : (1 : Nat) = 1 := rfl))
  exact bodyPost_ret (v := .tuple #[.agg (pg9 k n c l e t (.slice po S pc) (.slice uo 32 uc) true).toArray, .bool true]) (results_cv rfl _ _ w1.heap.size _ _ rowy_page rfl rfl HV6.out.1) rfl ⟨_, _, _, _, rfl, HP.out, HY.out, BB.out⟩
end Go.Proofs.YtakibiigcdgohaaGreatDoor.pa
namespace Go.Proofs.YtakibiigcdgohaaGreatDoor.ck
open Go.RowKit Go.Proofs.YtakibiigcdgohaaGreatDoor.fa Go.Proofs.YtakibiigcdgohaaGreatDoor.he Go.Proofs.YtakibiigcdgohaaGreatDoor.pa
set_option maxRecDepth 20000
theorem und_rows : Tryz.prog.underlying 68 = some (.slice (Tryz.prog.elem 68)) := by kernel_rfl
theorem elem_rows : Tryz.prog.elem 68 = 35 := by kernel_rfl
theorem run_size_rows (w : World) : (sizeOf 35).run Tryz.prog w = .ok 1 w := by kernel_rfl
theorem guard_head : Tryz.prog.eqGuardType Tryz.prog.depth 119 = false := by kernel_rfl
theorem neq_head (k n c l e t k' n' c' l' e' t' : Int) (w : World) : (binOp .neq 119 (.agg #[.int .i64 k, .int .i64 n, .int .i64 c, .int .u32 l, .int .u64 e, .int .u64 t]) (.agg #[.int .i64 k', .int .i64 n', .int .i64 c', .int .u32 l', .int .u64 e', .int .u64 t'])).run Tryz.prog w = .ok (.bool (!decide (k = k' ∧ n = n' ∧ c = c' ∧ l = l' ∧ e = e' ∧ t = t'))) w := by
  go_simp
  repeat' split
  all_goals simp [*]
section
variable {ev : Operand → Value} {o : Oper}
theorem exec_neqH (x y : Operand) (hop : o.op = Op.binOp .neq 119 x y 119) (k n c l e t k' n' c' l' e' t' : Int) (hx : ev x = .agg (hv k n c l e t).toArray) (hy : ev y = .agg (hv k' n' c' l' e' t').toArray) (b : Bool) (hb : (!decide (k = k' ∧ n = n' ∧ c = c' ∧ l = l' ∧ e = e' ∧ t = t')) = b) (w : World) : (execOp ev o).run Tryz.prog w = .ok (.value (.bool b)) w := by
  subst hb
  have z := neq_head k n c l e t k' n' c' l' e' t' w
  have hx' : ev x = .agg #[.int .i64 k, .int .i64 n, .int .i64 c, .int .u32 l, .int .u64 e, .int .u64 t] := hx
  have hy' : ev y = .agg #[.int .i64 k', .int .i64 n', .int .i64 c', .int .u32 l', .int .u64 e', .int .u64 t'] := hy
  unfold execOp
  simp only [hop, hx', hy', Sem.run_bind, Sem.run_pure, run_eqGuard_agg w .neq 119 x y _ _ guard_head, Result.andThen_ok, z]
theorem exec_idxR (x y : Operand) (hop : o.op = Op.indexAddr 68 x y) (b off n cap i : Nat) (hx : ev x = .slice (some ⟨b, off, none⟩) n cap) (hy : ev y = .int .i64 (i : Int)) (hi : i < n) (w : World) : (execOp ev o).run Tryz.prog w = .ok (.value (.pointer (some ⟨b, off + i, none⟩))) w := by
  have hr : (Instr.indexAt 68 (.slice (some ⟨b, off, none⟩) n cap) (.int .i64 (i : Int))).run Tryz.prog w = .ok (.pointer (some ⟨b, off + i, none⟩)) w := by
    rw [run_indexAt_slice _ _ _ _ _ _ _ und_rows, if_pos (by omega), elem_rows, run_size_rows]
    simp [Result.andThen, Addr.add]
  unfold execOp
  simp only [hop, hx, hy, Sem.run_bind, Sem.run_pure, Result.andThen_ok, hr]
theorem exec_hm (s x y : Operand) (hop : o.op = Op.slice 35 s none (some x) (some y)) (v : Value) (xs : List Int) (w0 : World) (hb : Byt w0 v xs) (h : Nat) (hs : ev s = v) (hx : ev x = .int .i64 (h : Int)) (hy : ev y = .int .i64 (h : Int)) (hh : h ≤ xs.length) (w : World) : (execOp ev o).run Tryz.prog w = .ok (.value (slm v 0 h)) w := by
  obtain ⟨ao, cap, rfl, h1, -⟩ := hb
  have hrun := run_slice_hm (P := Tryz.prog) w 35 ao xs.length cap und_bytes .i64 .i64 (h : Int) (h : Int) (by omega) (by omega) (by omega)
  rw [elem_bytes, run_size_u8] at hrun
  simp [execOp, hop, hs, hx, hy, run_sliceAt_slice w 35 _ _ _ _ und_bytes, hrun, Result.andThen, slm]
end
theorem run_rows_to (w : World) (b off n cap h : Nat) (hh : h ≤ cap) : (Instr.slice 68 (.slice (some ⟨b, off, none⟩) n cap) none (some (.int .i64 (h : Int))) none).run Tryz.prog w = .ok (.slice (some ⟨b, off, none⟩) h cap) w := by
  have hrun := run_slice_h (P := Tryz.prog) w 68 (some ⟨b, off, none⟩) n cap und_rows .i64 (h : Int) (by omega) (by omega)
  rw [elem_rows, run_size_rows] at hrun
  rw [hrun]
  simp [sliced, Result.andThen, Addr.add]
section
variable {ops : Array Oper} {rest : List Oper} {o : Oper} {a : Act} {Q : Exit → Act → World → Prop} {K : Act → World → Prop} {E : Prop}
theorem cut_toR (w : World) (hg : o.guard = none) (s x : Operand) (hop : o.op = Op.slice 68 s none (some x) none) (b off n cap h : Nat) (hs : a.eval s = .slice (some ⟨b, off, none⟩) n cap) (hx : a.eval x = .int .i64 (h : Int)) (hh : h ≤ cap)
    (hK : wpList Tryz.prog ops Q rest (a.put o.dst (.slice (some ⟨b, off, none⟩) h cap)) w) : wpList Tryz.prog ops Q (o :: rest) a w := by
  refine wpList_plain hg fun K hK' => ?_
  have hrun := run_rows_to w b off n cap h hh
  unfold Oper.wp
  simp [execOp, hop, hs, hx, run_sliceAt_slice w 68 _ _ _ _ und_rows, hrun, Result.andThen]
  exact hK' _ _ hK
end
end Go.Proofs.YtakibiigcdgohaaGreatDoor.ck
namespace Go.Proofs.YtakibiigcdgohaaGreatDoor.vb
open Go.RowKit Go.Proofs.YtakibiigcdgohaaGreatDoor.fa Go.Proofs.YtakibiigcdgohaaGreatDoor.he Go.Proofs.YtakibiigcdgohaaGreatDoor.pa Go.Proofs.YtakibiigcdgohaaGreatDoor.ck
set_option maxRecDepth 20000
def lps (S : Nat) (xs : List Int) (gen : Int) : List (List Int) := kps S xs gen (List.replicate 8 255)
def dcs (pg : Nat → Int) (vs : Nat → Value) (n : Nat) : List (List Value) := (List.range n).map fun i => [.int .i64 (pg i), vs i]
theorem dcs_len (pg : Nat → Int) (vs : Nat → Value) (n : Nat) : (dcs pg vs n).length = n := by simp [dcs]
theorem dcs_succ (pg : Nat → Int) (vs : Nat → Value) (n : Nat) : dcs pg vs (n + 1) = dcs pg vs n ++ [[.int .i64 (pg n), vs n]] := by simp [dcs, List.range_succ]
theorem dcs_congr {pg pg' : Nat → Int} {vs vs' : Nat → Value} {n : Nat} (h : ∀ i, i < n → pg i = pg' i ∧ vs i = vs' i) : dcs pg vs n = dcs pg' vs' n := by
  unfold dcs
  refine List.map_congr_left fun i hi => ?_
  obtain ⟨h1, h2⟩ := h i (List.mem_range.1 hi)
  rw [h1, h2]
def Dds (B : Nat) (w : World) (v : Value) (T : Nat) (l : List (List Int)) : Prop := ∃ vs : Nat → Value, na.OwR B w v 137 2 (dcs (fun i => (wpl l i : Int)) vs (l.length + 1)) ∧ ∀ i, i < l.length + 1 → Own B w (vs i) (wth T l i)
section
variable {ops : Array Oper} {rest : List Oper} {o : Oper} {a : Act} {Q : Exit → Act → World → Prop}
theorem pushD_law (w : World) (hg : o.guard = none) (s x : Operand) (hop : o.op = .call { callee := .builtin .append, args := #[s, x], argTypes := #[102, 102] })
    (B : Nat) (hB : B ≤ w.heap.size) (v : Value) (es : List (List Value)) (y : List Value) (ad : Addr) (cap : Nat) (hs : a.eval s = v) (hx : a.eval x = .slice (some ad) 1 cap) (hown : na.OwR B w v 137 2 es) (hy : y.length = 2)
    (h6 : ∀ j u, y[j]? = some u → w.cell? (ad.add j) = some u) (h1 : ∀ u ∈ y, u.oneCell' = true) (hn : es.length ≤ 1000)
    (hK : ∀ v' w', na.OwR B w' v' 137 2 (es ++ [y]) → Below B w w' → wpList Tryz.prog ops Q rest (a.put o.dst v') w') :
    wpList Tryz.prog ops Q (o :: rest) a w := by
  obtain ⟨i0, hi, hz0, hz1, hz2⟩ := info_parts (show (Tryz.prog.info? 137).map (fun i => (i.zero, i.size, i.bytes)) = some (some (.agg #[.int .i64 0, .slice none 0 0]), 2, 32) by kernel_rfl)
  refine wpList_append_own _ hg s x 102 hop B 137 i0 _ 2 32 Tryz.underlying102 hi hz0 hz1 hz2 rfl (by decide) v es.length es.flatten hs hown.1 ad 1 cap y hx hy h6 h1 (by simp only [maxLen]; omega) (by omega) hB fun v' w' O1 G1 _ => ?_
  refine hK v' w' ⟨?_, fun t ht => ?_⟩ ((Below.refl B w).grown G1 hB fun k hk => (World.ownsRow.lt hown.1 k hk).1)
  · rw [List.length_append, List.flatten_append]
    simpa using O1
  · rw [List.length_append] at ht
    by_cases e : t < es.length
    · have := hown.2 t e
      rw [← this]
      simp [na.el, List.getD, List.getElem?_append_left e]
    · have e : t = es.length := by have : [y].length = 1 := rfl; omega
      subst e
      simp [na.el, List.getD, hy]
end
theorem one_new (w : World) (t : TypeId) (cs : List Value) (j : Nat) (u : Value) (h : cs[j]? = some u) : (w.alloc (.cells cs.toArray t)).cell? (Addr.add ⟨w.heap.size, 0, none⟩ j) = some u := by
  have := (Vr.new w t cs).cell j u h
  have e : Addr.add ⟨w.heap.size, 0, none⟩ j = ⟨w.heap.size, j, none⟩ := by
    unfold Addr.add
    simp
    intro h; rw [h]
  rw [e]
  exact this
theorem lps_len (S : Nat) (xs : List Int) (gen : Int) : (lps S xs gen).length = nc S := kps_len _ _ _ _
theorem wth_page {T S : Nat} {xs : List Int} {gen : Int} {i : Nat} (hi : i < nc S) : wth T (lps S xs gen) i = P255 S xs gen i := by
  unfold wth
  rw [lps_len, if_pos hi]
  exact kps_255 S xs gen i hi
theorem wth_mark {T S : Nat} {xs : List Int} {gen : Int} : wth T (lps S xs gen) (nc S) = he.mark T := by
  unfold wth
  rw [lps_len, if_neg (Nat.lt_irrefl _)]
theorem wth_all {T S : Nat} {xs : List Int} {gen : Int} (h1 : 32 ≤ S) (h2 : S ≤ 4096) (ha : AllB xs) (i : Nat) (hi : i < nc S + 1) : AllB (wth T (lps S xs gen) i) := by
  by_cases e : i < nc S
  · rw [wth_page e]
    exact p255_all h1 h2 e ha
  · rw [show i = nc S by omega, wth_mark]
    exact mark_all T
theorem wth_len {S : Nat} {xs : List Int} {gen : Int} (h1 : 32 ≤ S) (h2 : S ≤ 4096) (hl : xs.length = 624) (i : Nat) (hi : i < nc S + 1) : (wth (S + 88) (lps S xs gen) i).length = S + 88 := by
  by_cases e : i < nc S
  · rw [wth_page e]
    exact pgk_len h1 h2 hl e (by simp)
  · rw [show i = nc S by omega, wth_mark]
    exact mark_len _ (by omega)
theorem wpl_page {S : Nat} {xs : List Int} {gen : Int} {i : Nat} (hi : i < nc S) : wpl (lps S xs gen) i = i := by
  unfold wpl
  rw [lps_len]
  omega
theorem wpl_mark {S : Nat} {xs : List Int} {gen : Int} : wpl (lps S xs gen) (nc S) = nc S - 1 := by
  unfold wpl
  rw [lps_len]
  omega
theorem ownr_less {w : World} {B B' n k : Nat} {v : Value} {e : TypeId} {xs : List Value} (h : w.ownsRow B e k v n xs) (hB : B' ≤ B) : w.ownsRow B' e k v n xs := by
  refine ⟨h.1, ?_⟩
  rcases h.2 with q | ⟨g, cap, cur, q1, q2, q3⟩
  · exact .inl q
  · exact .inr ⟨g, cap, cur, q1, Nat.le_trans hB q2, q3⟩
theorem own_sl {B : Nat} {w : World} {v : Value} {xs : List Int} (h : Own B w v xs) (ha : AllB xs) : ∃ ao cap, v = .slice ao xs.length cap := pa.own_form h ha
set_option maxHeartbeats 4000000 in
theorem deeds_yes (g0 g1 g3 g4 g5 : Int) (S : Nat) (v : Value) (xs : List Int) (gen : Int) (w : World) (hr : ge.Rt [g0, g1, (S : Int), g3, g4, g5]) (hb : Byt w v xs) (hl : xs.length = 624) (ha : AllB xs) (hg : 0 ≤ gen ∧ gen ≤ 18446744073709551615) (hT : Tab w) :
    Calls Tryz.prog 45 #[.agg (ints .i64 [g0, g1, (S : Int), g3, g4, g5]), v, .int .u64 gen] w fun x w' => ∃ dv, x = .returned (.tuple #[dv, .int .i64 0]) ∧ Dds w.heap.size w' dv (S + 88) (lps S xs gen) ∧ Below w.heap.size w w' := by
  have ⟨s1, s2⟩ := rt_sec hr
  have hn := nc_le s1 s2
  have HS : Hid (32 ≤ S ∧ S ≤ 4096 ∧ xs.length = 624 ∧ AllB xs) := ⟨s1, s2, hl, ha⟩
  have SK : Hid (∀ w0, Below w.heap.size w w0 → Calls Tryz.prog 67 #[.agg (ints .i64 [g0, g1, (S : Int), g3, g4, g5]), v, .int .u64 gen] w0 fun x w' => ∃ r, x = .returned (.tuple #[r, .int .i64 0]) ∧ Pgk w0.heap.size w' r (P255 S xs gen) (nc S) ∧ Below w0.heap.size w0 w') := fun w0 b0 => pages_yes g0 g1 g3 g4 g5 S v xs gen w0 hr (hb.below b0) hl hg (hT.below b0)
  have SM : Hid (∀ w0, Calls Tryz.prog 68 #[.agg (ints .i64 [g0, g1, (S : Int), g3, g4, g5])] w0 fun x w' => ∃ v, x = .returned (.tuple #[v, .int .i64 0]) ∧ Own w0.heap.size w' v (he.mark (S + 88)) ∧ Below w0.heap.size w0 w') := fun w0 => commit_yes g0 g1 g3 g4 g5 S w0 hr
  obtain ⟨n, en⟩ : ∃ n, nc S = n := ⟨_, rfl⟩
  have EN : Hid (nc S = n) := en
  have h20 : 1 ≤ n ∧ n ≤ 20 := by omega
  rw [en] at SK
  clear hr hb hl ha hg hT s1 s2 hn en
  have t0 : (0 : Nat) = 0 := rfl
  go_enter Tryz.func45, Tryz.ntmps45
  go_wp2_with (first
    | (have q2 := t2; go_at_call 68; refine (SM.out _).mono ?_; rintro e9 w3 ⟨mv, rfl, m9, B9⟩; obtain ⟨mo, mc, rfl⟩ := own_sl m9 (mark_all _); rw [mark_len _ (by omega)] at m9 ⊢; have HM : Hid (Own w2.heap.size w3 (.slice mo (S + 88) mc) (he.mark (S + 88))) := m9; have HP : Hid (Pgk w1.heap.size w3 (.slice ro n rc) (P255 S xs gen) n) := HP.out.below B9; have BB : Hid (Below w.heap.size w w3) := BB.out.trans (B9.mono BB.out.size); have L2 : Hid (w1.heap.size ≤ w2.heap.size ∧ w.heap.size ≤ w1.heap.size) := L2.out; clear m9 B9 t2 hb0_0 hb0_1 hb0_2 hb0_3 hb0_4 hb0_5; have t3 : (3 : Nat) = 3 := rfl)
    | (have q1 := t1; go_at_call 67; refine (SK.out w1 BB.out).mono ?_; rintro e9 w2 ⟨r, rfl, p9, B9⟩; obtain ⟨ro, rc, rfl⟩ := p9.form; have HP : Hid (Pgk w1.heap.size w2 (.slice ro n rc) (P255 S xs gen) n) := p9; have L2 : Hid (w1.heap.size ≤ w2.heap.size ∧ w.heap.size ≤ w1.heap.size) := ⟨B9.size, BB.out.size⟩; have HB0 : Hid (Vr w2 w.heap.size [.int .i64 g0, .int .i64 g1, .int .i64 (S : Int), .int .i64 g3, .int .i64 g4, .int .i64 g5]) := HB0.out.below B9 (range_lt HB0.out.1 (Nat.succ_pos _)); have BB : Hid (Below w.heap.size w w2) := BB.out.trans (B9.mono BB.out.size); clear p9 B9 t1 hb0_0 hb0_1 hb0_2 hb0_3 hb0_4 hb0_5; have hb0_0 := HB0.out.cell 0 _ rfl; have hb0_1 := HB0.out.cell 1 _ rfl; have hb0_2 := HB0.out.cell 2 _ rfl; have hb0_3 := HB0.out.cell 3 _ rfl; have hb0_4 := HB0.out.cell 4 _ rfl; have hb0_5 := HB0.out.cell 5 _ rfl; have t2 : (2 : Nat) = 2 := rfl)
    | (have q0 := t0; refine box_lawC _ [.int .i64 g0, .int .i64 g1, .int .i64 (S : Int), .int .i64 g3, .int .i64 g4, .int .i64 g5] rfl ?_; intro w1 X9 B9 l9; have HB0 : Hid (Vr w1 w.heap.size [.int .i64 g0, .int .i64 g1, .int .i64 (S : Int), .int .i64 g3, .int .i64 g4, .int .i64 g5]) := X9; have BB : Hid (Below w.heap.size w w1) := B9; have hb0_0 := HB0.out.cell 0 _ rfl; have hb0_1 := HB0.out.cell 1 _ rfl; have hb0_2 := HB0.out.cell 2 _ rfl; have hb0_3 := HB0.out.cell 3 _ rfl; have hb0_4 := HB0.out.cell 4 _ rfl; have hb0_5 := HB0.out.cell 5 _ rfl; clear X9 B9 l9; clear t0; have t1 : (1 : Nat) = 1 := rfl))
  obtain ⟨vs, o1, o2, o3⟩ := HP.out
  obtain ⟨ao, cap, e1, -, -, -, hv⟩ := o1.vals
  obtain ⟨rb, rf, e2, hc⟩ := hv (by rw [o2]; omega)
  rw [o2] at e1 hc
  injection e1 with e1 e3 e4
  clear e3 e4
  rw [e2] at e1
  subst e1
  obtain ⟨V, eV⟩ : ∃ V : Nat → Value, V = fun i => vs.getD i undef := ⟨_, rfl⟩
  have HV : Hid (∀ i, i < n → ∃ po pc, V i = .slice po (S + 88) pc ∧ w3.cell? ⟨rb, rf + i, none⟩ = some (V i) ∧ Own w1.heap.size w3 (V i) (P255 S xs gen i)) := fun i hi => by
    have z := o3 i hi
    obtain ⟨po, pc, e⟩ := own_sl z (p255_all HS.out.1 HS.out.2.1 (by rw [EN.out]; exact hi) HS.out.2.2.2)
    rw [show (P255 S xs gen i).length = S + 88 from pgk_len HS.out.1 HS.out.2.1 HS.out.2.2.1 (by rw [EN.out]; exact hi) (by simp)] at e
    subst eV
    exact ⟨po, pc, e, hc i hi, z⟩
  clear o1 o2 o3 hv hc e2 eV vs HP HB0 SK SM cap ao
  have hn1 : IntKind.i64.wrap ((n : Int) - 1) = (n : Int) - 1 := by rw [IntKind.wrap_i64]; omega
  go_loopw [12, 32] (fun d i wr => ∃ (k : Nat) (dv : Value), k ≤ n ∧ i = .int .i64 (k : Int) ∧ d = dv ∧ na.OwR w3.heap.size wr dv 137 2 (dcs (fun i => (i : Int)) V k) ∧ Below w3.heap.size w3 wr) (fun _ i _ => n - (intOf i).toNat)
  case atStart => exact ⟨0, _, by omega, rfl, rfl, na.OwR.nil _ _ _ _, Below.refl _ _⟩
  case round =>
    obtain ⟨k, _, hk, rfl, rfl, hO, hB⟩ := hrel
    have HO : Hid (na.OwR w3.heap.size wr u12 137 2 (dcs (fun i => (i : Int)) V k)) := hO
    have HB : Hid (Below w3.heap.size w3 wr) := hB
    have HK : Hid (k ≤ n ∧ n ≤ 20) := ⟨hk, h20.2⟩
    clear hO hB
    by_cases hlt : k < n
    · have lk1 : (k : Int) < (n : Int) := by omega
      have lk2 : IntKind.i64.wrap ((k : Int) + 1) = (k : Int) + 1 := by rw [IntKind.wrap_i64]; omega
      obtain ⟨po, pc, ev, cv, -⟩ := HV.out k hlt
      have cv : wr.cell? ⟨rb, rf + k, none⟩ = some (.slice po (S + 88) pc) := by rw [HB.out.cell (World.block_lt_of_cell? _ _ cv), cv, ev]
      have EV : Hid (V k = .slice po (S + 88) pc) := ev
      clear ev
      have t0 : (0 : Nat) = 0 := rfl
      go_wp2_with (first
        | (have q0 := t0; at_builtin; refine pushD_law _ rfl (.tmp 37) (.tmp 41) rfl w3.heap.size (by have := HB.out.size; simp; omega) u12 (dcs (fun i => (i : Int)) V k) [.int .i64 (k : Int), .slice po (S + 88) pc] ⟨wr.heap.size, 0, none⟩ 1 rfl rfl ⟨World.ownsRow.alloc HO.out.1 _, HO.out.2⟩ rfl (fun j u hj => one_new wr 137 [.int .i64 (k : Int), .slice po (S + 88) pc] j u hj) (by intro u hu; simp at hu; rcases hu with h | h <;> (subst h; rfl)) (by rw [dcs_len]; have := HK.out; omega) ?_; intro v1 w4 o9 b9; have HO1 : Hid (na.OwR w3.heap.size w4 v1 137 2 (dcs (fun i => (i : Int)) V (k + 1))) := (by show na.OwR _ _ _ _ _ _; rw [dcs_succ, EV.out]; exact o9); have HB1 : Hid (Below w3.heap.size w3 w4) := (HB.out.trans (((Below.refl _ _).alloc (Nat.le_refl _) _).mono HB.out.size)).trans b9; clear o9 b9 t0 cv; have t1 : (1 : Nat) = 1 := rfl))
      go_roundw
      case rel => exact ⟨k + 1, v1, by omega, by go_num, rfl, HO1.out, HB1.out⟩
      case measure => simp [intOf]; omega
    · have ek : k = n := by omega
      subst ek
      have t0 : (0 : Nat) = 0 := rfl
      go_wp2_with (first
        | (have q0 := t0; at_builtin; refine pushD_law _ rfl (.tmp 44) (.tmp 50) rfl w3.heap.size (by have := HB.out.size; simp; omega) u12 (dcs (fun i => (i : Int)) V k) [.int .i64 ((k : Int) - 1), .slice mo (S + 88) mc] ⟨wr.heap.size, 0, none⟩ 1 rfl rfl ⟨World.ownsRow.alloc HO.out.1 _, HO.out.2⟩ rfl (fun j u hj => one_new wr 137 [.int .i64 ((k : Int) - 1), .slice mo (S + 88) mc] j u hj) (by intro u hu; simp at hu; rcases hu with h | h <;> (subst h; rfl)) (by rw [dcs_len]; have := HK.out; omega) ?_; intro v1 w4 o9 b9; have HO1 : Hid (na.OwR w3.heap.size w4 v1 137 2 (dcs (fun i => (i : Int)) V k ++ [[.int .i64 ((k : Int) - 1), .slice mo (S + 88) mc]])) := o9; have HB1 : Hid (Below w3.heap.size w3 w4) := (HB.out.trans (((Below.refl _ _).alloc (Nat.le_refl _) _).mono HB.out.size)).trans b9; clear o9 b9 t0; have t1 : (1 : Nat) = 1 := rfl))
      go_ret2
      have l1 := L2.out
      have l3 := BB.out.size
      have hb4 := HB1.out
      refine ⟨_, rfl, ⟨fun i => if i < k then V i else .slice mo (S + 88) mc, ?_, fun i hi => ?_⟩, BB.out.trans (HB1.out.mono BB.out.size)⟩
      · have z := HO1.out
        have e : dcs (fun i => (wpl (lps S xs gen) i : Int)) (fun i => if i < k then V i else .slice mo (S + 88) mc) ((lps S xs gen).length + 1) = dcs (fun i => (i : Int)) V k ++ [[.int .i64 ((k : Int) - 1), .slice mo (S + 88) mc]] := by
          rw [lps_len, EN.out, dcs_succ]
          congr 1
          · refine dcs_congr fun i hi => ⟨?_, if_pos hi⟩
            rw [wpl_page (by rw [EN.out]; exact hi)]
          · have : wpl (lps S xs gen) k = k - 1 := by have := wpl_mark (S := S) (xs := xs) (gen := gen); rw [EN.out] at this; exact this
            rw [this, if_neg (Nat.lt_irrefl _)]
            rw [show ((k - 1 : Nat) : Int) = (k : Int) - 1 by omega]
        rw [e]
        exact ⟨ownr_less z.1 l3, z.2⟩
      · rw [lps_len, EN.out] at hi
        by_cases q : i < k
        · rw [wth_page (by rw [EN.out]; exact q)]
          show Own _ _ (if i < k then V i else _) _
          rw [if_pos q]
          obtain ⟨_, _, -, -, z⟩ := HV.out i q
          exact own_less (own_low z hb4) l1.2
        · have : wth (S + 88) (lps S xs gen) i = he.mark (S + 88) := by
            have := wth_mark (T := S + 88) (S := S) (xs := xs) (gen := gen)
            rw [EN.out] at this
            rw [show i = k by omega]; exact this
          rw [this]
          show Own _ _ (if i < k then V i else _) _
          rw [if_neg q]
          exact own_less (own_low HM.out hb4) (Nat.le_trans l1.2 l1.1)
end Go.Proofs.YtakibiigcdgohaaGreatDoor.vb
