/- The slot of any bytes, or why there is none: as the document says; its bytes are those. No condition. -/
import Derived.Test.YtifepmdhbhdjpaaDoorCards
import Derived.Test.YtifepmdhbhdjpaaDoorTie
import Derived.Test.YtifepmdhbhdjpaaDoorPackH
import Derived.Test.YtifepmdhbhdjpaaDoorPackN
namespace Go.Proofs.YtifepmdhbhdjpaaDoor.slotReads
open Go.ChangeShapes Go.WideShapes Go.ChangeAt Go.RowKit Go.Proofs.YtifepmdhbhdjpaaDoor.so Go.Proofs.YtifepmdhbhdjpaaDoor.he Go.Proofs.YtifepmdhbhdjpaaDoor.fa
set_option maxRecDepth 20000


set_option maxHeartbeats 8000000 in
theorem walk_len (v : Value) (xs : List Int) (w : World) (hb : Byt w v xs) (hl : xs.length ≠ 128) :
    Calls Tryd.prog 4 #[v] w fun x w' => x = .returned (.bool true) ∧ Below w.heap.size w w' := by
  have SD : Hid (∀ w0, Below w.heap.size w w0 → Calls Tryd.prog 12 #[v] w0 fun x w' => x = .returned (.tuple #[.agg (sv false 0 0 0 (.slice none 0 0)).toArray, .int .i64 2]) ∧ Below w0.heap.size w0 w') := fun w0 q => read_len v xs w0 (hb.below q) hl
  have SO : Hid (∀ w0, Calls Tryd.prog 10 #[.agg (sv false 0 0 0 (.slice none 0 0)).toArray] w0 fun x w' => x = .returned (.agg (sv false 0 0 0 (.slice none 0 0)).toArray) ∧ Below w0.heap.size w0 w') := fun w0 => so.of_any false 0 0 0 _ [] w0 (Byt.nil w0)
  have SS : Hid (∀ w0, Calls Tryd.prog 11 #[.agg (sv false 0 0 0 (.slice none 0 0)).toArray, .agg (sv false 0 0 0 (.slice none 0 0)).toArray] w0 fun x w' => x = .returned (.bool true) ∧ Below w0.heap.size w0 w') := fun w0 => rsame_yes false 0 0 0 _ _ [] w0 (Byt.nil w0) (Byt.nil w0)
  obtain ⟨bo, bc, rfl⟩ := form hb
  have n8 : ((xs.length : Int) != 128) = true := bne_iff_ne.2 (by omega)
  clear hb hl
  have t0 : (0 : Nat) = 0 := rfl
  go_enter Tryd.func4, Tryd.ntmps4
  go_wp2_with (first
    | (have q5 := t5; go_at_call 5; refine (awake_any w5).mono ?_; rintro e9 w6 ⟨rfl, B9⟩; have NB_HV : Hid (NoB w6 w1.heap.size) := NB_HV.out.heap (B9.block _ (range_lt HV.out.1 (Nat.succ_pos _))); have HV : Hid (Vr w6 w1.heap.size (sv false 0 0 0 (.slice none 0 0))) := HV.out.below B9 (range_lt HV.out.1 (Nat.succ_pos _)); have BB : Hid (Below w.heap.size w w6) := BB.out.trans (B9.mono BB.out.size); clear hv_0 hv_1 hv_2 hv_3 hv_4; have hv_0 := HV.out.cell 0 _ rfl; have hv_1 := HV.out.cell 1 _ rfl; have hv_2 := HV.out.cell 2 _ rfl; have hv_3 := HV.out.cell 3 _ rfl; have hv_4 := HV.out.cell 4 _ rfl; clear B9; clear t5; have t6 : (1 : Nat) = 1 := rfl)
    | (have q4 := t4; go_at_call 11; refine (SS.out w4).mono ?_; rintro e9 w5 ⟨rfl, B9⟩; have NB_HV : Hid (NoB w5 w1.heap.size) := NB_HV.out.heap (B9.block _ (range_lt HV.out.1 (Nat.succ_pos _))); have HV : Hid (Vr w5 w1.heap.size (sv false 0 0 0 (.slice none 0 0))) := HV.out.below B9 (range_lt HV.out.1 (Nat.succ_pos _)); have BB : Hid (Below w.heap.size w w5) := BB.out.trans (B9.mono BB.out.size); clear hv_0 hv_1 hv_2 hv_3 hv_4; have hv_0 := HV.out.cell 0 _ rfl; have hv_1 := HV.out.cell 1 _ rfl; have hv_2 := HV.out.cell 2 _ rfl; have hv_3 := HV.out.cell 3 _ rfl; have hv_4 := HV.out.cell 4 _ rfl; clear B9; clear t4; have t5 : (1 : Nat) = 1 := rfl)
    | (have q3 := t3; go_at_call 10; refine (SO.out w3).mono ?_; rintro e9 w4 ⟨rfl, B9⟩; have NB_HV : Hid (NoB w4 w1.heap.size) := NB_HV.out.heap (B9.block _ (range_lt HV.out.1 (Nat.succ_pos _))); have HV : Hid (Vr w4 w1.heap.size (sv false 0 0 0 (.slice none 0 0))) := HV.out.below B9 (range_lt HV.out.1 (Nat.succ_pos _)); have BB : Hid (Below w.heap.size w w4) := BB.out.trans (B9.mono BB.out.size); clear hv_0 hv_1 hv_2 hv_3 hv_4; have hv_0 := HV.out.cell 0 _ rfl; have hv_1 := HV.out.cell 1 _ rfl; have hv_2 := HV.out.cell 2 _ rfl; have hv_3 := HV.out.cell 3 _ rfl; have hv_4 := HV.out.cell 4 _ rfl; clear B9; clear t3; have t4 : (1 : Nat) = 1 := rfl)
    | (have q2 := t2; (with_reducible refine at_store ?_); refine store_lawC _ (sv false 0 0 0 (.slice none 0 0)) w1.heap.size 0 rfl rfl HV.out.2 rowy_slot.2 (sv_one _ _ _ _ rfl) ?_; intro w3 E9 R9 T9 B9; have K9 : ∀ k, k ≠ w1.heap.size → w3.heap[k]? = w2.heap[k]? := (by rw [E9.out]; exact fun k hk => heap_cells _ _ _ _ k hk); have NB_HV : Hid (NoB w3 w1.heap.size) := (by rw [E9.out]; exact NB_HV.out.set HV.out rfl (sv_nob _ _ _ _ _ _ _)); have HV : Hid (Vr w3 w1.heap.size (sv false 0 0 0 (.slice none 0 0))) := ⟨R9, T9⟩; have BB : Hid (Below w.heap.size w w3) := BB.out.trans (B9.mono LE_HV.out); have hv_0 := HV.out.cell 0 _ rfl; have hv_1 := HV.out.cell 1 _ rfl; have hv_2 := HV.out.cell 2 _ rfl; have hv_3 := HV.out.cell 3 _ rfl; have hv_4 := HV.out.cell 4 _ rfl; clear E9 R9 T9 B9 K9; clear t2; have t3 : (1 : Nat) = 1 := rfl)
    | (have q1 := t1; (with_reducible refine at_alloc ?_); refine new_lawN _ (sv false 0 0 0 (.slice none 0 0)) zero_slot (sv_nob _ _ _ _ _ _ _) ?_; intro w2 X9 N9 B9; have LE_HV : Hid (w.heap.size ≤ w1.heap.size) := BB.out.size; have HV : Hid (Vr w2 w1.heap.size (sv false 0 0 0 (.slice none 0 0))) := X9; have NB_HV : Hid (NoB w2 w1.heap.size) := N9; have BB : Hid (Below w.heap.size w w2) := BB.out.trans (B9.mono BB.out.size); clear X9 N9 B9; clear t1; have t2 : (1 : Nat) = 1 := rfl)
    | (have q0 := t0; go_at_call 12; refine (SD.out w (Below.refl _ _)).mono ?_; rintro e9 w1 ⟨rfl, B9⟩; have BB : Hid (Below w.heap.size w w1) := B9; clear B9; clear t0; have t1 : (1 : Nat) = 1 := rfl))
  go_ret
  exact ⟨rfl, BB.out⟩

set_option maxHeartbeats 8000000 in
theorem walk_no (v : Value) (xs : List Int) (w : World) (hb : Byt w v xs) (hl : xs.length = 128) (hT : Tbl w) (h1 : ¬ xs = List.replicate 128 0) (h2 : ¬ Ur xs) :
    Calls Tryd.prog 4 #[v] w fun x w' => x = .returned (.bool true) ∧ Below w.heap.size w w' := by
  have SD : Hid (∀ w0, Below w.heap.size w w0 → Calls Tryd.prog 12 #[v] w0 fun x w' => x = .returned (.tuple #[.agg (sv false 0 0 0 (.slice none 0 0)).toArray, .int .i64 1]) ∧ Below w0.heap.size w0 w') := fun w0 q => read_no v xs w0 (hb.below q) hl (hT.below q hT.lt) h1 h2
  have SQ : Hid (∀ w0, Below w.heap.size w w0 → Calls Tryd.prog 15 #[v] w0 fun x w' => x = .returned (.tuple #[.agg (sv false 0 0 0 (.slice none 0 0)).toArray, .bool false]) ∧ Below w0.heap.size w0 w') := fun w0 q => rread_no v xs w0 (hb.below q) hl h1 h2
  have SO : Hid (∀ w0, Calls Tryd.prog 10 #[.agg (sv false 0 0 0 (.slice none 0 0)).toArray] w0 fun x w' => x = .returned (.agg (sv false 0 0 0 (.slice none 0 0)).toArray) ∧ Below w0.heap.size w0 w') := fun w0 => so.of_any false 0 0 0 _ [] w0 (Byt.nil w0)
  have SS : Hid (∀ w0, Calls Tryd.prog 11 #[.agg (sv false 0 0 0 (.slice none 0 0)).toArray, .agg (sv false 0 0 0 (.slice none 0 0)).toArray] w0 fun x w' => x = .returned (.bool true) ∧ Below w0.heap.size w0 w') := fun w0 => rsame_yes false 0 0 0 _ _ [] w0 (Byt.nil w0) (Byt.nil w0)
  obtain ⟨bo, bc, rfl⟩ := byt_form hb hl
  clear hb hl hT h1 h2
  have t0 : (0 : Nat) = 0 := rfl
  go_enter Tryd.func4, Tryd.ntmps4
  go_wp2_with (first
    | (have q8 := t8; go_at_call 5; refine (awake_any w8).mono ?_; rintro e9 w9 ⟨rfl, B9⟩; have NB_HV : Hid (NoB w9 w1.heap.size) := NB_HV.out.heap (B9.block _ (range_lt HV.out.1 (Nat.succ_pos _))); have HV : Hid (Vr w9 w1.heap.size (sv false 0 0 0 (.slice none 0 0))) := HV.out.below B9 (range_lt HV.out.1 (Nat.succ_pos _)); have NB_HW : Hid (NoB w9 w4.heap.size) := NB_HW.out.heap (B9.block _ (range_lt HW.out.1 (Nat.succ_pos _))); have HW : Hid (Vr w9 w4.heap.size (sv false 0 0 0 (.slice none 0 0))) := HW.out.below B9 (range_lt HW.out.1 (Nat.succ_pos _)); have BB : Hid (Below w.heap.size w w9) := BB.out.trans (B9.mono BB.out.size); clear hv_0 hv_1 hv_2 hv_3 hv_4 hw_0 hw_1 hw_2 hw_3 hw_4; have hv_0 := HV.out.cell 0 _ rfl; have hv_1 := HV.out.cell 1 _ rfl; have hv_2 := HV.out.cell 2 _ rfl; have hv_3 := HV.out.cell 3 _ rfl; have hv_4 := HV.out.cell 4 _ rfl; have hw_0 := HW.out.cell 0 _ rfl; have hw_1 := HW.out.cell 1 _ rfl; have hw_2 := HW.out.cell 2 _ rfl; have hw_3 := HW.out.cell 3 _ rfl; have hw_4 := HW.out.cell 4 _ rfl; clear B9; clear t8; have t9 : (1 : Nat) = 1 := rfl)
    | (have q7 := t7; go_at_call 11; refine (SS.out w7).mono ?_; rintro e9 w8 ⟨rfl, B9⟩; have NB_HV : Hid (NoB w8 w1.heap.size) := NB_HV.out.heap (B9.block _ (range_lt HV.out.1 (Nat.succ_pos _))); have HV : Hid (Vr w8 w1.heap.size (sv false 0 0 0 (.slice none 0 0))) := HV.out.below B9 (range_lt HV.out.1 (Nat.succ_pos _)); have NB_HW : Hid (NoB w8 w4.heap.size) := NB_HW.out.heap (B9.block _ (range_lt HW.out.1 (Nat.succ_pos _))); have HW : Hid (Vr w8 w4.heap.size (sv false 0 0 0 (.slice none 0 0))) := HW.out.below B9 (range_lt HW.out.1 (Nat.succ_pos _)); have BB : Hid (Below w.heap.size w w8) := BB.out.trans (B9.mono BB.out.size); clear hv_0 hv_1 hv_2 hv_3 hv_4 hw_0 hw_1 hw_2 hw_3 hw_4; have hv_0 := HV.out.cell 0 _ rfl; have hv_1 := HV.out.cell 1 _ rfl; have hv_2 := HV.out.cell 2 _ rfl; have hv_3 := HV.out.cell 3 _ rfl; have hv_4 := HV.out.cell 4 _ rfl; have hw_0 := HW.out.cell 0 _ rfl; have hw_1 := HW.out.cell 1 _ rfl; have hw_2 := HW.out.cell 2 _ rfl; have hw_3 := HW.out.cell 3 _ rfl; have hw_4 := HW.out.cell 4 _ rfl; clear B9; clear t7; have t8 : (1 : Nat) = 1 := rfl)
    | (have q6 := t6; go_at_call 10; refine (SO.out w6).mono ?_; rintro e9 w7 ⟨rfl, B9⟩; have NB_HV : Hid (NoB w7 w1.heap.size) := NB_HV.out.heap (B9.block _ (range_lt HV.out.1 (Nat.succ_pos _))); have HV : Hid (Vr w7 w1.heap.size (sv false 0 0 0 (.slice none 0 0))) := HV.out.below B9 (range_lt HV.out.1 (Nat.succ_pos _)); have NB_HW : Hid (NoB w7 w4.heap.size) := NB_HW.out.heap (B9.block _ (range_lt HW.out.1 (Nat.succ_pos _))); have HW : Hid (Vr w7 w4.heap.size (sv false 0 0 0 (.slice none 0 0))) := HW.out.below B9 (range_lt HW.out.1 (Nat.succ_pos _)); have BB : Hid (Below w.heap.size w w7) := BB.out.trans (B9.mono BB.out.size); clear hv_0 hv_1 hv_2 hv_3 hv_4 hw_0 hw_1 hw_2 hw_3 hw_4; have hv_0 := HV.out.cell 0 _ rfl; have hv_1 := HV.out.cell 1 _ rfl; have hv_2 := HV.out.cell 2 _ rfl; have hv_3 := HV.out.cell 3 _ rfl; have hv_4 := HV.out.cell 4 _ rfl; have hw_0 := HW.out.cell 0 _ rfl; have hw_1 := HW.out.cell 1 _ rfl; have hw_2 := HW.out.cell 2 _ rfl; have hw_3 := HW.out.cell 3 _ rfl; have hw_4 := HW.out.cell 4 _ rfl; clear B9; clear t6; have t7 : (1 : Nat) = 1 := rfl)
    | (have q5 := t5; (with_reducible refine at_store ?_); refine store_lawC _ (sv false 0 0 0 (.slice none 0 0)) w4.heap.size 0 rfl rfl HW.out.2 rowy_rslot.2 (sv_one _ _ _ _ rfl) ?_; intro w6 E9 R9 T9 B9; have K9 : ∀ k, k ≠ w4.heap.size → w6.heap[k]? = w5.heap[k]? := (by rw [E9.out]; exact fun k hk => heap_cells _ _ _ _ k hk); have NB_HV : Hid (NoB w6 w1.heap.size) := NB_HV.out.heap (K9 _ (Nat.ne_of_lt LT_HV_HW.out)); have HV : Hid (Vr w6 w1.heap.size (sv false 0 0 0 (.slice none 0 0))) := HV.out.heap (K9 _ (Nat.ne_of_lt LT_HV_HW.out)); have NB_HW : Hid (NoB w6 w4.heap.size) := (by rw [E9.out]; exact NB_HW.out.set HW.out rfl (sv_nob _ _ _ _ _ _ _)); have HW : Hid (Vr w6 w4.heap.size (sv false 0 0 0 (.slice none 0 0))) := ⟨R9, T9⟩; have BB : Hid (Below w.heap.size w w6) := BB.out.trans (B9.mono LE_HW.out); clear hv_0 hv_1 hv_2 hv_3 hv_4; have hv_0 := HV.out.cell 0 _ rfl; have hv_1 := HV.out.cell 1 _ rfl; have hv_2 := HV.out.cell 2 _ rfl; have hv_3 := HV.out.cell 3 _ rfl; have hv_4 := HV.out.cell 4 _ rfl; have hw_0 := HW.out.cell 0 _ rfl; have hw_1 := HW.out.cell 1 _ rfl; have hw_2 := HW.out.cell 2 _ rfl; have hw_3 := HW.out.cell 3 _ rfl; have hw_4 := HW.out.cell 4 _ rfl; clear E9 R9 T9 B9 K9; clear t5; have t6 : (1 : Nat) = 1 := rfl)
    | (have q4 := t4; (with_reducible refine at_alloc ?_); refine new_lawN _ (sv false 0 0 0 (.slice none 0 0)) zero_rslot (sv_nob _ _ _ _ _ _ _) ?_; intro w5 X9 N9 B9; have LT_HV_HW : Hid (w1.heap.size < w4.heap.size) := range_lt HV.out.1 (Nat.succ_pos _); have LE_HW : Hid (w.heap.size ≤ w4.heap.size) := BB.out.size; have NB_HV : Hid (NoB w5 w1.heap.size) := NB_HV.out.heap (B9.block _ (range_lt HV.out.1 (Nat.succ_pos _))); have HV : Hid (Vr w5 w1.heap.size (sv false 0 0 0 (.slice none 0 0))) := HV.out.below B9 (range_lt HV.out.1 (Nat.succ_pos _)); have HW : Hid (Vr w5 w4.heap.size (sv false 0 0 0 (.slice none 0 0))) := X9; have NB_HW : Hid (NoB w5 w4.heap.size) := N9; have BB : Hid (Below w.heap.size w w5) := BB.out.trans (B9.mono BB.out.size); clear hv_0 hv_1 hv_2 hv_3 hv_4; have hv_0 := HV.out.cell 0 _ rfl; have hv_1 := HV.out.cell 1 _ rfl; have hv_2 := HV.out.cell 2 _ rfl; have hv_3 := HV.out.cell 3 _ rfl; have hv_4 := HV.out.cell 4 _ rfl; clear X9 N9 B9; clear t4; have t5 : (1 : Nat) = 1 := rfl)
    | (have q3 := t3; go_at_call 15; refine (SQ.out w3 BB.out).mono ?_; rintro e9 w4 ⟨rfl, B9⟩; have NB_HV : Hid (NoB w4 w1.heap.size) := NB_HV.out.heap (B9.block _ (range_lt HV.out.1 (Nat.succ_pos _))); have HV : Hid (Vr w4 w1.heap.size (sv false 0 0 0 (.slice none 0 0))) := HV.out.below B9 (range_lt HV.out.1 (Nat.succ_pos _)); have BB : Hid (Below w.heap.size w w4) := BB.out.trans (B9.mono BB.out.size); clear hv_0 hv_1 hv_2 hv_3 hv_4; have hv_0 := HV.out.cell 0 _ rfl; have hv_1 := HV.out.cell 1 _ rfl; have hv_2 := HV.out.cell 2 _ rfl; have hv_3 := HV.out.cell 3 _ rfl; have hv_4 := HV.out.cell 4 _ rfl; clear B9; clear t3; have t4 : (1 : Nat) = 1 := rfl)
    | (have q2 := t2; (with_reducible refine at_store ?_); refine store_lawC _ (sv false 0 0 0 (.slice none 0 0)) w1.heap.size 0 rfl rfl HV.out.2 rowy_slot.2 (sv_one _ _ _ _ rfl) ?_; intro w3 E9 R9 T9 B9; have K9 : ∀ k, k ≠ w1.heap.size → w3.heap[k]? = w2.heap[k]? := (by rw [E9.out]; exact fun k hk => heap_cells _ _ _ _ k hk); have NB_HV : Hid (NoB w3 w1.heap.size) := (by rw [E9.out]; exact NB_HV.out.set HV.out rfl (sv_nob _ _ _ _ _ _ _)); have HV : Hid (Vr w3 w1.heap.size (sv false 0 0 0 (.slice none 0 0))) := ⟨R9, T9⟩; have BB : Hid (Below w.heap.size w w3) := BB.out.trans (B9.mono LE_HV.out); have hv_0 := HV.out.cell 0 _ rfl; have hv_1 := HV.out.cell 1 _ rfl; have hv_2 := HV.out.cell 2 _ rfl; have hv_3 := HV.out.cell 3 _ rfl; have hv_4 := HV.out.cell 4 _ rfl; clear E9 R9 T9 B9 K9; clear t2; have t3 : (1 : Nat) = 1 := rfl)
    | (have q1 := t1; (with_reducible refine at_alloc ?_); refine new_lawN _ (sv false 0 0 0 (.slice none 0 0)) zero_slot (sv_nob _ _ _ _ _ _ _) ?_; intro w2 X9 N9 B9; have LE_HV : Hid (w.heap.size ≤ w1.heap.size) := BB.out.size; have HV : Hid (Vr w2 w1.heap.size (sv false 0 0 0 (.slice none 0 0))) := X9; have NB_HV : Hid (NoB w2 w1.heap.size) := N9; have BB : Hid (Below w.heap.size w w2) := BB.out.trans (B9.mono BB.out.size); clear X9 N9 B9; clear t1; have t2 : (1 : Nat) = 1 := rfl)
    | (have q0 := t0; go_at_call 12; refine (SD.out w (Below.refl _ _)).mono ?_; rintro e9 w1 ⟨rfl, B9⟩; have BB : Hid (Below w.heap.size w w1) := B9; clear B9; clear t0; have t1 : (1 : Nat) = 1 := rfl))
  go_ret
  exact ⟨rfl, BB.out⟩

set_option maxHeartbeats 8000000 in
theorem walk_free (v : Value) (xs : List Int) (w : World) (hb : Byt w v xs) (hl : xs.length = 128) (hT : Tbl w) (h1 : xs = List.replicate 128 0) :
    Calls Tryd.prog 4 #[v] w fun x w' => x = .returned (.bool true) ∧ Below w.heap.size w w' := by
  subst h1
  have HBB : Hid (Byt w v (List.replicate 128 0)) := hb
  have SD : Hid (∀ w0, Below w.heap.size w w0 → Calls Tryd.prog 12 #[v] w0 fun x w' => x = .returned (.tuple #[.agg (sv false 0 0 0 (.slice none 0 0)).toArray, .int .i64 0]) ∧ Below w0.heap.size w0 w') := fun w0 q => read_free v w0 (hb.below q) (hT.below q hT.lt)
  have SQ : Hid (∀ w0, Below w.heap.size w w0 → Calls Tryd.prog 15 #[v] w0 fun x w' => x = .returned (.tuple #[.agg (sv false 0 0 0 (.slice none 0 0)).toArray, .bool true]) ∧ Below w0.heap.size w0 w') := fun w0 q => rread_free v w0 (hb.below q)
  have SB : Hid (∀ w0, Below w.heap.size w w0 → Calls Tryd.prog 6 #[.agg (sv false 0 0 0 (.slice none 0 0)).toArray] w0 fun x w' => ∃ g, x = .returned (.tuple #[.slice (some ⟨g, 0, none⟩) 128 128, .int .i64 0]) ∧ Byt w' (.slice (some ⟨g, 0, none⟩) 128 128) (List.replicate 128 0) ∧ Below w0.heap.size w0 w') := fun w0 q => bytes_yes false 0 0 0 _ [] w0 (Byt.nil w0) ⟨⟨by omega, by omega⟩, ⟨by omega, by omega⟩, by omega, by omega⟩ ⟨rfl, rfl, rfl, rfl⟩ (hT.below q hT.lt)
  have SO : Hid (∀ w0, Calls Tryd.prog 10 #[.agg (sv false 0 0 0 (.slice none 0 0)).toArray] w0 fun x w' => x = .returned (.agg (sv false 0 0 0 (.slice none 0 0)).toArray) ∧ Below w0.heap.size w0 w') := fun w0 => so.of_any false 0 0 0 _ [] w0 (Byt.nil w0)
  have SS : Hid (∀ w0, Calls Tryd.prog 11 #[.agg (sv false 0 0 0 (.slice none 0 0)).toArray, .agg (sv false 0 0 0 (.slice none 0 0)).toArray] w0 fun x w' => x = .returned (.bool true) ∧ Below w0.heap.size w0 w') := fun w0 => rsame_yes false 0 0 0 _ _ [] w0 (Byt.nil w0) (Byt.nil w0)
  obtain ⟨bo, bc, rfl⟩ := byt_form hb hl
  generalize List.replicate 128 (0 : Int) = xs at HBB SB
  clear hb hl hT
  have t0 : (0 : Nat) = 0 := rfl
  go_enter Tryd.func4, Tryd.ntmps4
  go_wp2_with (first
    | (have q6 := t6; go_at_call 6; refine (SB.out w6 BB.out).mono ?_; rintro e9 w7 ⟨g9, rfl, Y9, B9⟩; have NB_HV : Hid (NoB w7 w1.heap.size) := NB_HV.out.heap (B9.block _ (range_lt HV.out.1 (Nat.succ_pos _))); have HV : Hid (Vr w7 w1.heap.size (sv false 0 0 0 (.slice none 0 0))) := HV.out.below B9 (range_lt HV.out.1 (Nat.succ_pos _)); have NB_HW : Hid (NoB w7 w4.heap.size) := NB_HW.out.heap (B9.block _ (range_lt HW.out.1 (Nat.succ_pos _))); have HW : Hid (Vr w7 w4.heap.size (sv false 0 0 0 (.slice none 0 0))) := HW.out.below B9 (range_lt HW.out.1 (Nat.succ_pos _)); have HX : Hid (Byt w7 (.slice (some ⟨g9, 0, none⟩) 128 128) xs) := Y9; have BB : Hid (Below w.heap.size w w7) := BB.out.trans (B9.mono BB.out.size); clear hv_0 hv_1 hv_2 hv_3 hv_4 hw_0 hw_1 hw_2 hw_3 hw_4; have hv_0 := HV.out.cell 0 _ rfl; have hv_1 := HV.out.cell 1 _ rfl; have hv_2 := HV.out.cell 2 _ rfl; have hv_3 := HV.out.cell 3 _ rfl; have hv_4 := HV.out.cell 4 _ rfl; have hw_0 := HW.out.cell 0 _ rfl; have hw_1 := HW.out.cell 1 _ rfl; have hw_2 := HW.out.cell 2 _ rfl; have hw_3 := HW.out.cell 3 _ rfl; have hw_4 := HW.out.cell 4 _ rfl; clear B9 Y9; clear t6; have t7 : (1 : Nat) = 1 := rfl)
    | (have q5 := t5; (with_reducible refine at_store ?_); refine store_lawC _ (sv false 0 0 0 (.slice none 0 0)) w4.heap.size 0 rfl rfl HW.out.2 rowy_rslot.2 (sv_one _ _ _ _ rfl) ?_; intro w6 E9 R9 T9 B9; have K9 : ∀ k, k ≠ w4.heap.size → w6.heap[k]? = w5.heap[k]? := (by rw [E9.out]; exact fun k hk => heap_cells _ _ _ _ k hk); have NB_HV : Hid (NoB w6 w1.heap.size) := NB_HV.out.heap (K9 _ (Nat.ne_of_lt LT_HV_HW.out)); have HV : Hid (Vr w6 w1.heap.size (sv false 0 0 0 (.slice none 0 0))) := HV.out.heap (K9 _ (Nat.ne_of_lt LT_HV_HW.out)); have NB_HW : Hid (NoB w6 w4.heap.size) := (by rw [E9.out]; exact NB_HW.out.set HW.out rfl (sv_nob _ _ _ _ _ _ _)); have HW : Hid (Vr w6 w4.heap.size (sv false 0 0 0 (.slice none 0 0))) := ⟨R9, T9⟩; have BB : Hid (Below w.heap.size w w6) := BB.out.trans (B9.mono LE_HW.out); clear hv_0 hv_1 hv_2 hv_3 hv_4; have hv_0 := HV.out.cell 0 _ rfl; have hv_1 := HV.out.cell 1 _ rfl; have hv_2 := HV.out.cell 2 _ rfl; have hv_3 := HV.out.cell 3 _ rfl; have hv_4 := HV.out.cell 4 _ rfl; have hw_0 := HW.out.cell 0 _ rfl; have hw_1 := HW.out.cell 1 _ rfl; have hw_2 := HW.out.cell 2 _ rfl; have hw_3 := HW.out.cell 3 _ rfl; have hw_4 := HW.out.cell 4 _ rfl; clear E9 R9 T9 B9 K9; clear t5; have t6 : (1 : Nat) = 1 := rfl)
    | (have q4 := t4; (with_reducible refine at_alloc ?_); refine new_lawN _ (sv false 0 0 0 (.slice none 0 0)) zero_rslot (sv_nob _ _ _ _ _ _ _) ?_; intro w5 X9 N9 B9; have LT_HV_HW : Hid (w1.heap.size < w4.heap.size) := range_lt HV.out.1 (Nat.succ_pos _); have LE_HW : Hid (w.heap.size ≤ w4.heap.size) := BB.out.size; have NB_HV : Hid (NoB w5 w1.heap.size) := NB_HV.out.heap (B9.block _ (range_lt HV.out.1 (Nat.succ_pos _))); have HV : Hid (Vr w5 w1.heap.size (sv false 0 0 0 (.slice none 0 0))) := HV.out.below B9 (range_lt HV.out.1 (Nat.succ_pos _)); have HW : Hid (Vr w5 w4.heap.size (sv false 0 0 0 (.slice none 0 0))) := X9; have NB_HW : Hid (NoB w5 w4.heap.size) := N9; have BB : Hid (Below w.heap.size w w5) := BB.out.trans (B9.mono BB.out.size); clear hv_0 hv_1 hv_2 hv_3 hv_4; have hv_0 := HV.out.cell 0 _ rfl; have hv_1 := HV.out.cell 1 _ rfl; have hv_2 := HV.out.cell 2 _ rfl; have hv_3 := HV.out.cell 3 _ rfl; have hv_4 := HV.out.cell 4 _ rfl; clear X9 N9 B9; clear t4; have t5 : (1 : Nat) = 1 := rfl)
    | (have q3 := t3; go_at_call 15; refine (SQ.out w3 BB.out).mono ?_; rintro e9 w4 ⟨rfl, B9⟩; have NB_HV : Hid (NoB w4 w1.heap.size) := NB_HV.out.heap (B9.block _ (range_lt HV.out.1 (Nat.succ_pos _))); have HV : Hid (Vr w4 w1.heap.size (sv false 0 0 0 (.slice none 0 0))) := HV.out.below B9 (range_lt HV.out.1 (Nat.succ_pos _)); have BB : Hid (Below w.heap.size w w4) := BB.out.trans (B9.mono BB.out.size); clear hv_0 hv_1 hv_2 hv_3 hv_4; have hv_0 := HV.out.cell 0 _ rfl; have hv_1 := HV.out.cell 1 _ rfl; have hv_2 := HV.out.cell 2 _ rfl; have hv_3 := HV.out.cell 3 _ rfl; have hv_4 := HV.out.cell 4 _ rfl; clear B9; clear t3; have t4 : (1 : Nat) = 1 := rfl)
    | (have q2 := t2; (with_reducible refine at_store ?_); refine store_lawC _ (sv false 0 0 0 (.slice none 0 0)) w1.heap.size 0 rfl rfl HV.out.2 rowy_slot.2 (sv_one _ _ _ _ rfl) ?_; intro w3 E9 R9 T9 B9; have K9 : ∀ k, k ≠ w1.heap.size → w3.heap[k]? = w2.heap[k]? := (by rw [E9.out]; exact fun k hk => heap_cells _ _ _ _ k hk); have NB_HV : Hid (NoB w3 w1.heap.size) := (by rw [E9.out]; exact NB_HV.out.set HV.out rfl (sv_nob _ _ _ _ _ _ _)); have HV : Hid (Vr w3 w1.heap.size (sv false 0 0 0 (.slice none 0 0))) := ⟨R9, T9⟩; have BB : Hid (Below w.heap.size w w3) := BB.out.trans (B9.mono LE_HV.out); have hv_0 := HV.out.cell 0 _ rfl; have hv_1 := HV.out.cell 1 _ rfl; have hv_2 := HV.out.cell 2 _ rfl; have hv_3 := HV.out.cell 3 _ rfl; have hv_4 := HV.out.cell 4 _ rfl; clear E9 R9 T9 B9 K9; clear t2; have t3 : (1 : Nat) = 1 := rfl)
    | (have q1 := t1; (with_reducible refine at_alloc ?_); refine new_lawN _ (sv false 0 0 0 (.slice none 0 0)) zero_slot (sv_nob _ _ _ _ _ _ _) ?_; intro w2 X9 N9 B9; have LE_HV : Hid (w.heap.size ≤ w1.heap.size) := BB.out.size; have HV : Hid (Vr w2 w1.heap.size (sv false 0 0 0 (.slice none 0 0))) := X9; have NB_HV : Hid (NoB w2 w1.heap.size) := N9; have BB : Hid (Below w.heap.size w w2) := BB.out.trans (B9.mono BB.out.size); clear X9 N9 B9; clear t1; have t2 : (1 : Nat) = 1 := rfl)
    | (have q0 := t0; go_at_call 12; refine (SD.out w (Below.refl _ _)).mono ?_; rintro e9 w1 ⟨rfl, B9⟩; have BB : Hid (Below w.heap.size w w1) := B9; clear B9; clear t0; have t1 : (1 : Nat) = 1 := rfl))
  refine wp_region_held_drew (S := fun w' => Below w7.heap.size w7 w') (by kernel_rfl) (Below.refl _ _).drew (fun hS => ?_)
  obtain ⟨x1, hx0⟩ : ∃ x, x = w7.drew := ⟨_, rfl⟩
  rw [← hx0] at hS  ⊢
  clear hx0
  refine take_lawH 0 (some 51) (.int .i64 0) rfl rfl (by kernel_rfl) (by kernel_rfl) (by kernel_rfl) (fun _ _ _ h => h) (Or.inl ⟨by rfl, fun w' hw' => by rfl⟩) hS ?_
  simp only [Act.put, List.setIfInBounds_toArray, List.set_cons_zero, List.set_cons_succ]
  refine take_lawH 1 (some 52) (.bool true) rfl rfl (by kernel_rfl) (by kernel_rfl) (by kernel_rfl) (fun _ _ _ h => h) (Or.inl ⟨by rfl, fun w' hw' => by rfl⟩) hS ?_
  simp only [Act.put, List.setIfInBounds_toArray, List.set_cons_zero, List.set_cons_succ]
  refine take_lawH 2 (some 53) (.bool true) rfl rfl (by kernel_rfl) (by kernel_rfl) (by kernel_rfl) (fun _ _ _ h => h) (Or.inl ⟨by rfl, fun w' hw' => by rfl⟩) hS ?_
  simp only [Act.put, List.setIfInBounds_toArray, List.set_cons_zero, List.set_cons_succ]
  refine take_lawH 3 (some 54) (.agg (sv false 0 0 0 (.slice none 0 0)).toArray) rfl rfl (by kernel_rfl) (by kernel_rfl) (by kernel_rfl) (fun _ _ _ h => h) (Or.inl ⟨by rfl, fun w' hw' => by exact exec_loadN 25 (.tmp 3) rfl _ rfl _ _ (load_cells rowy_slot (HV.out.below hw' (range_lt HV.out.1 (Nat.succ_pos _))).1)⟩) hS ?_
  simp only [Act.put, List.setIfInBounds_toArray, List.set_cons_zero, List.set_cons_succ]
  refine take_lawH 5 (some 56) (.agg (sv false 0 0 0 (.slice none 0 0)).toArray) rfl rfl (by kernel_rfl) (by kernel_rfl) (by kernel_rfl) (fun _ _ _ h => h) (Or.inl ⟨by rfl, fun w' hw' => by exact exec_loadN 33 (.tmp 5) rfl _ rfl _ _ (load_cells rowy_rslot (HW.out.below hw' (range_lt HW.out.1 (Nat.succ_pos _))).1)⟩) hS ?_
  simp only [Act.put, List.setIfInBounds_toArray, List.set_cons_zero, List.set_cons_succ]
  refine wpAnyH_ready (rs := [4]) (by kernel_rfl) (by simp) ?_
  refine AllReadyH.cons rfl (fun K hK => ?_) AllReadyH.nil
  refine he.step_callW _ (by rfl) (some 55) rfl 10 #[.tmp 54] #[25] rfl (fun q w' => by rfl) #[.agg (sv false 0 0 0 (.slice none 0 0)).toArray] (by simp only [List.map_toArray, List.map_cons, List.map_nil]; rfl) (fun z9 w' => z9 = .agg (sv false 0 0 0 (.slice none 0 0)).toArray ∧ Below x1.heap.size x1 w') ?_ ?_
  · exact (SO.out x1).mono fun e w' ⟨h1, h2⟩ => ⟨_, h1, rfl, h2⟩
  rintro _ x2 ⟨rfl, hb⟩
  have hS : Below w7.heap.size w7 x2 := hS.trans (hb.mono hS.size)
  clear hb
  refine hK.out _ _ hS (fun _ => ?_)
  simp only [Act.put, List.setIfInBounds_toArray, List.set_cons_zero, List.set_cons_succ]
  clear hK K
  refine wpAnyH_ready (rs := [6]) (by kernel_rfl) (by simp) ?_
  refine AllReadyH.cons rfl (fun K hK => ?_) AllReadyH.nil
  refine he.step_callW _ (by rfl) (some 57) rfl 11 #[.tmp 55, .tmp 56] #[33, 33] rfl (fun q w' => by rfl) #[.agg (sv false 0 0 0 (.slice none 0 0)).toArray, .agg (sv false 0 0 0 (.slice none 0 0)).toArray] (by simp only [List.map_toArray, List.map_cons, List.map_nil]; rfl) (fun z9 w' => z9 = .bool true ∧ Below x2.heap.size x2 w') ?_ ?_
  · exact (SS.out x2).mono fun e w' ⟨h1, h2⟩ => ⟨_, h1, rfl, h2⟩
  rintro _ x3 ⟨rfl, hb⟩
  have hS : Below w7.heap.size w7 x3 := hS.trans (hb.mono hS.size)
  clear hb
  refine hK.out _ _ hS (fun _ => ?_)
  simp only [Act.put, List.setIfInBounds_toArray, List.set_cons_zero, List.set_cons_succ]
  clear hK K
  refine take_lawH 7 (some 58) (.bool true) rfl rfl (by kernel_rfl) (by kernel_rfl) (by kernel_rfl) (fun _ _ _ h => h) (Or.inl ⟨by rfl, fun w' hw' => by rfl⟩) hS ?_
  simp only [Act.put, List.setIfInBounds_toArray, List.set_cons_zero, List.set_cons_succ]
  refine take_lawH 8 (some 59) (.bool true) rfl rfl (by kernel_rfl) (by kernel_rfl) (by kernel_rfl) (fun _ _ _ h => h) (Or.inl ⟨by rfl, fun w' hw' => by rfl⟩) hS ?_
  simp only [Act.put, List.setIfInBounds_toArray, List.set_cons_zero, List.set_cons_succ]
  refine take_lawH 9 (some 60) (.int .i64 0) rfl rfl (by kernel_rfl) (by kernel_rfl) (by kernel_rfl) (fun _ _ _ h => h) (Or.inl ⟨by rfl, fun w' hw' => by rfl⟩) hS ?_
  simp only [Act.put, List.setIfInBounds_toArray, List.set_cons_zero, List.set_cons_succ]
  refine take_lawH 10 (some 61) (.bool true) rfl rfl (by kernel_rfl) (by kernel_rfl) (by kernel_rfl) (fun _ _ _ h => h) (Or.inl ⟨by rfl, fun w' hw' => by rfl⟩) hS ?_
  simp only [Act.put, List.setIfInBounds_toArray, List.set_cons_zero, List.set_cons_succ]
  refine take_lawH 11 (some 62) (.bool true) rfl rfl (by kernel_rfl) (by kernel_rfl) (by kernel_rfl) (fun _ _ _ h => h) (Or.inl ⟨by rfl, fun w' hw' => by rfl⟩) hS ?_
  simp only [Act.put, List.setIfInBounds_toArray, List.set_cons_zero, List.set_cons_succ]
  refine take_lawH 12 (some 63) (.bool true) rfl rfl (by kernel_rfl) (by kernel_rfl) (by kernel_rfl) (fun _ _ _ h => h) (Or.inl ⟨by rfl, fun w' hw' => by rfl⟩) hS ?_
  simp only [Act.put, List.setIfInBounds_toArray, List.set_cons_zero, List.set_cons_succ]
  refine take_lawH 13 (some 64) (.slice (some ⟨g9, 0, none⟩) 128 128) rfl rfl (by kernel_rfl) (by kernel_rfl) (by kernel_rfl) (fun _ _ _ h => h) (Or.inl ⟨by rfl, fun w' hw' => by rfl⟩) hS ?_
  simp only [Act.put, List.setIfInBounds_toArray, List.set_cons_zero, List.set_cons_succ]
  refine take_lawH 14 (some 65) (.slice bo 128 bc) rfl rfl (by kernel_rfl) (by kernel_rfl) (by kernel_rfl) (fun _ _ _ h => h) (Or.inl ⟨by rfl, fun w' hw' => by rfl⟩) hS ?_
  simp only [Act.put, List.setIfInBounds_toArray, List.set_cons_zero, List.set_cons_succ]
  refine wpAnyH_ready (rs := [15]) (by kernel_rfl) (by simp) ?_
  refine AllReadyH.cons rfl (fun K hK => ?_) AllReadyH.nil
  refine he.step_callW _ (by rfl) (some 66) rfl 13 #[.tmp 64, .tmp 65] #[23, 23] rfl (fun q w' => by rfl) #[.slice (some ⟨g9, 0, none⟩) 128 128, .slice bo 128 bc] (by simp only [List.map_toArray, List.map_cons, List.map_nil]; rfl) (fun z9 w' => z9 = .bool true ∧ Below x3.heap.size x3 w') ?_ ?_
  · exact (so.same_yes x3 _ _ xs (HX.out.below hS) (HBB.out.below (BB.out.trans (hS.mono BB.out.size)))).mono fun e w' ⟨h1, h2⟩ => ⟨_, h1, rfl, h2⟩
  rintro _ x4 ⟨rfl, hb⟩
  have hS : Below w7.heap.size w7 x4 := hS.trans (hb.mono hS.size)
  clear hb
  refine hK.out _ _ hS (fun _ => ?_)
  simp only [Act.put, List.setIfInBounds_toArray, List.set_cons_zero, List.set_cons_succ]
  clear hK K
  refine take_lawH 16 (some 67) (.bool true) rfl rfl (by kernel_rfl) (by kernel_rfl) (by kernel_rfl) (fun _ _ _ h => h) (Or.inl ⟨by rfl, fun w' hw' => by rfl⟩) hS ?_
  simp only [Act.put, List.setIfInBounds_toArray, List.set_cons_zero, List.set_cons_succ]
  refine take_lawH 17 (some 68) (.bool true) rfl rfl (by kernel_rfl) (by kernel_rfl) (by kernel_rfl) (fun _ _ _ h => h) (Or.inl ⟨by rfl, fun w' hw' => by rfl⟩) hS ?_
  simp only [Act.put, List.setIfInBounds_toArray, List.set_cons_zero, List.set_cons_succ]
  refine wpAnyH_ready (rs := [18]) (by kernel_rfl) (by simp) ?_
  refine AllReadyH.cons rfl (fun K hK => ?_) AllReadyH.nil
  refine he.step_callW _ (by rfl) (some 69) rfl 5 #[] #[] rfl (fun q w' => by rfl) #[] (by simp only [List.map_toArray, List.map_nil]) (fun z9 w' => z9 = .bool true ∧ Below x4.heap.size x4 w') ?_ ?_
  · exact (awake_any x4).mono fun e w' ⟨h1, h2⟩ => ⟨_, h1, rfl, h2⟩
  rintro _ x5 ⟨rfl, hb⟩
  have hS : Below w7.heap.size w7 x5 := hS.trans (hb.mono hS.size)
  clear hb
  refine hK.out _ _ hS (fun _ => ?_)
  simp only [Act.put, List.setIfInBounds_toArray, List.set_cons_zero, List.set_cons_succ]
  clear hK K
  refine take_lawH 19 (some 70) (.bool true) rfl rfl (by kernel_rfl) (by kernel_rfl) (by kernel_rfl) (fun _ _ _ h => h) (Or.inl ⟨by rfl, fun w' hw' => by rfl⟩) hS ?_
  simp only [Act.put, List.setIfInBounds_toArray, List.set_cons_zero, List.set_cons_succ]
  refine take_lawH 20 (some 2) (.bool true) rfl rfl (by kernel_rfl) (by kernel_rfl) (by kernel_rfl) (fun _ _ _ h => h) (Or.inl ⟨by rfl, fun w' hw' => by rfl⟩) hS ?_
  simp only [Act.put, List.setIfInBounds_toArray, List.set_cons_zero, List.set_cons_succ]
  refine wpAnyH_done (by kernel_rfl) ?_ _
  clear hv_0 hv_1 hv_2 hv_3 hv_4 hw_0 hw_1 hw_2 hw_3 hw_4
  have BZ : Hid (Below w.heap.size w _) := BB.out.trans (hS.mono BB.out.size)
  clear hS
  go_wp2
  go_ret
  exact ⟨rfl, BZ.out⟩

set_option maxHeartbeats 8000000 in
theorem walk_yes (v : Value) (xs : List Int) (w : World) (hb : Byt w v xs) (hl : xs.length = 128) (hT : Tbl w) (h2 : Ur xs) :
    Calls Tryd.prog 4 #[v] w fun x w' => x = .returned (.bool true) ∧ Below w.heap.size w w' := by
  have gs := g_sb hl hb.all
  have HBB : Hid (Byt w v xs) := hb
  have SD : Hid (∀ w0, Below w.heap.size w w0 → Calls Tryd.prog 12 #[v] w0 fun x w' => ∃ yo yc, x = .returned (.tuple #[.agg (sv true (so.gn xs) (so.ge' xs) (so.gt' xs) (.slice yo 104 yc)).toArray, .int .i64 0]) ∧ Byt w' (.slice yo 104 yc) (so.gw xs) ∧ Below w0.heap.size w0 w') := fun w0 q => read_yes v xs w0 (hb.below q) hl (hT.below q hT.lt) h2
  have SQ : Hid (∀ w0, Below w.heap.size w w0 → Calls Tryd.prog 15 #[v] w0 fun x w' => ∃ yo yc, x = .returned (.tuple #[.agg (sv true (so.gn xs) (so.ge' xs) (so.gt' xs) (.slice yo 104 yc)).toArray, .bool true]) ∧ Byt w' (.slice yo 104 yc) (so.gw xs) ∧ Below w0.heap.size w0 w') := fun w0 q => rread_yes v xs w0 (hb.below q) hl h2
  have SB : Hid (∀ w0 z, Below w.heap.size w w0 → Byt w0 z (so.gw xs) → Calls Tryd.prog 6 #[.agg (sv true (so.gn xs) (so.ge' xs) (so.gt' xs) z).toArray] w0 fun x w' => ∃ g, x = .returned (.tuple #[.slice (some ⟨g, 0, none⟩) 128 128, .int .i64 0]) ∧ Byt w' (.slice (some ⟨g, 0, none⟩) 128 128) xs ∧ Below w0.heap.size w0 w') := fun w0 z q hz => by
    have r := bytes_yes true _ _ _ z _ w0 hz gs.1 ⟨h2.2.2.2.2.1, h2.2.2.2.2.2, gs.2.1⟩ (hT.below q hT.lt)
    rw [show so.sb true (so.gn xs) (so.ge' xs) (so.gt' xs) (so.gw xs) = xs from sbt_g hl hb.all h2.1 h2.2.1 h2.2.2.1 h2.2.2.2.1] at r
    exact r
  have SO : Hid (∀ w0 z, Byt w0 z (so.gw xs) → Calls Tryd.prog 10 #[.agg (sv true (so.gn xs) (so.ge' xs) (so.gt' xs) z).toArray] w0 fun x w' => x = .returned (.agg (sv true (so.gn xs) (so.ge' xs) (so.gt' xs) z).toArray) ∧ Below w0.heap.size w0 w') := fun w0 z hz => so.of_any true _ _ _ z _ w0 hz
  obtain ⟨bo, bc, rfl⟩ := byt_form hb hl
  generalize so.gw xs = W at SD SQ SB SO
  generalize so.gn xs = a at SD SQ SB SO
  generalize so.ge' xs = b at SD SQ SB SO
  generalize so.gt' xs = c at SD SQ SB SO
  clear hb hl hT h2 gs
  have t0 : (0 : Nat) = 0 := rfl
  go_enter Tryd.func4, Tryd.ntmps4
  go_wp2_with (first
    | (have q6 := t6; go_at_call 6; refine (SB.out w6 _ BB.out HY.out).mono ?_; rintro e9 w7 ⟨g9, rfl, Y9, B9⟩; have HY : Hid (Byt w7 (.slice yo 104 yc) W) := HY.out.below B9; have NB_HV : Hid (NoB w7 w1.heap.size) := NB_HV.out.heap (B9.block _ (range_lt HV.out.1 (Nat.succ_pos _))); have HV : Hid (Vr w7 w1.heap.size (sv true a b c (.slice yo 104 yc))) := HV.out.below B9 (range_lt HV.out.1 (Nat.succ_pos _)); have HZ : Hid (Byt w7 (.slice zo 104 zc) W) := HZ.out.below B9; have NB_HW : Hid (NoB w7 w4.heap.size) := NB_HW.out.heap (B9.block _ (range_lt HW.out.1 (Nat.succ_pos _))); have HW : Hid (Vr w7 w4.heap.size (sv true a b c (.slice zo 104 zc))) := HW.out.below B9 (range_lt HW.out.1 (Nat.succ_pos _)); have HX : Hid (Byt w7 (.slice (some ⟨g9, 0, none⟩) 128 128) xs) := Y9; have BB : Hid (Below w.heap.size w w7) := BB.out.trans (B9.mono BB.out.size); clear hv_0 hv_1 hv_2 hv_3 hv_4 hw_0 hw_1 hw_2 hw_3 hw_4; have hv_0 := HV.out.cell 0 _ rfl; have hv_1 := HV.out.cell 1 _ rfl; have hv_2 := HV.out.cell 2 _ rfl; have hv_3 := HV.out.cell 3 _ rfl; have hv_4 := HV.out.cell 4 _ rfl; have hw_0 := HW.out.cell 0 _ rfl; have hw_1 := HW.out.cell 1 _ rfl; have hw_2 := HW.out.cell 2 _ rfl; have hw_3 := HW.out.cell 3 _ rfl; have hw_4 := HW.out.cell 4 _ rfl; clear B9 Y9; clear t6; have t7 : (1 : Nat) = 1 := rfl)
    | (have q5 := t5; (with_reducible refine at_store ?_); refine store_lawC _ (sv true a b c (.slice zo 104 zc)) w4.heap.size 0 rfl rfl HW.out.2 rowy_rslot.2 (sv_one _ _ _ _ rfl) ?_; intro w6 E9 R9 T9 B9; have K9 : ∀ k, k ≠ w4.heap.size → w6.heap[k]? = w5.heap[k]? := (by rw [E9.out]; exact fun k hk => heap_cells _ _ _ _ k hk); have HY : Hid (Byt w6 (.slice yo 104 yc) W) := byt_nob HY.out NB_HW.out K9; have NB_HV : Hid (NoB w6 w1.heap.size) := NB_HV.out.heap (K9 _ (Nat.ne_of_lt LT_HV_HW.out)); have HV : Hid (Vr w6 w1.heap.size (sv true a b c (.slice yo 104 yc))) := HV.out.heap (K9 _ (Nat.ne_of_lt LT_HV_HW.out)); have HZ : Hid (Byt w6 (.slice zo 104 zc) W) := byt_nob HZ.out NB_HW.out K9; have NB_HW : Hid (NoB w6 w4.heap.size) := (by rw [E9.out]; exact NB_HW.out.set HW.out rfl (sv_nob _ _ _ _ _ _ _)); have HW : Hid (Vr w6 w4.heap.size (sv true a b c (.slice zo 104 zc))) := ⟨R9, T9⟩; have BB : Hid (Below w.heap.size w w6) := BB.out.trans (B9.mono LE_HW.out); clear hv_0 hv_1 hv_2 hv_3 hv_4; have hv_0 := HV.out.cell 0 _ rfl; have hv_1 := HV.out.cell 1 _ rfl; have hv_2 := HV.out.cell 2 _ rfl; have hv_3 := HV.out.cell 3 _ rfl; have hv_4 := HV.out.cell 4 _ rfl; have hw_0 := HW.out.cell 0 _ rfl; have hw_1 := HW.out.cell 1 _ rfl; have hw_2 := HW.out.cell 2 _ rfl; have hw_3 := HW.out.cell 3 _ rfl; have hw_4 := HW.out.cell 4 _ rfl; clear E9 R9 T9 B9 K9; clear t5; have t6 : (1 : Nat) = 1 := rfl)
    | (have q4 := t4; (with_reducible refine at_alloc ?_); refine new_lawN _ (sv false 0 0 0 (.slice none 0 0)) zero_rslot (sv_nob _ _ _ _ _ _ _) ?_; intro w5 X9 N9 B9; have LT_HV_HW : Hid (w1.heap.size < w4.heap.size) := range_lt HV.out.1 (Nat.succ_pos _); have LE_HW : Hid (w.heap.size ≤ w4.heap.size) := BB.out.size; have HY : Hid (Byt w5 (.slice yo 104 yc) W) := HY.out.below B9; have NB_HV : Hid (NoB w5 w1.heap.size) := NB_HV.out.heap (B9.block _ (range_lt HV.out.1 (Nat.succ_pos _))); have HV : Hid (Vr w5 w1.heap.size (sv true a b c (.slice yo 104 yc))) := HV.out.below B9 (range_lt HV.out.1 (Nat.succ_pos _)); have HZ : Hid (Byt w5 (.slice zo 104 zc) W) := HZ.out.below B9; have HW : Hid (Vr w5 w4.heap.size (sv false 0 0 0 (.slice none 0 0))) := X9; have NB_HW : Hid (NoB w5 w4.heap.size) := N9; have BB : Hid (Below w.heap.size w w5) := BB.out.trans (B9.mono BB.out.size); clear hv_0 hv_1 hv_2 hv_3 hv_4; have hv_0 := HV.out.cell 0 _ rfl; have hv_1 := HV.out.cell 1 _ rfl; have hv_2 := HV.out.cell 2 _ rfl; have hv_3 := HV.out.cell 3 _ rfl; have hv_4 := HV.out.cell 4 _ rfl; clear X9 N9 B9; clear t4; have t5 : (1 : Nat) = 1 := rfl)
    | (have q3 := t3; go_at_call 15; refine (SQ.out w3 BB.out).mono ?_; rintro e9 w4 ⟨zo, zc, rfl, Y9, B9⟩; have HY : Hid (Byt w4 (.slice yo 104 yc) W) := HY.out.below B9; have NB_HV : Hid (NoB w4 w1.heap.size) := NB_HV.out.heap (B9.block _ (range_lt HV.out.1 (Nat.succ_pos _))); have HV : Hid (Vr w4 w1.heap.size (sv true a b c (.slice yo 104 yc))) := HV.out.below B9 (range_lt HV.out.1 (Nat.succ_pos _)); have HZ : Hid (Byt w4 (.slice zo 104 zc) W) := Y9; have BB : Hid (Below w.heap.size w w4) := BB.out.trans (B9.mono BB.out.size); clear hv_0 hv_1 hv_2 hv_3 hv_4; have hv_0 := HV.out.cell 0 _ rfl; have hv_1 := HV.out.cell 1 _ rfl; have hv_2 := HV.out.cell 2 _ rfl; have hv_3 := HV.out.cell 3 _ rfl; have hv_4 := HV.out.cell 4 _ rfl; clear B9 Y9; clear t3; have t4 : (1 : Nat) = 1 := rfl)
    | (have q2 := t2; (with_reducible refine at_store ?_); refine store_lawC _ (sv true a b c (.slice yo 104 yc)) w1.heap.size 0 rfl rfl HV.out.2 rowy_slot.2 (sv_one _ _ _ _ rfl) ?_; intro w3 E9 R9 T9 B9; have K9 : ∀ k, k ≠ w1.heap.size → w3.heap[k]? = w2.heap[k]? := (by rw [E9.out]; exact fun k hk => heap_cells _ _ _ _ k hk); have HY : Hid (Byt w3 (.slice yo 104 yc) W) := byt_nob HY.out NB_HV.out K9; have NB_HV : Hid (NoB w3 w1.heap.size) := (by rw [E9.out]; exact NB_HV.out.set HV.out rfl (sv_nob _ _ _ _ _ _ _)); have HV : Hid (Vr w3 w1.heap.size (sv true a b c (.slice yo 104 yc))) := ⟨R9, T9⟩; have BB : Hid (Below w.heap.size w w3) := BB.out.trans (B9.mono LE_HV.out); have hv_0 := HV.out.cell 0 _ rfl; have hv_1 := HV.out.cell 1 _ rfl; have hv_2 := HV.out.cell 2 _ rfl; have hv_3 := HV.out.cell 3 _ rfl; have hv_4 := HV.out.cell 4 _ rfl; clear E9 R9 T9 B9 K9; clear t2; have t3 : (1 : Nat) = 1 := rfl)
    | (have q1 := t1; (with_reducible refine at_alloc ?_); refine new_lawN _ (sv false 0 0 0 (.slice none 0 0)) zero_slot (sv_nob _ _ _ _ _ _ _) ?_; intro w2 X9 N9 B9; have LE_HV : Hid (w.heap.size ≤ w1.heap.size) := BB.out.size; have HY : Hid (Byt w2 (.slice yo 104 yc) W) := HY.out.below B9; have HV : Hid (Vr w2 w1.heap.size (sv false 0 0 0 (.slice none 0 0))) := X9; have NB_HV : Hid (NoB w2 w1.heap.size) := N9; have BB : Hid (Below w.heap.size w w2) := BB.out.trans (B9.mono BB.out.size); clear X9 N9 B9; clear t1; have t2 : (1 : Nat) = 1 := rfl)
    | (have q0 := t0; go_at_call 12; refine (SD.out w (Below.refl _ _)).mono ?_; rintro e9 w1 ⟨yo, yc, rfl, Y9, B9⟩; have HY : Hid (Byt w1 (.slice yo 104 yc) W) := Y9; have BB : Hid (Below w.heap.size w w1) := B9; clear B9 Y9; clear t0; have t1 : (1 : Nat) = 1 := rfl))
  refine wp_region_held_drew (S := fun w' => Below w7.heap.size w7 w') (by kernel_rfl) (Below.refl _ _).drew (fun hS => ?_)
  obtain ⟨x1, hx0⟩ : ∃ x, x = w7.drew := ⟨_, rfl⟩
  rw [← hx0] at hS  ⊢
  clear hx0
  refine take_lawH 0 (some 51) (.int .i64 0) rfl rfl (by kernel_rfl) (by kernel_rfl) (by kernel_rfl) (fun _ _ _ h => h) (Or.inl ⟨by rfl, fun w' hw' => by rfl⟩) hS ?_
  simp only [Act.put, List.setIfInBounds_toArray, List.set_cons_zero, List.set_cons_succ]
  refine take_lawH 1 (some 52) (.bool true) rfl rfl (by kernel_rfl) (by kernel_rfl) (by kernel_rfl) (fun _ _ _ h => h) (Or.inl ⟨by rfl, fun w' hw' => by rfl⟩) hS ?_
  simp only [Act.put, List.setIfInBounds_toArray, List.set_cons_zero, List.set_cons_succ]
  refine take_lawH 2 (some 53) (.bool true) rfl rfl (by kernel_rfl) (by kernel_rfl) (by kernel_rfl) (fun _ _ _ h => h) (Or.inl ⟨by rfl, fun w' hw' => by rfl⟩) hS ?_
  simp only [Act.put, List.setIfInBounds_toArray, List.set_cons_zero, List.set_cons_succ]
  refine take_lawH 3 (some 54) (.agg (sv true a b c (.slice yo 104 yc)).toArray) rfl rfl (by kernel_rfl) (by kernel_rfl) (by kernel_rfl) (fun _ _ _ h => h) (Or.inl ⟨by rfl, fun w' hw' => by exact exec_loadN 25 (.tmp 3) rfl _ rfl _ _ (load_cells rowy_slot (HV.out.below hw' (range_lt HV.out.1 (Nat.succ_pos _))).1)⟩) hS ?_
  simp only [Act.put, List.setIfInBounds_toArray, List.set_cons_zero, List.set_cons_succ]
  refine take_lawH 5 (some 56) (.agg (sv true a b c (.slice zo 104 zc)).toArray) rfl rfl (by kernel_rfl) (by kernel_rfl) (by kernel_rfl) (fun _ _ _ h => h) (Or.inl ⟨by rfl, fun w' hw' => by exact exec_loadN 33 (.tmp 5) rfl _ rfl _ _ (load_cells rowy_rslot (HW.out.below hw' (range_lt HW.out.1 (Nat.succ_pos _))).1)⟩) hS ?_
  simp only [Act.put, List.setIfInBounds_toArray, List.set_cons_zero, List.set_cons_succ]
  refine wpAnyH_ready (rs := [4]) (by kernel_rfl) (by simp) ?_
  refine AllReadyH.cons rfl (fun K hK => ?_) AllReadyH.nil
  refine he.step_callW _ (by rfl) (some 55) rfl 10 #[.tmp 54] #[25] rfl (fun q w' => by rfl) #[.agg (sv true a b c (.slice yo 104 yc)).toArray] (by simp only [List.map_toArray, List.map_cons, List.map_nil]; rfl) (fun z9 w' => z9 = .agg (sv true a b c (.slice yo 104 yc)).toArray ∧ Below x1.heap.size x1 w') ?_ ?_
  · exact (SO.out x1 _ (HY.out.below hS)).mono fun e w' ⟨h1, h2⟩ => ⟨_, h1, rfl, h2⟩
  rintro _ x2 ⟨rfl, hb⟩
  have hS : Below w7.heap.size w7 x2 := hS.trans (hb.mono hS.size)
  clear hb
  refine hK.out _ _ hS (fun _ => ?_)
  simp only [Act.put, List.setIfInBounds_toArray, List.set_cons_zero, List.set_cons_succ]
  clear hK K
  refine wpAnyH_ready (rs := [6]) (by kernel_rfl) (by simp) ?_
  refine AllReadyH.cons rfl (fun K hK => ?_) AllReadyH.nil
  refine he.step_callW _ (by rfl) (some 57) rfl 11 #[.tmp 55, .tmp 56] #[33, 33] rfl (fun q w' => by rfl) #[.agg (sv true a b c (.slice yo 104 yc)).toArray, .agg (sv true a b c (.slice zo 104 zc)).toArray] (by simp only [List.map_toArray, List.map_cons, List.map_nil]; rfl) (fun z9 w' => z9 = .bool true ∧ Below x2.heap.size x2 w') ?_ ?_
  · exact (rsame_yes true a b c _ _ W x2 (HY.out.below hS) (HZ.out.below hS)).mono fun e w' ⟨h1, h2⟩ => ⟨_, h1, rfl, h2⟩
  rintro _ x3 ⟨rfl, hb⟩
  have hS : Below w7.heap.size w7 x3 := hS.trans (hb.mono hS.size)
  clear hb
  refine hK.out _ _ hS (fun _ => ?_)
  simp only [Act.put, List.setIfInBounds_toArray, List.set_cons_zero, List.set_cons_succ]
  clear hK K
  refine take_lawH 7 (some 58) (.bool true) rfl rfl (by kernel_rfl) (by kernel_rfl) (by kernel_rfl) (fun _ _ _ h => h) (Or.inl ⟨by rfl, fun w' hw' => by rfl⟩) hS ?_
  simp only [Act.put, List.setIfInBounds_toArray, List.set_cons_zero, List.set_cons_succ]
  refine take_lawH 8 (some 59) (.bool true) rfl rfl (by kernel_rfl) (by kernel_rfl) (by kernel_rfl) (fun _ _ _ h => h) (Or.inl ⟨by rfl, fun w' hw' => by rfl⟩) hS ?_
  simp only [Act.put, List.setIfInBounds_toArray, List.set_cons_zero, List.set_cons_succ]
  refine take_lawH 9 (some 60) (.int .i64 0) rfl rfl (by kernel_rfl) (by kernel_rfl) (by kernel_rfl) (fun _ _ _ h => h) (Or.inl ⟨by rfl, fun w' hw' => by rfl⟩) hS ?_
  simp only [Act.put, List.setIfInBounds_toArray, List.set_cons_zero, List.set_cons_succ]
  refine take_lawH 10 (some 61) (.bool true) rfl rfl (by kernel_rfl) (by kernel_rfl) (by kernel_rfl) (fun _ _ _ h => h) (Or.inl ⟨by rfl, fun w' hw' => by rfl⟩) hS ?_
  simp only [Act.put, List.setIfInBounds_toArray, List.set_cons_zero, List.set_cons_succ]
  refine take_lawH 11 (some 62) (.bool true) rfl rfl (by kernel_rfl) (by kernel_rfl) (by kernel_rfl) (fun _ _ _ h => h) (Or.inl ⟨by rfl, fun w' hw' => by rfl⟩) hS ?_
  simp only [Act.put, List.setIfInBounds_toArray, List.set_cons_zero, List.set_cons_succ]
  refine take_lawH 12 (some 63) (.bool true) rfl rfl (by kernel_rfl) (by kernel_rfl) (by kernel_rfl) (fun _ _ _ h => h) (Or.inl ⟨by rfl, fun w' hw' => by rfl⟩) hS ?_
  simp only [Act.put, List.setIfInBounds_toArray, List.set_cons_zero, List.set_cons_succ]
  refine take_lawH 13 (some 64) (.slice (some ⟨g9, 0, none⟩) 128 128) rfl rfl (by kernel_rfl) (by kernel_rfl) (by kernel_rfl) (fun _ _ _ h => h) (Or.inl ⟨by rfl, fun w' hw' => by rfl⟩) hS ?_
  simp only [Act.put, List.setIfInBounds_toArray, List.set_cons_zero, List.set_cons_succ]
  refine take_lawH 14 (some 65) (.slice bo 128 bc) rfl rfl (by kernel_rfl) (by kernel_rfl) (by kernel_rfl) (fun _ _ _ h => h) (Or.inl ⟨by rfl, fun w' hw' => by rfl⟩) hS ?_
  simp only [Act.put, List.setIfInBounds_toArray, List.set_cons_zero, List.set_cons_succ]
  refine wpAnyH_ready (rs := [15]) (by kernel_rfl) (by simp) ?_
  refine AllReadyH.cons rfl (fun K hK => ?_) AllReadyH.nil
  refine he.step_callW _ (by rfl) (some 66) rfl 13 #[.tmp 64, .tmp 65] #[23, 23] rfl (fun q w' => by rfl) #[.slice (some ⟨g9, 0, none⟩) 128 128, .slice bo 128 bc] (by simp only [List.map_toArray, List.map_cons, List.map_nil]; rfl) (fun z9 w' => z9 = .bool true ∧ Below x3.heap.size x3 w') ?_ ?_
  · exact (so.same_yes x3 _ _ xs (HX.out.below hS) (HBB.out.below (BB.out.trans (hS.mono BB.out.size)))).mono fun e w' ⟨h1, h2⟩ => ⟨_, h1, rfl, h2⟩
  rintro _ x4 ⟨rfl, hb⟩
  have hS : Below w7.heap.size w7 x4 := hS.trans (hb.mono hS.size)
  clear hb
  refine hK.out _ _ hS (fun _ => ?_)
  simp only [Act.put, List.setIfInBounds_toArray, List.set_cons_zero, List.set_cons_succ]
  clear hK K
  refine take_lawH 16 (some 67) (.bool true) rfl rfl (by kernel_rfl) (by kernel_rfl) (by kernel_rfl) (fun _ _ _ h => h) (Or.inl ⟨by rfl, fun w' hw' => by rfl⟩) hS ?_
  simp only [Act.put, List.setIfInBounds_toArray, List.set_cons_zero, List.set_cons_succ]
  refine take_lawH 17 (some 68) (.bool true) rfl rfl (by kernel_rfl) (by kernel_rfl) (by kernel_rfl) (fun _ _ _ h => h) (Or.inl ⟨by rfl, fun w' hw' => by rfl⟩) hS ?_
  simp only [Act.put, List.setIfInBounds_toArray, List.set_cons_zero, List.set_cons_succ]
  refine wpAnyH_ready (rs := [18]) (by kernel_rfl) (by simp) ?_
  refine AllReadyH.cons rfl (fun K hK => ?_) AllReadyH.nil
  refine he.step_callW _ (by rfl) (some 69) rfl 5 #[] #[] rfl (fun q w' => by rfl) #[] (by simp only [List.map_toArray, List.map_nil]) (fun z9 w' => z9 = .bool true ∧ Below x4.heap.size x4 w') ?_ ?_
  · exact (awake_any x4).mono fun e w' ⟨h1, h2⟩ => ⟨_, h1, rfl, h2⟩
  rintro _ x5 ⟨rfl, hb⟩
  have hS : Below w7.heap.size w7 x5 := hS.trans (hb.mono hS.size)
  clear hb
  refine hK.out _ _ hS (fun _ => ?_)
  simp only [Act.put, List.setIfInBounds_toArray, List.set_cons_zero, List.set_cons_succ]
  clear hK K
  refine take_lawH 19 (some 70) (.bool true) rfl rfl (by kernel_rfl) (by kernel_rfl) (by kernel_rfl) (fun _ _ _ h => h) (Or.inl ⟨by rfl, fun w' hw' => by rfl⟩) hS ?_
  simp only [Act.put, List.setIfInBounds_toArray, List.set_cons_zero, List.set_cons_succ]
  refine take_lawH 20 (some 2) (.bool true) rfl rfl (by kernel_rfl) (by kernel_rfl) (by kernel_rfl) (fun _ _ _ h => h) (Or.inl ⟨by rfl, fun w' hw' => by rfl⟩) hS ?_
  simp only [Act.put, List.setIfInBounds_toArray, List.set_cons_zero, List.set_cons_succ]
  refine wpAnyH_done (by kernel_rfl) ?_ _
  clear hv_0 hv_1 hv_2 hv_3 hv_4 hw_0 hw_1 hw_2 hw_3 hw_4
  have BZ : Hid (Below w.heap.size w _) := BB.out.trans (hS.mono BB.out.size)
  clear hS
  go_wp2
  go_ret
  exact ⟨rfl, BZ.out⟩

theorem walk (v : Value) (xs : List Int) (w : World) (hb : Byt w v xs) (hT : Tbl w) :
    Calls Tryd.prog 4 #[v] w fun x w' => x = .returned (.bool true) ∧ Below w.heap.size w w' := by
  by_cases hl : xs.length = 128
  · by_cases h1 : xs = List.replicate 128 0
    · exact walk_free v xs w hb hl hT h1
    · by_cases h2 : Ur xs
      · exact walk_yes v xs w hb hl hT h2
      · exact walk_no v xs w hb hl hT h1 h2
  · exact walk_len v xs w hb hl

theorem params : ∀ t ∈ Tryd.f4.params.toList, Tryd.prog.readableRec t = true ∧ t < Tryd.prog.types.size := by
  rw [Tryd.params4]
  intro t ht
  simp at ht
  subst ht
  exact ⟨by kernel_rfl, of_decide_eq_true (by kernel_rfl)⟩

theorem contract (H : Type) (enc : TypeId × Value → H) (W : World) (base : Nat) (args : Array Value) (ds gs : List (DataW H)) (before : List MemPlace)
    (hval : ∀ (j : Nat) t v, Tryd.f4.params[j]? = some t → args[j]? = some v → Value.okWide Tryd.prog W .any base t v)
    (hW : DataW.Whole enc Tryd.prog Tryd.f4.params.toList Rows.slotReadsSpec.vars false W args.toList ds gs before) (hL : laidMetH Tryd.prog Rows.slotReadsRow.laid W) :
    Calls Tryd.prog 4 args W fun e W' => ∃ v, e = .returned v ∧ Rows.slotReadsSpec.post enc Tryd.prog Tryd.f4 false true false false W args v W' := by
  have hW' := hW
  obtain ⟨p, q, hA0, hV, rfl, hfz, hnd⟩ := hW
  have hA : DataW.TrodAll enc Tryd.prog W 0 (fun _ => true) true Tryd.f4.params.toList args.toList ds p := hA0
  rw [Tryd.params4] at hA hval
  obtain ⟨v0, d0, rfl, rfl, h0⟩ := trodAll_one hA
  obtain ⟨rfl, rfl⟩ := trodVars_none hV
  obtain ⟨xs0, b0⟩ := byt_open (hval 0 23 v0 rfl rfl) h0
  clear hA0
  refine (walk v0 xs0 W b0 (table hL)).mono fun e W' ⟨he, hg⟩ => ?_
  subst he
  exact ⟨_, rfl, post_law rfl (by kernel_rfl) params rfl rfl rfl hW' hg⟩

theorem laid_met (os : Os) : laidMet Tryd.prog Rows.slotReadsRow.laid (({ World.holding Tryd.prog os ⟨#[], #[], []⟩ with heap := (World.holding Tryd.prog os ⟨#[], #[], []⟩).heap.modify 0 fun | .cells _ t frozen => .cells #[.int .i64 1, .int .i64 3, .int .i64 4, .int .i64 8, .int .i64 8] t frozen | o => o } : World).forCall (fun _ _ => 0) ⟨#[], #[.slice none 0 0], []⟩).memory :=
  laidMet_of_run' 8 (by kernel_rfl) (by kernel_rfl)
theorem reads (os : Os) {H : Type} (enc : TypeId × Value → H) : ∃ places, DataW.whole enc Tryd.prog (({ World.holding Tryd.prog os ⟨#[], #[], []⟩ with heap := (World.holding Tryd.prog os ⟨#[], #[], []⟩).heap.modify 0 fun | .cells _ t frozen => .cells #[.int .i64 1, .int .i64 3, .int .i64 4, .int .i64 8, .int .i64 8] t frozen | o => o } : World).forCall (fun _ _ => 0) ⟨#[], #[.slice none 0 0], []⟩).memory Tryd.f4.params.toList Rows.slotReadsSpec.vars false #[Value.slice none 0 0].toList 8 = some ([.nil], [], places) :=
  ⟨[], by kernel_rfl⟩

set_option maxRecDepth 100000 in
theorem lifted (os : Os) (started : os.Started) (H : Type) (enc : TypeId × Value → H) (F : Stop.Interp) :
    ReturnsInHanded {} Tryd.checked os 4 .any ((OpenSpec.ofChange Rows.slotReadsSpec).preRow enc Tryd.prog Tryd.f4 Rows.slotReadsRow.domain false Rows.slotReadsRow.laid) (((OpenSpec.ofChange Rows.slotReadsSpec).at F).post enc Tryd.prog Tryd.f4 false true false false) := by
  obtain ⟨places, hx⟩ := reads os enc
  refine returnsInHanded_of_row (C := Tryd.checked) (s := OpenSpec.ofChange Rows.slotReadsSpec) own started (by kernel_rfl) Tryd.func4
    (witness_row_at (enc := enc) (C := Tryd.checked) false ({ World.holding Tryd.prog os ⟨#[], #[], []⟩ with heap := (World.holding Tryd.prog os ⟨#[], #[], []⟩).heap.modify 0 fun | .cells _ t frozen => .cells #[.int .i64 1, .int .i64 3, .int .i64 4, .int .i64 8, .int .i64 8] t frozen | o => o } : World) #[.slice none 0 0] rfl (by kernel_rfl) (by kernel_rfl) (by kernel_rfl)
      (OpenSpec.preRow_of_cond 8 hx (by kernel_rfl) (fun k hk => by cases hk) (by kernel_rfl) (laid_met os))) ?_
  intro W base args ds gs before hval hW _ _ _ hL _ _
  exact contract H enc W base args ds gs before hval hW hL

theorem said : Rows.SlotReadsSaid :=
  OpenClaim.holds_of_cond 4 Tryd.f4 rfl rfl rfl rfl rfl rfl rfl ⟨rfl, rfl, rfl, rfl, rfl⟩ rfl rfl rfl rfl rfl (by kernel_rfl) Tryd.func4 (by kernel_rfl)
    (of_decide_eq_true (by kernel_rfl)) (by unfold Func.isWrapper; first | (rw [if_pos (by decide +kernel)]; kernel_rfl) | (rw [if_neg (by decide +kernel)]; exact ⟨rfl, rfl⟩))
    (fun os started H enc _ F => by rw [OpenClaim.pre_eq_preRow]; exact lifted os started H enc F)

theorem plain (f : FuncId) (fn : Func) (hf : Tryd.pinned.checked.prog.funcNamed "nepenthe/nepenthelaw17.SlotReads" = some f) (hfn : Tryd.pinned.checked.prog.funcs[f]? = some fn) :
    false = Tryd.pinned.checked.prog.looks [] ∧ ∀ (j : Nat) t, fn.params[j]? = some t → Tryd.pinned.checked.prog.wantsStandIn t = false := by
  obtain rfl : f = 4 := Option.some.inj ((show Tryd.prog.funcNamed "nepenthe/nepenthelaw17.SlotReads" = some 4 by kernel_rfl).symm.trans hf) |>.symm
  obtain rfl : fn = Tryd.f4 := (Option.some.inj (Tryd.func4.symm.trans hfn)).symm
  refine ⟨by kernel_rfl, fun j t ht => ?_⟩
  rw [Tryd.params4] at ht
  have hm := Array.mem_of_getElem? ht
  simp at hm
  subst hm
  exact (show Tryd.prog.wantsStandIn 23 = false by kernel_rfl)
end Go.Proofs.YtifepmdhbhdjpaaDoor.slotReads

namespace Go.Proofs.YtifepmdhbhdjpaaDoor
theorem slotReads_card : Rows.SlotReadsCardSaid :=
  Claim7.holds_tied_plain_at .later [] _ _ _ _ slotReads.said (fun _ h => by cases h) (by kernel_rfl) (fun _ h => by cases h) slotReads_row_tie rfl ⟨rfl, rfl⟩ (by kernel_rfl) rfl slotReads.plain (by kernel_rfl)
#print axioms slotReads_card
end Go.Proofs.YtifepmdhbhdjpaaDoor
