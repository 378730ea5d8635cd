/- Any record's bytes, opened by any passphrase: the record and the keys, or why not: as the document says. Of rounds from 5 to 1000: the program answers. No condition. -/
import Derived.Test.YtmbfccclghnaeaaDoorCards
import Derived.Test.YtmbfccclghnaeaaDoorTie
import Derived.Test.YtmbfccclghnaeaaDoorXYOpn
import Derived.Test.YtmbfccclghnaeaaDoorXYRRd
import Derived.Test.YtmbfccclghnaeaaDoorXYRBy
import Derived.Test.YtmbfccclghnaeaaDoorXYSmz
import Derived.Test.YtmbfccclghnaeaaDoorXYBack
namespace Go.Proofs.YtmbfccclghnaeaaDoor.recordOpens
open Go.ChangeShapes Go.WideShapes Go.ChangeAt Go.RowKit Go.Proofs.YtmbfccclghnaeaaDoor.re Go.Proofs.YtmbfccclghnaeaaDoor.so Go.Proofs.YtmbfccclghnaeaaDoor.he Go.Proofs.YtmbfccclghnaeaaDoor.fa
set_option maxRecDepth 20000


set_option maxHeartbeats 8000000 in
theorem walk_many (v pv : Value) (xs ps : List Int) (n : Int) (w : World) (_hb : Byt w v xs) (_hp : Byt w pv ps) (hT : Tbl w ∧ Tb2 w) (h1 : n > 4) (h2 : n ≤ 1000) :
    Calls Tryd.prog 5 #[v, pv, .int .i64 n] w fun x w' => x = .returned (.bool true) ∧ Below w.heap.size w w' := by
  have SW : Hid (∀ w0, Below w.heap.size w w0 → Calls Tryd.prog 8 #[] w0 fun x w' => x = .returned (.bool true) ∧ Below w0.heap.size w0 w') := fun w0 q => re.awake_any w0 (hT.1.below q hT.1.lt)
  clear hT
  have t0 : (0 : Nat) = 0 := rfl
  go_enter Tryd.func5, Tryd.ntmps5
  go_wp2_with (first
    | (have q0 := t0; go_at_call 8; refine (SW.out w (Below.refl _ _)).mono ?_; rintro e9 w1 ⟨rfl, B9⟩; have BB : Hid (Below w.heap.size w w1) := B9; clear B9; clear t0; have t1 : (1 : Nat) = 1 := rfl))
  go_ret
  exact ⟨rfl, BB.out⟩

set_option maxHeartbeats 8000000 in
theorem walk_len_s (v pv : Value) (xs ps : List Int) (n : Int) (w : World) (hb : Byt w v xs) (hp : Byt w pv ps) (hT : Tbl w ∧ Tb2 w) (h1 : ¬ n > 4) (hl : xs.length ≠ 624) :
    Calls Tryd.prog 5 #[v, pv, .int .i64 n] w fun x w' => x = .returned (.bool true) ∧ Below w.heap.size w w' := by
  have SW : Hid (∀ w0, Below w.heap.size w w0 → Calls Tryd.prog 8 #[] w0 fun x w' => x = .returned (.bool true) ∧ Below w0.heap.size w0 w') := fun w0 q => re.awake_any w0 (hT.1.below q hT.1.lt)
  have SO : Hid (∀ w0, Below w.heap.size w w0 → Calls Tryd.prog 23 #[v, pv, .int .i64 n] w0 fun x w' => x = .returned (.tuple #[.agg rv0.toArray, .slice none 0 0, .slice none 0 0, .int .i64 2]) ∧ Below w0.heap.size w0 w') := fun w0 q => re.open_len v pv xs ps n w0 (hb.below q) (hp.below q) hl
  obtain ⟨bo, bc, rfl⟩ := form hb
  have n8 : ((xs.length : Int) != 624) = true := bne_iff_ne.2 (by omega)
  clear hb hp hl hT
  have t0 : (0 : Nat) = 0 := rfl
  go_enter Tryd.func5, Tryd.ntmps5
  go_wp2_with (first
    | (have q7 := t7; go_at_call 8; refine (SW.out w5 BB.out).mono ?_; rintro e9 w6 ⟨rfl, B9⟩; have NB_HV : Hid (NoB w6 w1.heap.size) := NB_HV.out.heap (B9.block _ (range_lt HV.out.1 (Nat.succ_pos _))); have HV : Hid (Vr w6 w1.heap.size rv0) := HV.out.below B9 (range_lt HV.out.1 (Nat.succ_pos _)); have BB : Hid (Below w.heap.size w w6) := BB.out.trans (B9.mono BB.out.size); clear B9; clear t7; have t8 : (1 : Nat) = 1 := rfl)
    | (have q6 := t6; go_at_call 14; refine (rsame_rv0 w4).mono ?_; rintro e9 w5 ⟨rfl, B9⟩; have NB_HV : Hid (NoB w5 w1.heap.size) := NB_HV.out.heap (B9.block _ (range_lt HV.out.1 (Nat.succ_pos _))); have HV : Hid (Vr w5 w1.heap.size rv0) := HV.out.below B9 (range_lt HV.out.1 (Nat.succ_pos _)); have BB : Hid (Below w.heap.size w w5) := BB.out.trans (B9.mono BB.out.size); clear B9; clear t6; have t7 : (1 : Nat) = 1 := rfl)
    | (have q5 := t5; refine build_law _ rfl 39 _ rfl (.agg rv0.toArray) (by kernel_rfl) ?_; clear t5; have t6 : (1 : Nat) = 1 := rfl)
    | (have q4 := t4; go_at_call 13; refine (of_rv0 w3).mono ?_; rintro e9 w4 ⟨rfl, B9⟩; have NB_HV : Hid (NoB w4 w1.heap.size) := NB_HV.out.heap (B9.block _ (range_lt HV.out.1 (Nat.succ_pos _))); have HV : Hid (Vr w4 w1.heap.size rv0) := HV.out.below B9 (range_lt HV.out.1 (Nat.succ_pos _)); have BB : Hid (Below w.heap.size w w4) := BB.out.trans (B9.mono BB.out.size); clear B9; clear t4; have t5 : (1 : Nat) = 1 := rfl)
    | (have q3 := t3; refine load_lawC _ rfl rv0 w1.heap.size 0 rfl HV.out.1 rowy_record ?_; clear t3; have t4 : (1 : Nat) = 1 := rfl)
    | (have q2 := t2; (with_reducible refine at_store ?_); refine store_lawC _ rv0 w1.heap.size 0 rfl rfl HV.out.2 rowy_record.2 rv0_one ?_; intro w3 E9 R9 T9 B9; have K9 : ∀ k, k ≠ w1.heap.size → w3.heap[k]? = w2.heap[k]? := (by rw [E9.out]; exact fun k hk => heap_cells _ _ _ _ k hk); have NB_HV : Hid (NoB w3 w1.heap.size) := (by rw [E9.out]; exact NB_HV.out.set HV.out rfl rv0_nob); have HV : Hid (Vr w3 w1.heap.size rv0) := ⟨R9, T9⟩; have BB : Hid (Below w.heap.size w w3) := BB.out.trans (B9.mono LE_HV.out); clear E9 R9 T9 B9 K9; clear t2; have t3 : (1 : Nat) = 1 := rfl)
    | (have q1 := t1; (with_reducible refine at_alloc ?_); refine new_lawN _ rv0 zero_record rv0_nob ?_; intro w2 X9 N9 B9; have LE_HV : Hid (w.heap.size ≤ w1.heap.size) := BB.out.size; have HV : Hid (Vr w2 w1.heap.size rv0) := X9; have NB_HV : Hid (NoB w2 w1.heap.size) := N9; have BB : Hid (Below w.heap.size w w2) := BB.out.trans (B9.mono BB.out.size); clear X9 N9 B9; clear t1; have t2 : (1 : Nat) = 1 := rfl)
    | (have q0 := t0; go_at_call 23; refine (SO.out w (Below.refl _ _)).mono ?_; rintro e9 w1 ⟨rfl, B9⟩; have BB : Hid (Below w.heap.size w w1) := B9; clear B9; clear t0; have t1 : (1 : Nat) = 1 := rfl))
  go_ret
  exact ⟨rfl, BB.out⟩

set_option maxHeartbeats 8000000 in
theorem walk_no_s (v pv : Value) (xs ps : List Int) (n : Int) (w : World) (hb : Byt w v xs) (hp : Byt w pv ps) (hT : Tbl w ∧ Tb2 w) (h1 : ¬ n > 4) (hl : xs.length = 624) (hi : ¬ Isr xs) :
    Calls Tryd.prog 5 #[v, pv, .int .i64 n] w fun x w' => x = .returned (.bool true) ∧ Below w.heap.size w w' := by
  have SW : Hid (∀ w0, Below w.heap.size w w0 → Calls Tryd.prog 8 #[] w0 fun x w' => x = .returned (.bool true) ∧ Below w0.heap.size w0 w') := fun w0 q => re.awake_any w0 (hT.1.below q hT.1.lt)
  have SO : Hid (∀ w0, Below w.heap.size w w0 → Calls Tryd.prog 23 #[v, pv, .int .i64 n] w0 fun x w' => x = .returned (.tuple #[.agg rv0.toArray, .slice none 0 0, .slice none 0 0, .int .i64 1]) ∧ Below w0.heap.size w0 w') := fun w0 q => re.open_form v pv xs ps n w0 (hb.below q) (hp.below q) hl (hT.1.below q hT.1.lt) (hT.2.below q hT.2.lt) hi
  have SQ : Hid (∀ w0, Below w.heap.size w w0 → Calls Tryd.prog 22 #[v] w0 fun x w' => x = .returned (.tuple #[.agg rv0.toArray, .bool false]) ∧ Below w0.heap.size w0 w') := fun w0 q => re.rread_none v xs w0 (hb.below q) hl hi
  obtain ⟨bo, bc, rfl⟩ := byt_form hb hl
  clear hb hp hl hi hT
  have t0 : (0 : Nat) = 0 := rfl
  go_enter Tryd.func5, Tryd.ntmps5
  go_wp2_with (first
    | (have q10 := t10; go_at_call 8; refine (SW.out w8 BB.out).mono ?_; rintro e9 w9 ⟨rfl, B9⟩; have NB_HV : Hid (NoB w9 w1.heap.size) := NB_HV.out.heap (B9.block _ (range_lt HV.out.1 (Nat.succ_pos _))); have HV : Hid (Vr w9 w1.heap.size rv0) := HV.out.below B9 (range_lt HV.out.1 (Nat.succ_pos _)); have NB_HW : Hid (NoB w9 w6.heap.size) := NB_HW.out.heap (B9.block _ (range_lt HW.out.1 (Nat.succ_pos _))); have HW : Hid (Vr w9 w6.heap.size rv0) := HW.out.below B9 (range_lt HW.out.1 (Nat.succ_pos _)); have BB : Hid (Below w.heap.size w w9) := BB.out.trans (B9.mono BB.out.size); clear B9; clear t10; have t11 : (1 : Nat) = 1 := rfl)
    | (have q9 := t9; (with_reducible refine at_store ?_); refine store_lawC _ rv0 w6.heap.size 0 rfl rfl HW.out.2 rowy_rrecord.2 rv0_one ?_; intro w8 E9 R9 T9 B9; have K9 : ∀ k, k ≠ w6.heap.size → w8.heap[k]? = w7.heap[k]? := (by rw [E9.out]; exact fun k hk => heap_cells _ _ _ _ k hk); have NB_HV : Hid (NoB w8 w1.heap.size) := NB_HV.out.heap (K9 _ (Nat.ne_of_lt LT_HV_HW.out)); have HV : Hid (Vr w8 w1.heap.size rv0) := HV.out.heap (K9 _ (Nat.ne_of_lt LT_HV_HW.out)); have NB_HW : Hid (NoB w8 w6.heap.size) := (by rw [E9.out]; exact NB_HW.out.set HW.out rfl rv0_nob); have HW : Hid (Vr w8 w6.heap.size rv0) := ⟨R9, T9⟩; have BB : Hid (Below w.heap.size w w8) := BB.out.trans (B9.mono LE_HW.out); clear E9 R9 T9 B9 K9; clear t9; have t10 : (1 : Nat) = 1 := rfl)
    | (have q8 := t8; (with_reducible refine at_alloc ?_); refine new_lawN _ rv0 zero_rrecord rv0_nob ?_; intro w7 X9 N9 B9; have LT_HV_HW : Hid (w1.heap.size < w6.heap.size) := range_lt HV.out.1 (Nat.succ_pos _); have LE_HW : Hid (w.heap.size ≤ w6.heap.size) := BB.out.size; have NB_HV : Hid (NoB w7 w1.heap.size) := NB_HV.out.heap (B9.block _ (range_lt HV.out.1 (Nat.succ_pos _))); have HV : Hid (Vr w7 w1.heap.size rv0) := HV.out.below B9 (range_lt HV.out.1 (Nat.succ_pos _)); have HW : Hid (Vr w7 w6.heap.size rv0) := X9; have NB_HW : Hid (NoB w7 w6.heap.size) := N9; have BB : Hid (Below w.heap.size w w7) := BB.out.trans (B9.mono BB.out.size); clear X9 N9 B9; clear t8; have t9 : (1 : Nat) = 1 := rfl)
    | (have q7 := t7; go_at_call 22; refine (SQ.out w5 BB.out).mono ?_; rintro e9 w6 ⟨rfl, B9⟩; have NB_HV : Hid (NoB w6 w1.heap.size) := NB_HV.out.heap (B9.block _ (range_lt HV.out.1 (Nat.succ_pos _))); have HV : Hid (Vr w6 w1.heap.size rv0) := HV.out.below B9 (range_lt HV.out.1 (Nat.succ_pos _)); have BB : Hid (Below w.heap.size w w6) := BB.out.trans (B9.mono BB.out.size); clear B9; clear t7; have t8 : (1 : Nat) = 1 := rfl)
    | (have q6 := t6; go_at_call 14; refine (rsame_rv0 w4).mono ?_; rintro e9 w5 ⟨rfl, B9⟩; have NB_HV : Hid (NoB w5 w1.heap.size) := NB_HV.out.heap (B9.block _ (range_lt HV.out.1 (Nat.succ_pos _))); have HV : Hid (Vr w5 w1.heap.size rv0) := HV.out.below B9 (range_lt HV.out.1 (Nat.succ_pos _)); have BB : Hid (Below w.heap.size w w5) := BB.out.trans (B9.mono BB.out.size); clear B9; clear t6; have t7 : (1 : Nat) = 1 := rfl)
    | (have q5 := t5; refine build_law _ rfl 39 _ rfl (.agg rv0.toArray) (by kernel_rfl) ?_; clear t5; have t6 : (1 : Nat) = 1 := rfl)
    | (have q4 := t4; go_at_call 13; refine (of_rv0 w3).mono ?_; rintro e9 w4 ⟨rfl, B9⟩; have NB_HV : Hid (NoB w4 w1.heap.size) := NB_HV.out.heap (B9.block _ (range_lt HV.out.1 (Nat.succ_pos _))); have HV : Hid (Vr w4 w1.heap.size rv0) := HV.out.below B9 (range_lt HV.out.1 (Nat.succ_pos _)); have BB : Hid (Below w.heap.size w w4) := BB.out.trans (B9.mono BB.out.size); clear B9; clear t4; have t5 : (1 : Nat) = 1 := rfl)
    | (have q3 := t3; refine load_lawC _ rfl rv0 w1.heap.size 0 rfl HV.out.1 rowy_record ?_; clear t3; have t4 : (1 : Nat) = 1 := rfl)
    | (have q2 := t2; (with_reducible refine at_store ?_); refine store_lawC _ rv0 w1.heap.size 0 rfl rfl HV.out.2 rowy_record.2 rv0_one ?_; intro w3 E9 R9 T9 B9; have K9 : ∀ k, k ≠ w1.heap.size → w3.heap[k]? = w2.heap[k]? := (by rw [E9.out]; exact fun k hk => heap_cells _ _ _ _ k hk); have NB_HV : Hid (NoB w3 w1.heap.size) := (by rw [E9.out]; exact NB_HV.out.set HV.out rfl rv0_nob); have HV : Hid (Vr w3 w1.heap.size rv0) := ⟨R9, T9⟩; have BB : Hid (Below w.heap.size w w3) := BB.out.trans (B9.mono LE_HV.out); clear E9 R9 T9 B9 K9; clear t2; have t3 : (1 : Nat) = 1 := rfl)
    | (have q1 := t1; (with_reducible refine at_alloc ?_); refine new_lawN _ rv0 zero_record rv0_nob ?_; intro w2 X9 N9 B9; have LE_HV : Hid (w.heap.size ≤ w1.heap.size) := BB.out.size; have HV : Hid (Vr w2 w1.heap.size rv0) := X9; have NB_HV : Hid (NoB w2 w1.heap.size) := N9; have BB : Hid (Below w.heap.size w w2) := BB.out.trans (B9.mono BB.out.size); clear X9 N9 B9; clear t1; have t2 : (1 : Nat) = 1 := rfl)
    | (have q0 := t0; go_at_call 23; refine (SO.out w (Below.refl _ _)).mono ?_; rintro e9 w1 ⟨rfl, B9⟩; have BB : Hid (Below w.heap.size w w1) := B9; clear B9; clear t0; have t1 : (1 : Nat) = 1 := rfl))
  go_ret
  exact ⟨rfl, BB.out⟩

set_option maxHeartbeats 8000000 in
theorem walk_shape_s (v pv : Value) (xs ps : List Int) (n : Int) (w : World) (hb : Byt w v xs) (hp : Byt w pv ps) (hT : Tbl w ∧ Tb2 w) (h1 : ¬ n > 4) (hl : xs.length = 624) (hi : Isr xs) (hr : ¬ (ps.length ≤ 64 ∧ 1 ≤ n ∧ n ≤ 1000)) :
    Calls Tryd.prog 5 #[v, pv, .int .i64 n] w fun x w' => x = .returned (.bool true) ∧ Below w.heap.size w w' := by
  have SW : Hid (∀ w0, Below w.heap.size w w0 → Calls Tryd.prog 8 #[] w0 fun x w' => x = .returned (.bool true) ∧ Below w0.heap.size w0 w') := fun w0 q => re.awake_any w0 (hT.1.below q hT.1.lt)
  have SO : Hid (∀ w0, Below w.heap.size w w0 → Calls Tryd.prog 23 #[v, pv, .int .i64 n] w0 fun x w' => x = .returned (.tuple #[.agg rv0.toArray, .slice none 0 0, .slice none 0 0, .int .i64 2]) ∧ Below w0.heap.size w0 w') := fun w0 q => re.open_shape v pv xs ps n w0 (hb.below q) (hp.below q) hl (hT.1.below q hT.1.lt) (hT.2.below q hT.2.lt) hi hr
  have SQ : Hid (∀ w0, Below w.heap.size w w0 → Calls Tryd.prog 22 #[v] w0 fun x w' => ∃ a c T, x = .returned (.tuple #[.agg (rv (qg xs) (qp xs) a (qb xs) c T).toArray, .bool true]) ∧ Rb w' a c (re.qs xs) (re.qc xs) T ∧ (∀ k, k < 4 → (T k).d = sw (qw xs k)) ∧ Below w0.heap.size w0 w') := fun w0 q => (re.rread_all v xs w0 (hb.below q) hl hi).mono fun _ _ ⟨a, c, T, e, h1, h2, h3, h4⟩ => ⟨a, c, T, e, ⟨h1, h2, fun k hk => (h3 k hk).2⟩, fun k hk => (h3 k hk).1, h4⟩
  have SG : Hid (∀ w0, Below w.heap.size w w0 → Calls Tryd.prog 24 #[pv, .int .i64 n] w0 fun x w' => x = .returned (.bool false) ∧ Below w0.heap.size w0 w') := fun w0 q => (mc.right_any w0 pv ps n (hp.below q) false ((decide_eq_false hr).symm)).mono fun _ _ ⟨h1, h2⟩ => ⟨h1, by rw [h2]; exact Below.refl _ _⟩
  obtain ⟨bo, bc, rfl⟩ := byt_form hb hl
  clear hb hp hl hi hT hr
  generalize qg xs = G at SQ
  generalize qp xs = P at SQ
  generalize qb xs = B at SQ
  generalize re.qs xs = QS at SQ
  generalize re.qc xs = QC at SQ
  have t0 : (0 : Nat) = 0 := rfl
  go_enter Tryd.func5, Tryd.ntmps5
  go_wp2_with (first
    | (have q11 := t11; go_at_call 8; refine (SW.out w9 BB.out).mono ?_; rintro e9 w10 ⟨rfl, B9⟩; have NB_HV : Hid (NoB w10 w1.heap.size) := NB_HV.out.heap (B9.block _ (range_lt HV.out.1 (Nat.succ_pos _))); have HV : Hid (Vr w10 w1.heap.size rv0) := HV.out.below B9 (range_lt HV.out.1 (Nat.succ_pos _)); have RB : Hid (Rb w10 a2 c2 QS QC T2) := RB.out.below B9; have NB_HW : Hid (NoB w10 w6.heap.size) := NB_HW.out.heap (B9.block _ (range_lt HW.out.1 (Nat.succ_pos _))); have HW : Hid (Vr w10 w6.heap.size (rv G P a2 B c2 T2)) := HW.out.below B9 (range_lt HW.out.1 (Nat.succ_pos _)); have BB : Hid (Below w.heap.size w w10) := BB.out.trans (B9.mono BB.out.size); clear B9; clear t11; have t12 : (1 : Nat) = 1 := rfl)
    | (have q10 := t10; go_at_call 24; refine (SG.out w8 BB.out).mono ?_; rintro e9 w9 ⟨rfl, B9⟩; have NB_HV : Hid (NoB w9 w1.heap.size) := NB_HV.out.heap (B9.block _ (range_lt HV.out.1 (Nat.succ_pos _))); have HV : Hid (Vr w9 w1.heap.size rv0) := HV.out.below B9 (range_lt HV.out.1 (Nat.succ_pos _)); have RB : Hid (Rb w9 a2 c2 QS QC T2) := RB.out.below B9; have NB_HW : Hid (NoB w9 w6.heap.size) := NB_HW.out.heap (B9.block _ (range_lt HW.out.1 (Nat.succ_pos _))); have HW : Hid (Vr w9 w6.heap.size (rv G P a2 B c2 T2)) := HW.out.below B9 (range_lt HW.out.1 (Nat.succ_pos _)); have BB : Hid (Below w.heap.size w w9) := BB.out.trans (B9.mono BB.out.size); clear B9; clear t10; have t11 : (1 : Nat) = 1 := rfl)
    | (have q9 := t9; (with_reducible refine at_store ?_); refine store_lawC _ (rv G P a2 B c2 T2) w6.heap.size 0 rfl rfl HW.out.2 rowy_rrecord.2 RB.out.one ?_; intro w8 E9 R9 T9 B9; have K9 : ∀ k, k ≠ w6.heap.size → w8.heap[k]? = w7.heap[k]? := (by rw [E9.out]; exact fun k hk => heap_cells _ _ _ _ k hk); have NB_HV : Hid (NoB w8 w1.heap.size) := NB_HV.out.heap (K9 _ (Nat.ne_of_lt LT_HV_HW.out)); have HV : Hid (Vr w8 w1.heap.size rv0) := HV.out.heap (K9 _ (Nat.ne_of_lt LT_HV_HW.out)); have RB : Hid (Rb w8 a2 c2 QS QC T2) := rb_nob RB.out NB_HW.out K9; have NB_HW : Hid (NoB w8 w6.heap.size) := (by rw [E9.out]; exact NB_HW.out.set HW.out rfl RB.out.nob); have HW : Hid (Vr w8 w6.heap.size (rv G P a2 B c2 T2)) := ⟨R9, T9⟩; have BB : Hid (Below w.heap.size w w8) := BB.out.trans (B9.mono LE_HW.out); clear E9 R9 T9 B9 K9; clear t9; have t10 : (1 : Nat) = 1 := rfl)
    | (have q8 := t8; (with_reducible refine at_alloc ?_); refine new_lawN _ rv0 zero_rrecord rv0_nob ?_; intro w7 X9 N9 B9; have LT_HV_HW : Hid (w1.heap.size < w6.heap.size) := range_lt HV.out.1 (Nat.succ_pos _); have LE_HW : Hid (w.heap.size ≤ w6.heap.size) := BB.out.size; have NB_HV : Hid (NoB w7 w1.heap.size) := NB_HV.out.heap (B9.block _ (range_lt HV.out.1 (Nat.succ_pos _))); have HV : Hid (Vr w7 w1.heap.size rv0) := HV.out.below B9 (range_lt HV.out.1 (Nat.succ_pos _)); have RB : Hid (Rb w7 a2 c2 QS QC T2) := RB.out.below B9; have HW : Hid (Vr w7 w6.heap.size rv0) := X9; have NB_HW : Hid (NoB w7 w6.heap.size) := N9; have BB : Hid (Below w.heap.size w w7) := BB.out.trans (B9.mono BB.out.size); clear X9 N9 B9; clear t8; have t9 : (1 : Nat) = 1 := rfl)
    | (have q7 := t7; go_at_call 22; refine (SQ.out w5 BB.out).mono ?_; rintro e9 w6 ⟨a2, c2, T2, rfl, r8, d8, B9⟩; have NB_HV : Hid (NoB w6 w1.heap.size) := NB_HV.out.heap (B9.block _ (range_lt HV.out.1 (Nat.succ_pos _))); have HV : Hid (Vr w6 w1.heap.size rv0) := HV.out.below B9 (range_lt HV.out.1 (Nat.succ_pos _)); have RB : Hid (Rb w6 a2 c2 QS QC T2) := r8; have BB : Hid (Below w.heap.size w w6) := BB.out.trans (B9.mono BB.out.size); clear B9 r8 d8; clear t7; have t8 : (1 : Nat) = 1 := rfl)
    | (have q6 := t6; go_at_call 14; refine (rsame_rv0 w4).mono ?_; rintro e9 w5 ⟨rfl, B9⟩; have NB_HV : Hid (NoB w5 w1.heap.size) := NB_HV.out.heap (B9.block _ (range_lt HV.out.1 (Nat.succ_pos _))); have HV : Hid (Vr w5 w1.heap.size rv0) := HV.out.below B9 (range_lt HV.out.1 (Nat.succ_pos _)); have BB : Hid (Below w.heap.size w w5) := BB.out.trans (B9.mono BB.out.size); clear B9; clear t6; have t7 : (1 : Nat) = 1 := rfl)
    | (have q5 := t5; refine build_law _ rfl 39 _ rfl (.agg rv0.toArray) (by kernel_rfl) ?_; clear t5; have t6 : (1 : Nat) = 1 := rfl)
    | (have q4 := t4; go_at_call 13; refine (of_rv0 w3).mono ?_; rintro e9 w4 ⟨rfl, B9⟩; have NB_HV : Hid (NoB w4 w1.heap.size) := NB_HV.out.heap (B9.block _ (range_lt HV.out.1 (Nat.succ_pos _))); have HV : Hid (Vr w4 w1.heap.size rv0) := HV.out.below B9 (range_lt HV.out.1 (Nat.succ_pos _)); have BB : Hid (Below w.heap.size w w4) := BB.out.trans (B9.mono BB.out.size); clear B9; clear t4; have t5 : (1 : Nat) = 1 := rfl)
    | (have q3 := t3; refine load_lawC _ rfl rv0 w1.heap.size 0 rfl HV.out.1 rowy_record ?_; clear t3; have t4 : (1 : Nat) = 1 := rfl)
    | (have q2 := t2; (with_reducible refine at_store ?_); refine store_lawC _ rv0 w1.heap.size 0 rfl rfl HV.out.2 rowy_record.2 rv0_one ?_; intro w3 E9 R9 T9 B9; have K9 : ∀ k, k ≠ w1.heap.size → w3.heap[k]? = w2.heap[k]? := (by rw [E9.out]; exact fun k hk => heap_cells _ _ _ _ k hk); have NB_HV : Hid (NoB w3 w1.heap.size) := (by rw [E9.out]; exact NB_HV.out.set HV.out rfl rv0_nob); have HV : Hid (Vr w3 w1.heap.size rv0) := ⟨R9, T9⟩; have BB : Hid (Below w.heap.size w w3) := BB.out.trans (B9.mono LE_HV.out); clear E9 R9 T9 B9 K9; clear t2; have t3 : (1 : Nat) = 1 := rfl)
    | (have q1 := t1; (with_reducible refine at_alloc ?_); refine new_lawN _ rv0 zero_record rv0_nob ?_; intro w2 X9 N9 B9; have LE_HV : Hid (w.heap.size ≤ w1.heap.size) := BB.out.size; have HV : Hid (Vr w2 w1.heap.size rv0) := X9; have NB_HV : Hid (NoB w2 w1.heap.size) := N9; have BB : Hid (Below w.heap.size w w2) := BB.out.trans (B9.mono BB.out.size); clear X9 N9 B9; clear t1; have t2 : (1 : Nat) = 1 := rfl)
    | (have q0 := t0; go_at_call 23; refine (SO.out w (Below.refl _ _)).mono ?_; rintro e9 w1 ⟨rfl, B9⟩; have BB : Hid (Below w.heap.size w w1) := B9; clear B9; clear t0; have t1 : (1 : Nat) = 1 := rfl))
  go_ret
  exact ⟨rfl, BB.out⟩

set_option maxHeartbeats 8000000 in
theorem walk_len_l (v pv : Value) (xs ps : List Int) (n : Int) (w : World) (hb : Byt w v xs) (hp : Byt w pv ps) (hT : Tbl w ∧ Tb2 w) (h1 : n > 4) (h2 : ¬ n ≤ 1000) (hl : xs.length ≠ 624) :
    Calls Tryd.prog 5 #[v, pv, .int .i64 n] w fun x w' => x = .returned (.bool true) ∧ Below w.heap.size w w' := by
  have SW : Hid (∀ w0, Below w.heap.size w w0 → Calls Tryd.prog 8 #[] w0 fun x w' => x = .returned (.bool true) ∧ Below w0.heap.size w0 w') := fun w0 q => re.awake_any w0 (hT.1.below q hT.1.lt)
  have SO : Hid (∀ w0, Below w.heap.size w w0 → Calls Tryd.prog 23 #[v, pv, .int .i64 n] w0 fun x w' => x = .returned (.tuple #[.agg rv0.toArray, .slice none 0 0, .slice none 0 0, .int .i64 2]) ∧ Below w0.heap.size w0 w') := fun w0 q => re.open_len v pv xs ps n w0 (hb.below q) (hp.below q) hl
  obtain ⟨bo, bc, rfl⟩ := form hb
  have n8 : ((xs.length : Int) != 624) = true := bne_iff_ne.2 (by omega)
  clear hb hp hl hT
  have t0 : (0 : Nat) = 0 := rfl
  go_enter Tryd.func5, Tryd.ntmps5
  go_wp2_with (first
    | (have q7 := t7; go_at_call 8; refine (SW.out w5 BB.out).mono ?_; rintro e9 w6 ⟨rfl, B9⟩; have NB_HV : Hid (NoB w6 w1.heap.size) := NB_HV.out.heap (B9.block _ (range_lt HV.out.1 (Nat.succ_pos _))); have HV : Hid (Vr w6 w1.heap.size rv0) := HV.out.below B9 (range_lt HV.out.1 (Nat.succ_pos _)); have BB : Hid (Below w.heap.size w w6) := BB.out.trans (B9.mono BB.out.size); clear B9; clear t7; have t8 : (1 : Nat) = 1 := rfl)
    | (have q6 := t6; go_at_call 14; refine (rsame_rv0 w4).mono ?_; rintro e9 w5 ⟨rfl, B9⟩; have NB_HV : Hid (NoB w5 w1.heap.size) := NB_HV.out.heap (B9.block _ (range_lt HV.out.1 (Nat.succ_pos _))); have HV : Hid (Vr w5 w1.heap.size rv0) := HV.out.below B9 (range_lt HV.out.1 (Nat.succ_pos _)); have BB : Hid (Below w.heap.size w w5) := BB.out.trans (B9.mono BB.out.size); clear B9; clear t6; have t7 : (1 : Nat) = 1 := rfl)
    | (have q5 := t5; refine build_law _ rfl 39 _ rfl (.agg rv0.toArray) (by kernel_rfl) ?_; clear t5; have t6 : (1 : Nat) = 1 := rfl)
    | (have q4 := t4; go_at_call 13; refine (of_rv0 w3).mono ?_; rintro e9 w4 ⟨rfl, B9⟩; have NB_HV : Hid (NoB w4 w1.heap.size) := NB_HV.out.heap (B9.block _ (range_lt HV.out.1 (Nat.succ_pos _))); have HV : Hid (Vr w4 w1.heap.size rv0) := HV.out.below B9 (range_lt HV.out.1 (Nat.succ_pos _)); have BB : Hid (Below w.heap.size w w4) := BB.out.trans (B9.mono BB.out.size); clear B9; clear t4; have t5 : (1 : Nat) = 1 := rfl)
    | (have q3 := t3; refine load_lawC _ rfl rv0 w1.heap.size 0 rfl HV.out.1 rowy_record ?_; clear t3; have t4 : (1 : Nat) = 1 := rfl)
    | (have q2 := t2; (with_reducible refine at_store ?_); refine store_lawC _ rv0 w1.heap.size 0 rfl rfl HV.out.2 rowy_record.2 rv0_one ?_; intro w3 E9 R9 T9 B9; have K9 : ∀ k, k ≠ w1.heap.size → w3.heap[k]? = w2.heap[k]? := (by rw [E9.out]; exact fun k hk => heap_cells _ _ _ _ k hk); have NB_HV : Hid (NoB w3 w1.heap.size) := (by rw [E9.out]; exact NB_HV.out.set HV.out rfl rv0_nob); have HV : Hid (Vr w3 w1.heap.size rv0) := ⟨R9, T9⟩; have BB : Hid (Below w.heap.size w w3) := BB.out.trans (B9.mono LE_HV.out); clear E9 R9 T9 B9 K9; clear t2; have t3 : (1 : Nat) = 1 := rfl)
    | (have q1 := t1; (with_reducible refine at_alloc ?_); refine new_lawN _ rv0 zero_record rv0_nob ?_; intro w2 X9 N9 B9; have LE_HV : Hid (w.heap.size ≤ w1.heap.size) := BB.out.size; have HV : Hid (Vr w2 w1.heap.size rv0) := X9; have NB_HV : Hid (NoB w2 w1.heap.size) := N9; have BB : Hid (Below w.heap.size w w2) := BB.out.trans (B9.mono BB.out.size); clear X9 N9 B9; clear t1; have t2 : (1 : Nat) = 1 := rfl)
    | (have q0 := t0; go_at_call 23; refine (SO.out w (Below.refl _ _)).mono ?_; rintro e9 w1 ⟨rfl, B9⟩; have BB : Hid (Below w.heap.size w w1) := B9; clear B9; clear t0; have t1 : (1 : Nat) = 1 := rfl))
  go_ret
  exact ⟨rfl, BB.out⟩

set_option maxHeartbeats 8000000 in
theorem walk_no_l (v pv : Value) (xs ps : List Int) (n : Int) (w : World) (hb : Byt w v xs) (hp : Byt w pv ps) (hT : Tbl w ∧ Tb2 w) (h1 : n > 4) (h2 : ¬ n ≤ 1000) (hl : xs.length = 624) (hi : ¬ Isr xs) :
    Calls Tryd.prog 5 #[v, pv, .int .i64 n] w fun x w' => x = .returned (.bool true) ∧ Below w.heap.size w w' := by
  have SW : Hid (∀ w0, Below w.heap.size w w0 → Calls Tryd.prog 8 #[] w0 fun x w' => x = .returned (.bool true) ∧ Below w0.heap.size w0 w') := fun w0 q => re.awake_any w0 (hT.1.below q hT.1.lt)
  have SO : Hid (∀ w0, Below w.heap.size w w0 → Calls Tryd.prog 23 #[v, pv, .int .i64 n] w0 fun x w' => x = .returned (.tuple #[.agg rv0.toArray, .slice none 0 0, .slice none 0 0, .int .i64 1]) ∧ Below w0.heap.size w0 w') := fun w0 q => re.open_form v pv xs ps n w0 (hb.below q) (hp.below q) hl (hT.1.below q hT.1.lt) (hT.2.below q hT.2.lt) hi
  have SQ : Hid (∀ w0, Below w.heap.size w w0 → Calls Tryd.prog 22 #[v] w0 fun x w' => x = .returned (.tuple #[.agg rv0.toArray, .bool false]) ∧ Below w0.heap.size w0 w') := fun w0 q => re.rread_none v xs w0 (hb.below q) hl hi
  obtain ⟨bo, bc, rfl⟩ := byt_form hb hl
  clear hb hp hl hi hT
  have t0 : (0 : Nat) = 0 := rfl
  go_enter Tryd.func5, Tryd.ntmps5
  go_wp2_with (first
    | (have q10 := t10; go_at_call 8; refine (SW.out w8 BB.out).mono ?_; rintro e9 w9 ⟨rfl, B9⟩; have NB_HV : Hid (NoB w9 w1.heap.size) := NB_HV.out.heap (B9.block _ (range_lt HV.out.1 (Nat.succ_pos _))); have HV : Hid (Vr w9 w1.heap.size rv0) := HV.out.below B9 (range_lt HV.out.1 (Nat.succ_pos _)); have NB_HW : Hid (NoB w9 w6.heap.size) := NB_HW.out.heap (B9.block _ (range_lt HW.out.1 (Nat.succ_pos _))); have HW : Hid (Vr w9 w6.heap.size rv0) := HW.out.below B9 (range_lt HW.out.1 (Nat.succ_pos _)); have BB : Hid (Below w.heap.size w w9) := BB.out.trans (B9.mono BB.out.size); clear B9; clear t10; have t11 : (1 : Nat) = 1 := rfl)
    | (have q9 := t9; (with_reducible refine at_store ?_); refine store_lawC _ rv0 w6.heap.size 0 rfl rfl HW.out.2 rowy_rrecord.2 rv0_one ?_; intro w8 E9 R9 T9 B9; have K9 : ∀ k, k ≠ w6.heap.size → w8.heap[k]? = w7.heap[k]? := (by rw [E9.out]; exact fun k hk => heap_cells _ _ _ _ k hk); have NB_HV : Hid (NoB w8 w1.heap.size) := NB_HV.out.heap (K9 _ (Nat.ne_of_lt LT_HV_HW.out)); have HV : Hid (Vr w8 w1.heap.size rv0) := HV.out.heap (K9 _ (Nat.ne_of_lt LT_HV_HW.out)); have NB_HW : Hid (NoB w8 w6.heap.size) := (by rw [E9.out]; exact NB_HW.out.set HW.out rfl rv0_nob); have HW : Hid (Vr w8 w6.heap.size rv0) := ⟨R9, T9⟩; have BB : Hid (Below w.heap.size w w8) := BB.out.trans (B9.mono LE_HW.out); clear E9 R9 T9 B9 K9; clear t9; have t10 : (1 : Nat) = 1 := rfl)
    | (have q8 := t8; (with_reducible refine at_alloc ?_); refine new_lawN _ rv0 zero_rrecord rv0_nob ?_; intro w7 X9 N9 B9; have LT_HV_HW : Hid (w1.heap.size < w6.heap.size) := range_lt HV.out.1 (Nat.succ_pos _); have LE_HW : Hid (w.heap.size ≤ w6.heap.size) := BB.out.size; have NB_HV : Hid (NoB w7 w1.heap.size) := NB_HV.out.heap (B9.block _ (range_lt HV.out.1 (Nat.succ_pos _))); have HV : Hid (Vr w7 w1.heap.size rv0) := HV.out.below B9 (range_lt HV.out.1 (Nat.succ_pos _)); have HW : Hid (Vr w7 w6.heap.size rv0) := X9; have NB_HW : Hid (NoB w7 w6.heap.size) := N9; have BB : Hid (Below w.heap.size w w7) := BB.out.trans (B9.mono BB.out.size); clear X9 N9 B9; clear t8; have t9 : (1 : Nat) = 1 := rfl)
    | (have q7 := t7; go_at_call 22; refine (SQ.out w5 BB.out).mono ?_; rintro e9 w6 ⟨rfl, B9⟩; have NB_HV : Hid (NoB w6 w1.heap.size) := NB_HV.out.heap (B9.block _ (range_lt HV.out.1 (Nat.succ_pos _))); have HV : Hid (Vr w6 w1.heap.size rv0) := HV.out.below B9 (range_lt HV.out.1 (Nat.succ_pos _)); have BB : Hid (Below w.heap.size w w6) := BB.out.trans (B9.mono BB.out.size); clear B9; clear t7; have t8 : (1 : Nat) = 1 := rfl)
    | (have q6 := t6; go_at_call 14; refine (rsame_rv0 w4).mono ?_; rintro e9 w5 ⟨rfl, B9⟩; have NB_HV : Hid (NoB w5 w1.heap.size) := NB_HV.out.heap (B9.block _ (range_lt HV.out.1 (Nat.succ_pos _))); have HV : Hid (Vr w5 w1.heap.size rv0) := HV.out.below B9 (range_lt HV.out.1 (Nat.succ_pos _)); have BB : Hid (Below w.heap.size w w5) := BB.out.trans (B9.mono BB.out.size); clear B9; clear t6; have t7 : (1 : Nat) = 1 := rfl)
    | (have q5 := t5; refine build_law _ rfl 39 _ rfl (.agg rv0.toArray) (by kernel_rfl) ?_; clear t5; have t6 : (1 : Nat) = 1 := rfl)
    | (have q4 := t4; go_at_call 13; refine (of_rv0 w3).mono ?_; rintro e9 w4 ⟨rfl, B9⟩; have NB_HV : Hid (NoB w4 w1.heap.size) := NB_HV.out.heap (B9.block _ (range_lt HV.out.1 (Nat.succ_pos _))); have HV : Hid (Vr w4 w1.heap.size rv0) := HV.out.below B9 (range_lt HV.out.1 (Nat.succ_pos _)); have BB : Hid (Below w.heap.size w w4) := BB.out.trans (B9.mono BB.out.size); clear B9; clear t4; have t5 : (1 : Nat) = 1 := rfl)
    | (have q3 := t3; refine load_lawC _ rfl rv0 w1.heap.size 0 rfl HV.out.1 rowy_record ?_; clear t3; have t4 : (1 : Nat) = 1 := rfl)
    | (have q2 := t2; (with_reducible refine at_store ?_); refine store_lawC _ rv0 w1.heap.size 0 rfl rfl HV.out.2 rowy_record.2 rv0_one ?_; intro w3 E9 R9 T9 B9; have K9 : ∀ k, k ≠ w1.heap.size → w3.heap[k]? = w2.heap[k]? := (by rw [E9.out]; exact fun k hk => heap_cells _ _ _ _ k hk); have NB_HV : Hid (NoB w3 w1.heap.size) := (by rw [E9.out]; exact NB_HV.out.set HV.out rfl rv0_nob); have HV : Hid (Vr w3 w1.heap.size rv0) := ⟨R9, T9⟩; have BB : Hid (Below w.heap.size w w3) := BB.out.trans (B9.mono LE_HV.out); clear E9 R9 T9 B9 K9; clear t2; have t3 : (1 : Nat) = 1 := rfl)
    | (have q1 := t1; (with_reducible refine at_alloc ?_); refine new_lawN _ rv0 zero_record rv0_nob ?_; intro w2 X9 N9 B9; have LE_HV : Hid (w.heap.size ≤ w1.heap.size) := BB.out.size; have HV : Hid (Vr w2 w1.heap.size rv0) := X9; have NB_HV : Hid (NoB w2 w1.heap.size) := N9; have BB : Hid (Below w.heap.size w w2) := BB.out.trans (B9.mono BB.out.size); clear X9 N9 B9; clear t1; have t2 : (1 : Nat) = 1 := rfl)
    | (have q0 := t0; go_at_call 23; refine (SO.out w (Below.refl _ _)).mono ?_; rintro e9 w1 ⟨rfl, B9⟩; have BB : Hid (Below w.heap.size w w1) := B9; clear B9; clear t0; have t1 : (1 : Nat) = 1 := rfl))
  go_ret
  exact ⟨rfl, BB.out⟩

set_option maxHeartbeats 8000000 in
theorem walk_shape_l (v pv : Value) (xs ps : List Int) (n : Int) (w : World) (hb : Byt w v xs) (hp : Byt w pv ps) (hT : Tbl w ∧ Tb2 w) (h1 : n > 4) (h2 : ¬ n ≤ 1000) (hl : xs.length = 624) (hi : Isr xs) (hr : ¬ (ps.length ≤ 64 ∧ 1 ≤ n ∧ n ≤ 1000)) :
    Calls Tryd.prog 5 #[v, pv, .int .i64 n] w fun x w' => x = .returned (.bool true) ∧ Below w.heap.size w w' := by
  have SW : Hid (∀ w0, Below w.heap.size w w0 → Calls Tryd.prog 8 #[] w0 fun x w' => x = .returned (.bool true) ∧ Below w0.heap.size w0 w') := fun w0 q => re.awake_any w0 (hT.1.below q hT.1.lt)
  have SO : Hid (∀ w0, Below w.heap.size w w0 → Calls Tryd.prog 23 #[v, pv, .int .i64 n] w0 fun x w' => x = .returned (.tuple #[.agg rv0.toArray, .slice none 0 0, .slice none 0 0, .int .i64 2]) ∧ Below w0.heap.size w0 w') := fun w0 q => re.open_shape v pv xs ps n w0 (hb.below q) (hp.below q) hl (hT.1.below q hT.1.lt) (hT.2.below q hT.2.lt) hi hr
  have SQ : Hid (∀ w0, Below w.heap.size w w0 → Calls Tryd.prog 22 #[v] w0 fun x w' => ∃ a c T, x = .returned (.tuple #[.agg (rv (qg xs) (qp xs) a (qb xs) c T).toArray, .bool true]) ∧ Rb w' a c (re.qs xs) (re.qc xs) T ∧ (∀ k, k < 4 → (T k).d = sw (qw xs k)) ∧ Below w0.heap.size w0 w') := fun w0 q => (re.rread_all v xs w0 (hb.below q) hl hi).mono fun _ _ ⟨a, c, T, e, h1, h2, h3, h4⟩ => ⟨a, c, T, e, ⟨h1, h2, fun k hk => (h3 k hk).2⟩, fun k hk => (h3 k hk).1, h4⟩
  have SG : Hid (∀ w0, Below w.heap.size w w0 → Calls Tryd.prog 24 #[pv, .int .i64 n] w0 fun x w' => x = .returned (.bool false) ∧ Below w0.heap.size w0 w') := fun w0 q => (mc.right_any w0 pv ps n (hp.below q) false ((decide_eq_false hr).symm)).mono fun _ _ ⟨h1, h2⟩ => ⟨h1, by rw [h2]; exact Below.refl _ _⟩
  obtain ⟨bo, bc, rfl⟩ := byt_form hb hl
  clear hb hp hl hi hT hr
  generalize qg xs = G at SQ
  generalize qp xs = P at SQ
  generalize qb xs = B at SQ
  generalize re.qs xs = QS at SQ
  generalize re.qc xs = QC at SQ
  have t0 : (0 : Nat) = 0 := rfl
  go_enter Tryd.func5, Tryd.ntmps5
  go_wp2_with (first
    | (have q11 := t11; go_at_call 8; refine (SW.out w9 BB.out).mono ?_; rintro e9 w10 ⟨rfl, B9⟩; have NB_HV : Hid (NoB w10 w1.heap.size) := NB_HV.out.heap (B9.block _ (range_lt HV.out.1 (Nat.succ_pos _))); have HV : Hid (Vr w10 w1.heap.size rv0) := HV.out.below B9 (range_lt HV.out.1 (Nat.succ_pos _)); have RB : Hid (Rb w10 a2 c2 QS QC T2) := RB.out.below B9; have NB_HW : Hid (NoB w10 w6.heap.size) := NB_HW.out.heap (B9.block _ (range_lt HW.out.1 (Nat.succ_pos _))); have HW : Hid (Vr w10 w6.heap.size (rv G P a2 B c2 T2)) := HW.out.below B9 (range_lt HW.out.1 (Nat.succ_pos _)); have BB : Hid (Below w.heap.size w w10) := BB.out.trans (B9.mono BB.out.size); clear B9; clear t11; have t12 : (1 : Nat) = 1 := rfl)
    | (have q10 := t10; go_at_call 24; refine (SG.out w8 BB.out).mono ?_; rintro e9 w9 ⟨rfl, B9⟩; have NB_HV : Hid (NoB w9 w1.heap.size) := NB_HV.out.heap (B9.block _ (range_lt HV.out.1 (Nat.succ_pos _))); have HV : Hid (Vr w9 w1.heap.size rv0) := HV.out.below B9 (range_lt HV.out.1 (Nat.succ_pos _)); have RB : Hid (Rb w9 a2 c2 QS QC T2) := RB.out.below B9; have NB_HW : Hid (NoB w9 w6.heap.size) := NB_HW.out.heap (B9.block _ (range_lt HW.out.1 (Nat.succ_pos _))); have HW : Hid (Vr w9 w6.heap.size (rv G P a2 B c2 T2)) := HW.out.below B9 (range_lt HW.out.1 (Nat.succ_pos _)); have BB : Hid (Below w.heap.size w w9) := BB.out.trans (B9.mono BB.out.size); clear B9; clear t10; have t11 : (1 : Nat) = 1 := rfl)
    | (have q9 := t9; (with_reducible refine at_store ?_); refine store_lawC _ (rv G P a2 B c2 T2) w6.heap.size 0 rfl rfl HW.out.2 rowy_rrecord.2 RB.out.one ?_; intro w8 E9 R9 T9 B9; have K9 : ∀ k, k ≠ w6.heap.size → w8.heap[k]? = w7.heap[k]? := (by rw [E9.out]; exact fun k hk => heap_cells _ _ _ _ k hk); have NB_HV : Hid (NoB w8 w1.heap.size) := NB_HV.out.heap (K9 _ (Nat.ne_of_lt LT_HV_HW.out)); have HV : Hid (Vr w8 w1.heap.size rv0) := HV.out.heap (K9 _ (Nat.ne_of_lt LT_HV_HW.out)); have RB : Hid (Rb w8 a2 c2 QS QC T2) := rb_nob RB.out NB_HW.out K9; have NB_HW : Hid (NoB w8 w6.heap.size) := (by rw [E9.out]; exact NB_HW.out.set HW.out rfl RB.out.nob); have HW : Hid (Vr w8 w6.heap.size (rv G P a2 B c2 T2)) := ⟨R9, T9⟩; have BB : Hid (Below w.heap.size w w8) := BB.out.trans (B9.mono LE_HW.out); clear E9 R9 T9 B9 K9; clear t9; have t10 : (1 : Nat) = 1 := rfl)
    | (have q8 := t8; (with_reducible refine at_alloc ?_); refine new_lawN _ rv0 zero_rrecord rv0_nob ?_; intro w7 X9 N9 B9; have LT_HV_HW : Hid (w1.heap.size < w6.heap.size) := range_lt HV.out.1 (Nat.succ_pos _); have LE_HW : Hid (w.heap.size ≤ w6.heap.size) := BB.out.size; have NB_HV : Hid (NoB w7 w1.heap.size) := NB_HV.out.heap (B9.block _ (range_lt HV.out.1 (Nat.succ_pos _))); have HV : Hid (Vr w7 w1.heap.size rv0) := HV.out.below B9 (range_lt HV.out.1 (Nat.succ_pos _)); have RB : Hid (Rb w7 a2 c2 QS QC T2) := RB.out.below B9; have HW : Hid (Vr w7 w6.heap.size rv0) := X9; have NB_HW : Hid (NoB w7 w6.heap.size) := N9; have BB : Hid (Below w.heap.size w w7) := BB.out.trans (B9.mono BB.out.size); clear X9 N9 B9; clear t8; have t9 : (1 : Nat) = 1 := rfl)
    | (have q7 := t7; go_at_call 22; refine (SQ.out w5 BB.out).mono ?_; rintro e9 w6 ⟨a2, c2, T2, rfl, r8, d8, B9⟩; have NB_HV : Hid (NoB w6 w1.heap.size) := NB_HV.out.heap (B9.block _ (range_lt HV.out.1 (Nat.succ_pos _))); have HV : Hid (Vr w6 w1.heap.size rv0) := HV.out.below B9 (range_lt HV.out.1 (Nat.succ_pos _)); have RB : Hid (Rb w6 a2 c2 QS QC T2) := r8; have BB : Hid (Below w.heap.size w w6) := BB.out.trans (B9.mono BB.out.size); clear B9 r8 d8; clear t7; have t8 : (1 : Nat) = 1 := rfl)
    | (have q6 := t6; go_at_call 14; refine (rsame_rv0 w4).mono ?_; rintro e9 w5 ⟨rfl, B9⟩; have NB_HV : Hid (NoB w5 w1.heap.size) := NB_HV.out.heap (B9.block _ (range_lt HV.out.1 (Nat.succ_pos _))); have HV : Hid (Vr w5 w1.heap.size rv0) := HV.out.below B9 (range_lt HV.out.1 (Nat.succ_pos _)); have BB : Hid (Below w.heap.size w w5) := BB.out.trans (B9.mono BB.out.size); clear B9; clear t6; have t7 : (1 : Nat) = 1 := rfl)
    | (have q5 := t5; refine build_law _ rfl 39 _ rfl (.agg rv0.toArray) (by kernel_rfl) ?_; clear t5; have t6 : (1 : Nat) = 1 := rfl)
    | (have q4 := t4; go_at_call 13; refine (of_rv0 w3).mono ?_; rintro e9 w4 ⟨rfl, B9⟩; have NB_HV : Hid (NoB w4 w1.heap.size) := NB_HV.out.heap (B9.block _ (range_lt HV.out.1 (Nat.succ_pos _))); have HV : Hid (Vr w4 w1.heap.size rv0) := HV.out.below B9 (range_lt HV.out.1 (Nat.succ_pos _)); have BB : Hid (Below w.heap.size w w4) := BB.out.trans (B9.mono BB.out.size); clear B9; clear t4; have t5 : (1 : Nat) = 1 := rfl)
    | (have q3 := t3; refine load_lawC _ rfl rv0 w1.heap.size 0 rfl HV.out.1 rowy_record ?_; clear t3; have t4 : (1 : Nat) = 1 := rfl)
    | (have q2 := t2; (with_reducible refine at_store ?_); refine store_lawC _ rv0 w1.heap.size 0 rfl rfl HV.out.2 rowy_record.2 rv0_one ?_; intro w3 E9 R9 T9 B9; have K9 : ∀ k, k ≠ w1.heap.size → w3.heap[k]? = w2.heap[k]? := (by rw [E9.out]; exact fun k hk => heap_cells _ _ _ _ k hk); have NB_HV : Hid (NoB w3 w1.heap.size) := (by rw [E9.out]; exact NB_HV.out.set HV.out rfl rv0_nob); have HV : Hid (Vr w3 w1.heap.size rv0) := ⟨R9, T9⟩; have BB : Hid (Below w.heap.size w w3) := BB.out.trans (B9.mono LE_HV.out); clear E9 R9 T9 B9 K9; clear t2; have t3 : (1 : Nat) = 1 := rfl)
    | (have q1 := t1; (with_reducible refine at_alloc ?_); refine new_lawN _ rv0 zero_record rv0_nob ?_; intro w2 X9 N9 B9; have LE_HV : Hid (w.heap.size ≤ w1.heap.size) := BB.out.size; have HV : Hid (Vr w2 w1.heap.size rv0) := X9; have NB_HV : Hid (NoB w2 w1.heap.size) := N9; have BB : Hid (Below w.heap.size w w2) := BB.out.trans (B9.mono BB.out.size); clear X9 N9 B9; clear t1; have t2 : (1 : Nat) = 1 := rfl)
    | (have q0 := t0; go_at_call 23; refine (SO.out w (Below.refl _ _)).mono ?_; rintro e9 w1 ⟨rfl, B9⟩; have BB : Hid (Below w.heap.size w w1) := B9; clear B9; clear t0; have t1 : (1 : Nat) = 1 := rfl))
  go_ret
  exact ⟨rfl, BB.out⟩

theorem sl96 {w w' : World} {v : Value} {xs : List Int} (h : Byt w v xs) (hl : xs.length = 96) (hb : Below w.heap.size w w') : Byt w' (sl v 64 96) (xs.drop 64) := by
  have z := sl_from (h.below hb) 64 (by omega)
  rwa [hl] at z

set_option maxHeartbeats 8000000 in
theorem walk_pass (v pv : Value) (xs ps : List Int) (n : Nat) (w : World) (hb : Byt w v xs) (hp : Byt w pv ps) (hT : Tbl w ∧ Tb2 w) (hn : n ≤ 4) (hl : xs.length = 624) (hi : Isr xs) (h1 : ps.length ≤ 64) (h3 : 1 ≤ n) (hc : mc.dblk (mc.blk ps) (re.qs xs) n 3 ≠ re.qc xs) :
    Calls Tryd.prog 5 #[v, pv, .int .i64 (n : Int)] w fun x w' => x = .returned (.bool true) ∧ Below w.heap.size w w' := by
  have SW : Hid (∀ w0, Below w.heap.size w w0 → Calls Tryd.prog 8 #[] w0 fun x w' => x = .returned (.bool true) ∧ Below w0.heap.size w0 w') := fun w0 q => re.awake_any w0 (hT.1.below q hT.1.lt)
  have SO : Hid (∀ w0, Below w.heap.size w w0 → Calls Tryd.prog 23 #[v, pv, .int .i64 (n : Int)] w0 fun x w' => x = .returned (.tuple #[.agg rv0.toArray, .slice none 0 0, .slice none 0 0, .int .i64 9]) ∧ Below w0.heap.size w0 w') := fun w0 q => re.open_pass v pv xs ps n w0 (hb.below q) (hp.below q) hl (hT.1.below q hT.1.lt) (hT.2.below q hT.2.lt) hi h1 h3 (by omega) hc
  have SQ : Hid (∀ w0, Below w.heap.size w w0 → Calls Tryd.prog 22 #[v] w0 fun x w' => ∃ a c T, x = .returned (.tuple #[.agg (rv (qg xs) (qp xs) a (qb xs) c T).toArray, .bool true]) ∧ Rb w' a c (re.qs xs) (re.qc xs) T ∧ (∀ k, k < 4 → (T k).d = sw (qw xs k)) ∧ Below w0.heap.size w0 w') := fun w0 q => (re.rread_all v xs w0 (hb.below q) hl hi).mono fun _ _ ⟨a, c, T, e, h1, h2, h3, h4⟩ => ⟨a, c, T, e, ⟨h1, h2, fun k hk => (h3 k hk).2⟩, fun k hk => (h3 k hk).1, h4⟩
  have SG : Hid (∀ w0, Below w.heap.size w w0 → Calls Tryd.prog 24 #[pv, .int .i64 (n : Int)] w0 fun x w' => x = .returned (.bool true) ∧ Below w0.heap.size w0 w') := fun w0 q => (mc.right_any w0 pv ps n (hp.below q) true ((decide_eq_true ⟨h1, by omega, by omega⟩).symm)).mono fun _ _ ⟨h1, h2⟩ => ⟨h1, by rw [h2]; exact Below.refl _ _⟩
  have lq : (re.qs xs).length = 16 := sub_len xs 16 32 (by omega)
  have SK : Hid (∀ w0 z, Below w.heap.size w w0 → Byt w0 z (re.qs xs) → Calls Tryd.prog 25 #[pv, z, .int .i64 (n : Int), .int .i64 96] w0 fun x w' => ∃ yo yc, x = .returned (.slice yo 96 yc) ∧ Byt w' (.slice yo 96 yc) (mc.drv (mc.blk ps) (re.qs xs) n 96) ∧ Below w0.heap.size w0 w') := fun w0 z q hz => rkeys pv z ps (re.qs xs) n w0 (hp.below q) hz h1 (by omega) h3 (by omega)
  have dk := mc.drv_keys (mc.blk ps) (re.qs xs) n
  have HLD : Hid ((mc.drv (mc.blk ps) (re.qs xs) n 96).length = 96) := mc.drv_len _ _ _ _
  obtain ⟨DD, hDD⟩ : ∃ z, mc.drv (mc.blk ps) (re.qs xs) n 96 = z := ⟨_, rfl⟩
  rw [hDD] at SK dk HLD
  have DC : Hid (decide (DD.drop 64 = re.qc xs) = false) := decide_eq_false (by rw [dk.2.2]; exact hc)
  have nn : ¬ ((n : Int) > 4) := by omega
  obtain ⟨bo, bc, rfl⟩ := byt_form hb hl
  clear hb hp hl hi hT h1 h3 hn hc lq dk hDD
  generalize qg xs = G at SQ SK DC
  generalize qp xs = P at SQ SK DC
  generalize qb xs = B at SQ SK DC
  generalize re.qs xs = QS at SQ SK
  generalize re.qc xs = QC at SQ DC
  have t0 : (0 : Nat) = 0 := rfl
  go_enter Tryd.func5, Tryd.ntmps5
  go_wp2_with (first
    | (have q11 := t11; go_at_call 25; refine (SK.out w9 _ BB.out RB.out.1).mono ?_; rintro e9 w10 ⟨do9, dc9, rfl, y9, B9⟩; have NB_HV : Hid (NoB w10 w1.heap.size) := NB_HV.out.heap (B9.block _ (range_lt HV.out.1 (Nat.succ_pos _))); have HV : Hid (Vr w10 w1.heap.size rv0) := HV.out.below B9 (range_lt HV.out.1 (Nat.succ_pos _)); have RB : Hid (Rb w10 a2 c2 QS QC T2) := RB.out.below B9; have NB_HW : Hid (NoB w10 w6.heap.size) := NB_HW.out.heap (B9.block _ (range_lt HW.out.1 (Nat.succ_pos _))); have HW : Hid (Vr w10 w6.heap.size (rv G P a2 B c2 T2)) := HW.out.below B9 (range_lt HW.out.1 (Nat.succ_pos _)); have YD : Hid (Byt w10 (.slice do9 96 dc9) DD) := y9; have BB : Hid (Below w.heap.size w w10) := BB.out.trans (B9.mono BB.out.size); clear hw_2; have hw_2 := HW.out.cell 2 _ rfl; clear B9 y9; clear t11; have t12 : (1 : Nat) = 1 := rfl)
    | (have q10 := t10; go_at_call 24; refine (SG.out w8 BB.out).mono ?_; rintro e9 w9 ⟨rfl, B9⟩; have NB_HV : Hid (NoB w9 w1.heap.size) := NB_HV.out.heap (B9.block _ (range_lt HV.out.1 (Nat.succ_pos _))); have HV : Hid (Vr w9 w1.heap.size rv0) := HV.out.below B9 (range_lt HV.out.1 (Nat.succ_pos _)); have RB : Hid (Rb w9 a2 c2 QS QC T2) := RB.out.below B9; have NB_HW : Hid (NoB w9 w6.heap.size) := NB_HW.out.heap (B9.block _ (range_lt HW.out.1 (Nat.succ_pos _))); have HW : Hid (Vr w9 w6.heap.size (rv G P a2 B c2 T2)) := HW.out.below B9 (range_lt HW.out.1 (Nat.succ_pos _)); have BB : Hid (Below w.heap.size w w9) := BB.out.trans (B9.mono BB.out.size); clear hw_2; have hw_2 := HW.out.cell 2 _ rfl; clear B9; clear t10; have t11 : (1 : Nat) = 1 := rfl)
    | (have q9 := t9; (with_reducible refine at_store ?_); refine store_lawC _ (rv G P a2 B c2 T2) w6.heap.size 0 rfl rfl HW.out.2 rowy_rrecord.2 RB.out.one ?_; intro w8 E9 R9 T9 B9; have K9 : ∀ k, k ≠ w6.heap.size → w8.heap[k]? = w7.heap[k]? := (by rw [E9.out]; exact fun k hk => heap_cells _ _ _ _ k hk); have NB_HV : Hid (NoB w8 w1.heap.size) := NB_HV.out.heap (K9 _ (Nat.ne_of_lt LT_HV_HW.out)); have HV : Hid (Vr w8 w1.heap.size rv0) := HV.out.heap (K9 _ (Nat.ne_of_lt LT_HV_HW.out)); have RB : Hid (Rb w8 a2 c2 QS QC T2) := rb_nob RB.out NB_HW.out K9; have NB_HW : Hid (NoB w8 w6.heap.size) := (by rw [E9.out]; exact NB_HW.out.set HW.out rfl RB.out.nob); have HW : Hid (Vr w8 w6.heap.size (rv G P a2 B c2 T2)) := ⟨R9, T9⟩; have BB : Hid (Below w.heap.size w w8) := BB.out.trans (B9.mono LE_HW.out); have hw_2 := HW.out.cell 2 _ rfl; clear E9 R9 T9 B9 K9; clear t9; have t10 : (1 : Nat) = 1 := rfl)
    | (have q8 := t8; (with_reducible refine at_alloc ?_); refine new_lawN _ rv0 zero_rrecord rv0_nob ?_; intro w7 X9 N9 B9; have LT_HV_HW : Hid (w1.heap.size < w6.heap.size) := range_lt HV.out.1 (Nat.succ_pos _); have LE_HW : Hid (w.heap.size ≤ w6.heap.size) := BB.out.size; have NB_HV : Hid (NoB w7 w1.heap.size) := NB_HV.out.heap (B9.block _ (range_lt HV.out.1 (Nat.succ_pos _))); have HV : Hid (Vr w7 w1.heap.size rv0) := HV.out.below B9 (range_lt HV.out.1 (Nat.succ_pos _)); have RB : Hid (Rb w7 a2 c2 QS QC T2) := RB.out.below B9; have HW : Hid (Vr w7 w6.heap.size rv0) := X9; have NB_HW : Hid (NoB w7 w6.heap.size) := N9; have BB : Hid (Below w.heap.size w w7) := BB.out.trans (B9.mono BB.out.size); clear X9 N9 B9; clear t8; have t9 : (1 : Nat) = 1 := rfl)
    | (have q7 := t7; go_at_call 22; refine (SQ.out w5 BB.out).mono ?_; rintro e9 w6 ⟨a2, c2, T2, rfl, r8, d8, B9⟩; have NB_HV : Hid (NoB w6 w1.heap.size) := NB_HV.out.heap (B9.block _ (range_lt HV.out.1 (Nat.succ_pos _))); have HV : Hid (Vr w6 w1.heap.size rv0) := HV.out.below B9 (range_lt HV.out.1 (Nat.succ_pos _)); have RB : Hid (Rb w6 a2 c2 QS QC T2) := r8; have BB : Hid (Below w.heap.size w w6) := BB.out.trans (B9.mono BB.out.size); clear B9 r8 d8; clear t7; have t8 : (1 : Nat) = 1 := rfl)
    | (have q6 := t6; go_at_call 14; refine (rsame_rv0 w4).mono ?_; rintro e9 w5 ⟨rfl, B9⟩; have NB_HV : Hid (NoB w5 w1.heap.size) := NB_HV.out.heap (B9.block _ (range_lt HV.out.1 (Nat.succ_pos _))); have HV : Hid (Vr w5 w1.heap.size rv0) := HV.out.below B9 (range_lt HV.out.1 (Nat.succ_pos _)); have BB : Hid (Below w.heap.size w w5) := BB.out.trans (B9.mono BB.out.size); clear B9; clear t6; have t7 : (1 : Nat) = 1 := rfl)
    | (have q5 := t5; refine build_law _ rfl 39 _ rfl (.agg rv0.toArray) (by kernel_rfl) ?_; clear t5; have t6 : (1 : Nat) = 1 := rfl)
    | (have q4 := t4; go_at_call 13; refine (of_rv0 w3).mono ?_; rintro e9 w4 ⟨rfl, B9⟩; have NB_HV : Hid (NoB w4 w1.heap.size) := NB_HV.out.heap (B9.block _ (range_lt HV.out.1 (Nat.succ_pos _))); have HV : Hid (Vr w4 w1.heap.size rv0) := HV.out.below B9 (range_lt HV.out.1 (Nat.succ_pos _)); have BB : Hid (Below w.heap.size w w4) := BB.out.trans (B9.mono BB.out.size); clear B9; clear t4; have t5 : (1 : Nat) = 1 := rfl)
    | (have q3 := t3; refine load_lawC _ rfl rv0 w1.heap.size 0 rfl HV.out.1 rowy_record ?_; clear t3; have t4 : (1 : Nat) = 1 := rfl)
    | (have q2 := t2; (with_reducible refine at_store ?_); refine store_lawC _ rv0 w1.heap.size 0 rfl rfl HV.out.2 rowy_record.2 rv0_one ?_; intro w3 E9 R9 T9 B9; have K9 : ∀ k, k ≠ w1.heap.size → w3.heap[k]? = w2.heap[k]? := (by rw [E9.out]; exact fun k hk => heap_cells _ _ _ _ k hk); have NB_HV : Hid (NoB w3 w1.heap.size) := (by rw [E9.out]; exact NB_HV.out.set HV.out rfl rv0_nob); have HV : Hid (Vr w3 w1.heap.size rv0) := ⟨R9, T9⟩; have BB : Hid (Below w.heap.size w w3) := BB.out.trans (B9.mono LE_HV.out); clear E9 R9 T9 B9 K9; clear t2; have t3 : (1 : Nat) = 1 := rfl)
    | (have q1 := t1; (with_reducible refine at_alloc ?_); refine new_lawN _ rv0 zero_record rv0_nob ?_; intro w2 X9 N9 B9; have LE_HV : Hid (w.heap.size ≤ w1.heap.size) := BB.out.size; have HV : Hid (Vr w2 w1.heap.size rv0) := X9; have NB_HV : Hid (NoB w2 w1.heap.size) := N9; have BB : Hid (Below w.heap.size w w2) := BB.out.trans (B9.mono BB.out.size); clear X9 N9 B9; clear t1; have t2 : (1 : Nat) = 1 := rfl)
    | (have q0 := t0; go_at_call 23; refine (SO.out w (Below.refl _ _)).mono ?_; rintro e9 w1 ⟨rfl, B9⟩; have BB : Hid (Below w.heap.size w w1) := B9; clear B9; clear t0; have t1 : (1 : Nat) = 1 := rfl))
  refine wp_region_held_drew (S := fun w' => Below w10.heap.size w10 w') (by kernel_rfl) (Below.refl _ _).drew (fun hS => ?_)
  obtain ⟨x1, hx0⟩ : ∃ x, x = w10.drew := ⟨_, rfl⟩
  rw [← hx0] at hS  ⊢
  clear hx0
  refine take_lawH 0 (some 86) (.slice do9 96 dc9) rfl rfl (by kernel_rfl) (by kernel_rfl) (by kernel_rfl) (fun _ _ _ h => h) (Or.inl ⟨by rfl, fun w' hw' => by rfl⟩) hS ?_
  simp only [Act.put, List.setIfInBounds_toArray, List.set_cons_zero, List.set_cons_succ]
  refine take_lawH 1 (some 87) (sl (.slice do9 96 dc9) 64 96) rfl rfl (by kernel_rfl) (by kernel_rfl) (by kernel_rfl) (fun _ _ _ h => h) (Or.inl ⟨by rfl, fun w' hw' => by exact exec_from (.tmp 86) (.const (.int .i64 64)) rfl _ DD _ YD.out 64 96 rfl rfl HLD.out (by omega) _⟩) hS ?_
  simp only [Act.put, List.setIfInBounds_toArray, List.set_cons_zero, List.set_cons_succ]
  refine take_lawH 2 (some 88) (.pointer (some ⟨w6.heap.size, 4, none⟩)) rfl rfl (by kernel_rfl) (by kernel_rfl) (by kernel_rfl) (fun _ _ _ h => h) (Or.inl ⟨by rfl, fun w' hw' => by go_simp⟩) hS ?_
  simp only [Act.put, List.setIfInBounds_toArray, List.set_cons_zero, List.set_cons_succ]
  refine take_lawH 3 (some 89) (c2) rfl rfl (by kernel_rfl) (by kernel_rfl) (by kernel_rfl) (fun _ _ _ h => h) (Or.inl ⟨by rfl, fun w' hw' => by exact exec_loadN 23 (.tmp 88) rfl _ rfl _ _ (load_one one_bytes ((HW.out.below hw' (range_lt HW.out.1 (Nat.succ_pos _))).cell 4 _ rfl))⟩) hS ?_
  simp only [Act.put, List.setIfInBounds_toArray, List.set_cons_zero, List.set_cons_succ]
  refine wpAnyH_ready (rs := [4]) (by kernel_rfl) (by simp) ?_
  refine AllReadyH.cons rfl (fun K hK => ?_) AllReadyH.nil
  refine he.step_callW _ (by rfl) (some 90) rfl 18 #[.tmp 87, .tmp 89] #[23, 23] rfl (fun q w' => by rfl) #[sl (.slice do9 96 dc9) 64 96, c2] (by simp only [List.map_toArray, List.map_cons, List.map_nil]; rfl) (fun z9 w' => z9 = .bool false ∧ Below x1.heap.size x1 w') ?_ ?_
  · exact (same_dec x1 _ _ (DD.drop 64) QC (sl96 YD.out HLD.out hS) (RB.out.2.1.below hS)).mono fun e w' ⟨h1, h2⟩ => ⟨_, h1, (by rw [DC.out]), h2⟩
  rintro _ x2 ⟨rfl, hb⟩
  have hS : Below w10.heap.size w10 x2 := hS.trans (hb.mono hS.size)
  clear hb
  refine hK.out _ _ hS (fun _ => ?_)
  simp only [Act.put, List.setIfInBounds_toArray, List.set_cons_zero, List.set_cons_succ]
  clear hK K
  refine take_lawH 5 (some 91) (.bool true) rfl rfl (by kernel_rfl) (by kernel_rfl) (by kernel_rfl) (fun _ _ _ h => h) (Or.inl ⟨by rfl, fun w' hw' => by rfl⟩) hS ?_
  simp only [Act.put, List.setIfInBounds_toArray, List.set_cons_zero, List.set_cons_succ]
  refine wpAnyH_done (by kernel_rfl) ?_ _
  (try clear hw_2)
  have BB : Hid (Below w.heap.size w x2) := BB.out.trans (hS.mono BB.out.size)
  clear hS
  have t50 : (1 : Nat) = 1 := rfl
  go_wp2_with (first
    | (have q50 := t50; go_at_call 8; refine (SW.out x2 BB.out).mono ?_; rintro e9 w91 ⟨rfl, B9⟩; have BB : Hid (Below w.heap.size w w91) := BB.out.trans (B9.mono BB.out.size); clear B9; clear t50; have t51 : (1 : Nat) = 1 := rfl))
  go_ret
  exact ⟨rfl, BB.out⟩

set_option maxHeartbeats 8000000 in
theorem walk_tag (v pv : Value) (xs ps : List Int) (n : Nat) (w : World) (hb : Byt w v xs) (hp : Byt w pv ps) (hT : Tbl w ∧ Tb2 w) (hn : n ≤ 4) (hl : xs.length = 624) (hi : Isr xs) (h1 : ps.length ≤ 64) (h3 : 1 ≤ n) (hc : mc.dblk (mc.blk ps) (re.qs xs) n 3 = re.qc xs) (ht : ¬ (xs.drop 592 = mc.tagB (mc.blk (mc.dblk (mc.blk ps) (re.qs xs) n 2)) (xs.take 592))) :
    Calls Tryd.prog 5 #[v, pv, .int .i64 (n : Int)] w fun x w' => x = .returned (.bool true) ∧ Below w.heap.size w w' := by
  have SW : Hid (∀ w0, Below w.heap.size w w0 → Calls Tryd.prog 8 #[] w0 fun x w' => x = .returned (.bool true) ∧ Below w0.heap.size w0 w') := fun w0 q => re.awake_any w0 (hT.1.below q hT.1.lt)
  have SO : Hid (∀ w0, Below w.heap.size w w0 → Calls Tryd.prog 23 #[v, pv, .int .i64 (n : Int)] w0 fun x w' => x = .returned (.tuple #[.agg rv0.toArray, .slice none 0 0, .slice none 0 0, .int .i64 16]) ∧ Below w0.heap.size w0 w') := fun w0 q => re.open_tag v pv xs ps n w0 (hb.below q) (hp.below q) hl (hT.1.below q hT.1.lt) (hT.2.below q hT.2.lt) hi h1 h3 (by omega) hc ht
  have SQ : Hid (∀ w0, Below w.heap.size w w0 → Calls Tryd.prog 22 #[v] w0 fun x w' => ∃ a c T, x = .returned (.tuple #[.agg (rv (qg xs) (qp xs) a (qb xs) c T).toArray, .bool true]) ∧ Rb w' a c (re.qs xs) (re.qc xs) T ∧ (∀ k, k < 4 → (T k).d = sw (qw xs k)) ∧ Below w0.heap.size w0 w') := fun w0 q => (re.rread_all v xs w0 (hb.below q) hl hi).mono fun _ _ ⟨a, c, T, e, h1, h2, h3, h4⟩ => ⟨a, c, T, e, ⟨h1, h2, fun k hk => (h3 k hk).2⟩, fun k hk => (h3 k hk).1, h4⟩
  have SG : Hid (∀ w0, Below w.heap.size w w0 → Calls Tryd.prog 24 #[pv, .int .i64 (n : Int)] w0 fun x w' => x = .returned (.bool true) ∧ Below w0.heap.size w0 w') := fun w0 q => (mc.right_any w0 pv ps n (hp.below q) true ((decide_eq_true ⟨h1, by omega, by omega⟩).symm)).mono fun _ _ ⟨h1, h2⟩ => ⟨h1, by rw [h2]; exact Below.refl _ _⟩
  have lq : (re.qs xs).length = 16 := sub_len xs 16 32 (by omega)
  have SK : Hid (∀ w0 z, Below w.heap.size w w0 → Byt w0 z (re.qs xs) → Calls Tryd.prog 25 #[pv, z, .int .i64 (n : Int), .int .i64 96] w0 fun x w' => ∃ yo yc, x = .returned (.slice yo 96 yc) ∧ Byt w' (.slice yo 96 yc) (mc.drv (mc.blk ps) (re.qs xs) n 96) ∧ Below w0.heap.size w0 w') := fun w0 z q hz => rkeys pv z ps (re.qs xs) n w0 (hp.below q) hz h1 (by omega) h3 (by omega)
  have dk := mc.drv_keys (mc.blk ps) (re.qs xs) n
  have HLD : Hid ((mc.drv (mc.blk ps) (re.qs xs) n 96).length = 96) := mc.drv_len _ _ _ _
  obtain ⟨DD, hDD⟩ : ∃ z, mc.drv (mc.blk ps) (re.qs xs) n 96 = z := ⟨_, rfl⟩
  rw [hDD] at SK dk HLD
  have DC : Hid (decide (DD.drop 64 = re.qc xs) = true) := decide_eq_true (by rw [dk.2.2]; exact hc)
  have SF : Hid (∀ w0 z, Below w.heap.size w w0 → Byt w0 z ((DD.take 64).drop 32) → Calls Tryd.prog 21 #[v, z] w0 fun x w' => x = .returned (.bool false) ∧ Below w0.heap.size w0 w') := fun w0 z q hz => re.rfits_any v z xs _ w0 (hb.below q) hz hl (by rw [dk.2.1, mc.dblk_len]; omega) false (decide_eq_false (by rw [dk.2.1]; exact fun z => ht z.symm))
  have nn : ¬ ((n : Int) > 4) := by omega
  obtain ⟨bo, bc, rfl⟩ := byt_form hb hl
  clear hb hp hl hi hT h1 h3 hn hc ht lq dk hDD
  generalize qg xs = G at SQ
  generalize qp xs = P at SQ
  generalize qb xs = B at SQ
  generalize re.qs xs = QS at SQ SK
  generalize re.qc xs = QC at SQ DC
  have t0 : (0 : Nat) = 0 := rfl
  go_enter Tryd.func5, Tryd.ntmps5
  go_wp2_with (first
    | (have q11 := t11; go_at_call 25; refine (SK.out w9 _ BB.out RB.out.1).mono ?_; rintro e9 w10 ⟨do9, dc9, rfl, y9, B9⟩; have NB_HV : Hid (NoB w10 w1.heap.size) := NB_HV.out.heap (B9.block _ (range_lt HV.out.1 (Nat.succ_pos _))); have HV : Hid (Vr w10 w1.heap.size rv0) := HV.out.below B9 (range_lt HV.out.1 (Nat.succ_pos _)); have RB : Hid (Rb w10 a2 c2 QS QC T2) := RB.out.below B9; have NB_HW : Hid (NoB w10 w6.heap.size) := NB_HW.out.heap (B9.block _ (range_lt HW.out.1 (Nat.succ_pos _))); have HW : Hid (Vr w10 w6.heap.size (rv G P a2 B c2 T2)) := HW.out.below B9 (range_lt HW.out.1 (Nat.succ_pos _)); have YD : Hid (Byt w10 (.slice do9 96 dc9) DD) := y9; have BB : Hid (Below w.heap.size w w10) := BB.out.trans (B9.mono BB.out.size); clear hw_2; have hw_2 := HW.out.cell 2 _ rfl; clear B9 y9; clear t11; have t12 : (1 : Nat) = 1 := rfl)
    | (have q10 := t10; go_at_call 24; refine (SG.out w8 BB.out).mono ?_; rintro e9 w9 ⟨rfl, B9⟩; have NB_HV : Hid (NoB w9 w1.heap.size) := NB_HV.out.heap (B9.block _ (range_lt HV.out.1 (Nat.succ_pos _))); have HV : Hid (Vr w9 w1.heap.size rv0) := HV.out.below B9 (range_lt HV.out.1 (Nat.succ_pos _)); have RB : Hid (Rb w9 a2 c2 QS QC T2) := RB.out.below B9; have NB_HW : Hid (NoB w9 w6.heap.size) := NB_HW.out.heap (B9.block _ (range_lt HW.out.1 (Nat.succ_pos _))); have HW : Hid (Vr w9 w6.heap.size (rv G P a2 B c2 T2)) := HW.out.below B9 (range_lt HW.out.1 (Nat.succ_pos _)); have BB : Hid (Below w.heap.size w w9) := BB.out.trans (B9.mono BB.out.size); clear hw_2; have hw_2 := HW.out.cell 2 _ rfl; clear B9; clear t10; have t11 : (1 : Nat) = 1 := rfl)
    | (have q9 := t9; (with_reducible refine at_store ?_); refine store_lawC _ (rv G P a2 B c2 T2) w6.heap.size 0 rfl rfl HW.out.2 rowy_rrecord.2 RB.out.one ?_; intro w8 E9 R9 T9 B9; have K9 : ∀ k, k ≠ w6.heap.size → w8.heap[k]? = w7.heap[k]? := (by rw [E9.out]; exact fun k hk => heap_cells _ _ _ _ k hk); have NB_HV : Hid (NoB w8 w1.heap.size) := NB_HV.out.heap (K9 _ (Nat.ne_of_lt LT_HV_HW.out)); have HV : Hid (Vr w8 w1.heap.size rv0) := HV.out.heap (K9 _ (Nat.ne_of_lt LT_HV_HW.out)); have RB : Hid (Rb w8 a2 c2 QS QC T2) := rb_nob RB.out NB_HW.out K9; have NB_HW : Hid (NoB w8 w6.heap.size) := (by rw [E9.out]; exact NB_HW.out.set HW.out rfl RB.out.nob); have HW : Hid (Vr w8 w6.heap.size (rv G P a2 B c2 T2)) := ⟨R9, T9⟩; have BB : Hid (Below w.heap.size w w8) := BB.out.trans (B9.mono LE_HW.out); have hw_2 := HW.out.cell 2 _ rfl; clear E9 R9 T9 B9 K9; clear t9; have t10 : (1 : Nat) = 1 := rfl)
    | (have q8 := t8; (with_reducible refine at_alloc ?_); refine new_lawN _ rv0 zero_rrecord rv0_nob ?_; intro w7 X9 N9 B9; have LT_HV_HW : Hid (w1.heap.size < w6.heap.size) := range_lt HV.out.1 (Nat.succ_pos _); have LE_HW : Hid (w.heap.size ≤ w6.heap.size) := BB.out.size; have NB_HV : Hid (NoB w7 w1.heap.size) := NB_HV.out.heap (B9.block _ (range_lt HV.out.1 (Nat.succ_pos _))); have HV : Hid (Vr w7 w1.heap.size rv0) := HV.out.below B9 (range_lt HV.out.1 (Nat.succ_pos _)); have RB : Hid (Rb w7 a2 c2 QS QC T2) := RB.out.below B9; have HW : Hid (Vr w7 w6.heap.size rv0) := X9; have NB_HW : Hid (NoB w7 w6.heap.size) := N9; have BB : Hid (Below w.heap.size w w7) := BB.out.trans (B9.mono BB.out.size); clear X9 N9 B9; clear t8; have t9 : (1 : Nat) = 1 := rfl)
    | (have q7 := t7; go_at_call 22; refine (SQ.out w5 BB.out).mono ?_; rintro e9 w6 ⟨a2, c2, T2, rfl, r8, d8, B9⟩; have NB_HV : Hid (NoB w6 w1.heap.size) := NB_HV.out.heap (B9.block _ (range_lt HV.out.1 (Nat.succ_pos _))); have HV : Hid (Vr w6 w1.heap.size rv0) := HV.out.below B9 (range_lt HV.out.1 (Nat.succ_pos _)); have RB : Hid (Rb w6 a2 c2 QS QC T2) := r8; have BB : Hid (Below w.heap.size w w6) := BB.out.trans (B9.mono BB.out.size); clear B9 r8 d8; clear t7; have t8 : (1 : Nat) = 1 := rfl)
    | (have q6 := t6; go_at_call 14; refine (rsame_rv0 w4).mono ?_; rintro e9 w5 ⟨rfl, B9⟩; have NB_HV : Hid (NoB w5 w1.heap.size) := NB_HV.out.heap (B9.block _ (range_lt HV.out.1 (Nat.succ_pos _))); have HV : Hid (Vr w5 w1.heap.size rv0) := HV.out.below B9 (range_lt HV.out.1 (Nat.succ_pos _)); have BB : Hid (Below w.heap.size w w5) := BB.out.trans (B9.mono BB.out.size); clear B9; clear t6; have t7 : (1 : Nat) = 1 := rfl)
    | (have q5 := t5; refine build_law _ rfl 39 _ rfl (.agg rv0.toArray) (by kernel_rfl) ?_; clear t5; have t6 : (1 : Nat) = 1 := rfl)
    | (have q4 := t4; go_at_call 13; refine (of_rv0 w3).mono ?_; rintro e9 w4 ⟨rfl, B9⟩; have NB_HV : Hid (NoB w4 w1.heap.size) := NB_HV.out.heap (B9.block _ (range_lt HV.out.1 (Nat.succ_pos _))); have HV : Hid (Vr w4 w1.heap.size rv0) := HV.out.below B9 (range_lt HV.out.1 (Nat.succ_pos _)); have BB : Hid (Below w.heap.size w w4) := BB.out.trans (B9.mono BB.out.size); clear B9; clear t4; have t5 : (1 : Nat) = 1 := rfl)
    | (have q3 := t3; refine load_lawC _ rfl rv0 w1.heap.size 0 rfl HV.out.1 rowy_record ?_; clear t3; have t4 : (1 : Nat) = 1 := rfl)
    | (have q2 := t2; (with_reducible refine at_store ?_); refine store_lawC _ rv0 w1.heap.size 0 rfl rfl HV.out.2 rowy_record.2 rv0_one ?_; intro w3 E9 R9 T9 B9; have K9 : ∀ k, k ≠ w1.heap.size → w3.heap[k]? = w2.heap[k]? := (by rw [E9.out]; exact fun k hk => heap_cells _ _ _ _ k hk); have NB_HV : Hid (NoB w3 w1.heap.size) := (by rw [E9.out]; exact NB_HV.out.set HV.out rfl rv0_nob); have HV : Hid (Vr w3 w1.heap.size rv0) := ⟨R9, T9⟩; have BB : Hid (Below w.heap.size w w3) := BB.out.trans (B9.mono LE_HV.out); clear E9 R9 T9 B9 K9; clear t2; have t3 : (1 : Nat) = 1 := rfl)
    | (have q1 := t1; (with_reducible refine at_alloc ?_); refine new_lawN _ rv0 zero_record rv0_nob ?_; intro w2 X9 N9 B9; have LE_HV : Hid (w.heap.size ≤ w1.heap.size) := BB.out.size; have HV : Hid (Vr w2 w1.heap.size rv0) := X9; have NB_HV : Hid (NoB w2 w1.heap.size) := N9; have BB : Hid (Below w.heap.size w w2) := BB.out.trans (B9.mono BB.out.size); clear X9 N9 B9; clear t1; have t2 : (1 : Nat) = 1 := rfl)
    | (have q0 := t0; go_at_call 23; refine (SO.out w (Below.refl _ _)).mono ?_; rintro e9 w1 ⟨rfl, B9⟩; have BB : Hid (Below w.heap.size w w1) := B9; clear B9; clear t0; have t1 : (1 : Nat) = 1 := rfl))
  refine wp_region_held_drew (S := fun w' => Below w10.heap.size w10 w') (by kernel_rfl) (Below.refl _ _).drew (fun hS => ?_)
  obtain ⟨x1, hx0⟩ : ∃ x, x = w10.drew := ⟨_, rfl⟩
  rw [← hx0] at hS  ⊢
  clear hx0
  refine take_lawH 0 (some 86) (.slice do9 96 dc9) rfl rfl (by kernel_rfl) (by kernel_rfl) (by kernel_rfl) (fun _ _ _ h => h) (Or.inl ⟨by rfl, fun w' hw' => by rfl⟩) hS ?_
  simp only [Act.put, List.setIfInBounds_toArray, List.set_cons_zero, List.set_cons_succ]
  refine take_lawH 1 (some 87) (sl (.slice do9 96 dc9) 64 96) rfl rfl (by kernel_rfl) (by kernel_rfl) (by kernel_rfl) (fun _ _ _ h => h) (Or.inl ⟨by rfl, fun w' hw' => by exact exec_from (.tmp 86) (.const (.int .i64 64)) rfl _ DD _ YD.out 64 96 rfl rfl HLD.out (by omega) _⟩) hS ?_
  simp only [Act.put, List.setIfInBounds_toArray, List.set_cons_zero, List.set_cons_succ]
  refine take_lawH 2 (some 88) (.pointer (some ⟨w6.heap.size, 4, none⟩)) rfl rfl (by kernel_rfl) (by kernel_rfl) (by kernel_rfl) (fun _ _ _ h => h) (Or.inl ⟨by rfl, fun w' hw' => by go_simp⟩) hS ?_
  simp only [Act.put, List.setIfInBounds_toArray, List.set_cons_zero, List.set_cons_succ]
  refine take_lawH 3 (some 89) (c2) rfl rfl (by kernel_rfl) (by kernel_rfl) (by kernel_rfl) (fun _ _ _ h => h) (Or.inl ⟨by rfl, fun w' hw' => by exact exec_loadN 23 (.tmp 88) rfl _ rfl _ _ (load_one one_bytes ((HW.out.below hw' (range_lt HW.out.1 (Nat.succ_pos _))).cell 4 _ rfl))⟩) hS ?_
  simp only [Act.put, List.setIfInBounds_toArray, List.set_cons_zero, List.set_cons_succ]
  refine wpAnyH_ready (rs := [4]) (by kernel_rfl) (by simp) ?_
  refine AllReadyH.cons rfl (fun K hK => ?_) AllReadyH.nil
  refine he.step_callW _ (by rfl) (some 90) rfl 18 #[.tmp 87, .tmp 89] #[23, 23] rfl (fun q w' => by rfl) #[sl (.slice do9 96 dc9) 64 96, c2] (by simp only [List.map_toArray, List.map_cons, List.map_nil]; rfl) (fun z9 w' => z9 = .bool true ∧ Below x1.heap.size x1 w') ?_ ?_
  · exact (same_dec x1 _ _ (DD.drop 64) QC (sl96 YD.out HLD.out hS) (RB.out.2.1.below hS)).mono fun e w' ⟨h1, h2⟩ => ⟨_, h1, (by rw [DC.out]), h2⟩
  rintro _ x2 ⟨rfl, hb⟩
  have hS : Below w10.heap.size w10 x2 := hS.trans (hb.mono hS.size)
  clear hb
  refine hK.out _ _ hS (fun _ => ?_)
  simp only [Act.put, List.setIfInBounds_toArray, List.set_cons_zero, List.set_cons_succ]
  clear hK K
  refine take_lawH 5 (some 91) (.bool false) rfl rfl (by kernel_rfl) (by kernel_rfl) (by kernel_rfl) (fun _ _ _ h => h) (Or.inl ⟨by rfl, fun w' hw' => by rfl⟩) hS ?_
  simp only [Act.put, List.setIfInBounds_toArray, List.set_cons_zero, List.set_cons_succ]
  refine wpAnyH_done (by kernel_rfl) ?_ _
  (try clear hw_2)
  have YD : Hid (Byt x2 (.slice do9 96 dc9) DD) := YD.out.below hS
  have BB : Hid (Below w.heap.size w x2) := BB.out.trans (hS.mono BB.out.size)
  clear hS
  have t50 : (1 : Nat) = 1 := rfl
  go_wp2_with (first
    | (have q52 := t52; go_at_call 8; refine (SW.out w91 BB.out).mono ?_; rintro e9 w92 ⟨rfl, B9⟩; have YD : Hid (Byt w92 (.slice do9 96 dc9) DD) := YD.out.below B9; have BB : Hid (Below w.heap.size w w92) := BB.out.trans (B9.mono BB.out.size); clear B9; clear t52; have t53 : (1 : Nat) = 1 := rfl)
    | (have q51 := t51; go_at_call 21; refine (SF.out x2 _ BB.out Y8.out).mono ?_; rintro e9 w91 ⟨rfl, B9⟩; have YD : Hid (Byt w91 (.slice do9 96 dc9) DD) := YD.out.below B9; have BB : Hid (Below w.heap.size w w91) := BB.out.trans (B9.mono BB.out.size); clear B9; clear t51; have t52 : (1 : Nat) = 1 := rfl)
    | (have q50 := t50; refine cut_part _ rfl (.tmp 101) (.const (.int .i64 32)) (.const (.int .i64 64)) rfl _ DD _ _ 32 64 rfl rfl rfl rfl rfl (by omega) (by rw [HLD.out]; omega) YD.out ?_; intro v8 y8; have Y8 : Hid (Byt x2 v8 ((DD.take 64).drop 32)) := y8; clear y8; clear t50; have t51 : (1 : Nat) = 1 := rfl))
  go_ret
  exact ⟨rfl, BB.out⟩

set_option maxHeartbeats 8000000 in
theorem walk_open (v pv : Value) (xs ps : List Int) (n : Nat) (w : World) (hb : Byt w v xs) (hp : Byt w pv ps) (hT : Tbl w ∧ Tb2 w) (hn : n ≤ 4) (hl : xs.length = 624) (hi : Isr xs) (h1 : ps.length ≤ 64) (h3 : 1 ≤ n) (hc : mc.dblk (mc.blk ps) (re.qs xs) n 3 = re.qc xs) (ht : (xs.drop 592 = mc.tagB (mc.blk (mc.dblk (mc.blk ps) (re.qs xs) n 2)) (xs.take 592))) :
    Calls Tryd.prog 5 #[v, pv, .int .i64 (n : Int)] w fun x w' => x = .returned (.bool true) ∧ Below w.heap.size w w' := by
  have SW : Hid (∀ w0, Below w.heap.size w w0 → Calls Tryd.prog 8 #[] w0 fun x w' => x = .returned (.bool true) ∧ Below w0.heap.size w0 w') := fun w0 q => re.awake_any w0 (hT.1.below q hT.1.lt)
  have SO : Hid (∀ w0, Below w.heap.size w w0 → Calls Tryd.prog 23 #[v, pv, .int .i64 (n : Int)] w0 fun x w' => ∃ a c T o1 c1 o2 c2, x = .returned (.tuple #[.agg (rv (qg xs) (qp xs) a (qb xs) c T).toArray, .slice o1 32 c1, .slice o2 32 c2, .int .i64 0]) ∧ Rin w' (qg xs) (qp xs) (qb xs) a c (re.qs xs) (re.qc xs) T ∧ (∀ k, k < 4 → (T k).d = sw (qw xs k)) ∧ Byt w' (.slice o1 32 c1) (mc.dblk (mc.blk ps) (re.qs xs) n 1) ∧ Byt w' (.slice o2 32 c2) (mc.dblk (mc.blk ps) (re.qs xs) n 2) ∧ Below w0.heap.size w0 w') := fun w0 q => (re.open_yes v pv xs ps n w0 (hb.below q) (hp.below q) hl (hT.1.below q hT.1.lt) (hT.2.below q hT.2.lt) hi h1 h3 (by omega) hc ht).mono fun _ _ ⟨a, c, T, k1, k2, e, hR, hd, y1, y2, hB⟩ => by
    obtain ⟨o1, c1, rfl⟩ := byt_form y1 (mc.dblk_len _ _ _ _)
    obtain ⟨o2, c2, rfl⟩ := byt_form y2 (mc.dblk_len _ _ _ _)
    exact ⟨a, c, T, o1, c1, o2, c2, e, hR, hd, y1, y2, hB⟩
  have SQ : Hid (∀ w0, Below w.heap.size w w0 → Calls Tryd.prog 22 #[v] w0 fun x w' => ∃ a c T, x = .returned (.tuple #[.agg (rv (qg xs) (qp xs) a (qb xs) c T).toArray, .bool true]) ∧ Rb w' a c (re.qs xs) (re.qc xs) T ∧ (∀ k, k < 4 → (T k).d = sw (qw xs k)) ∧ Below w0.heap.size w0 w') := fun w0 q => (re.rread_all v xs w0 (hb.below q) hl hi).mono fun _ _ ⟨a, c, T, e, h1, h2, h3, h4⟩ => ⟨a, c, T, e, ⟨h1, h2, fun k hk => (h3 k hk).2⟩, fun k hk => (h3 k hk).1, h4⟩
  have SG : Hid (∀ w0, Below w.heap.size w w0 → Calls Tryd.prog 24 #[pv, .int .i64 (n : Int)] w0 fun x w' => x = .returned (.bool true) ∧ Below w0.heap.size w0 w') := fun w0 q => (mc.right_any w0 pv ps n (hp.below q) true ((decide_eq_true ⟨h1, by omega, by omega⟩).symm)).mono fun _ _ ⟨h1, h2⟩ => ⟨h1, by rw [h2]; exact Below.refl _ _⟩
  have lq : (re.qs xs).length = 16 := sub_len xs 16 32 (by omega)
  have LQ : Hid ((re.qs xs).length = 16) := lq
  have SK : Hid (∀ w0 z, Below w.heap.size w w0 → Byt w0 z (re.qs xs) → Calls Tryd.prog 25 #[pv, z, .int .i64 (n : Int), .int .i64 96] w0 fun x w' => ∃ yo yc, x = .returned (.slice yo 96 yc) ∧ Byt w' (.slice yo 96 yc) (mc.drv (mc.blk ps) (re.qs xs) n 96) ∧ Below w0.heap.size w0 w') := fun w0 z q hz => rkeys pv z ps (re.qs xs) n w0 (hp.below q) hz h1 (by omega) h3 (by omega)
  have dk := mc.drv_keys (mc.blk ps) (re.qs xs) n
  have HLD : Hid ((mc.drv (mc.blk ps) (re.qs xs) n 96).length = 96) := mc.drv_len _ _ _ _
  obtain ⟨DD, hDD⟩ : ∃ z, mc.drv (mc.blk ps) (re.qs xs) n 96 = z := ⟨_, rfl⟩
  rw [hDD] at SK dk HLD
  have DC : Hid (decide (DD.drop 64 = re.qc xs) = true) := decide_eq_true (by rw [dk.2.2]; exact hc)
  have SF : Hid (∀ w0 z, Below w.heap.size w w0 → Byt w0 z ((DD.take 64).drop 32) → Calls Tryd.prog 21 #[v, z] w0 fun x w' => x = .returned (.bool true) ∧ Below w0.heap.size w0 w') := fun w0 z q hz => re.rfits_any v z xs _ w0 (hb.below q) hz hl (by rw [dk.2.1, mc.dblk_len]; omega) true (decide_eq_true (by rw [dk.2.1]; exact ht.symm))
  have DK : Hid (DD.take 32 = mc.dblk (mc.blk ps) (re.qs xs) n 1 ∧ (DD.take 64).drop 32 = mc.dblk (mc.blk ps) (re.qs xs) n 2) := ⟨dk.1, dk.2.1⟩
  generalize mc.dblk (mc.blk ps) (re.qs xs) n 1 = K1 at SO DK
  generalize mc.dblk (mc.blk ps) (re.qs xs) n 2 = K2 at SO DK
  have nn : ¬ ((n : Int) > 4) := by omega
  obtain ⟨bo, bc, rfl⟩ := byt_form hb hl
  clear hb hp hl hi hT h1 h3 hn hc ht lq dk hDD
  generalize qg xs = G at SQ SO
  generalize qp xs = P at SQ SO
  generalize qb xs = B at SQ SO
  generalize re.qs xs = QS at SQ SK SO LQ
  generalize re.qc xs = QC at SQ DC SO
  have t0 : (0 : Nat) = 0 := rfl
  go_enter Tryd.func5, Tryd.ntmps5
  go_wp2_with (first
    | (have q11 := t11; go_at_call 25; refine (SK.out w9 _ BB.out RB.out.1).mono ?_; rintro e9 w10 ⟨do9, dc9, rfl, y9, B9⟩; have RI : Hid (Rin w10 G P B a c QS QC T) := RI.out.below B9; have Y1 : Hid (Byt w10 (.slice o1 32 c1) K1) := Y1.out.below B9; have Y2 : Hid (Byt w10 (.slice o2 32 c2') K2) := Y2.out.below B9; have NB_HV : Hid (NoB w10 w1.heap.size) := NB_HV.out.heap (B9.block _ (range_lt HV.out.1 (Nat.succ_pos _))); have HV : Hid (Vr w10 w1.heap.size (rv G P a B c T)) := HV.out.below B9 (range_lt HV.out.1 (Nat.succ_pos _)); have RB : Hid (Rb w10 a2 c2 QS QC T2) := RB.out.below B9; have NB_HW : Hid (NoB w10 w6.heap.size) := NB_HW.out.heap (B9.block _ (range_lt HW.out.1 (Nat.succ_pos _))); have HW : Hid (Vr w10 w6.heap.size (rv G P a2 B c2 T2)) := HW.out.below B9 (range_lt HW.out.1 (Nat.succ_pos _)); have YD : Hid (Byt w10 (.slice do9 96 dc9) DD) := y9; have BB : Hid (Below w.heap.size w w10) := BB.out.trans (B9.mono BB.out.size); clear hw_2; have hw_2 := HW.out.cell 2 _ rfl; clear B9 y9; clear t11; have t12 : (1 : Nat) = 1 := rfl)
    | (have q10 := t10; go_at_call 24; refine (SG.out w8 BB.out).mono ?_; rintro e9 w9 ⟨rfl, B9⟩; have RI : Hid (Rin w9 G P B a c QS QC T) := RI.out.below B9; have Y1 : Hid (Byt w9 (.slice o1 32 c1) K1) := Y1.out.below B9; have Y2 : Hid (Byt w9 (.slice o2 32 c2') K2) := Y2.out.below B9; have NB_HV : Hid (NoB w9 w1.heap.size) := NB_HV.out.heap (B9.block _ (range_lt HV.out.1 (Nat.succ_pos _))); have HV : Hid (Vr w9 w1.heap.size (rv G P a B c T)) := HV.out.below B9 (range_lt HV.out.1 (Nat.succ_pos _)); have RB : Hid (Rb w9 a2 c2 QS QC T2) := RB.out.below B9; have NB_HW : Hid (NoB w9 w6.heap.size) := NB_HW.out.heap (B9.block _ (range_lt HW.out.1 (Nat.succ_pos _))); have HW : Hid (Vr w9 w6.heap.size (rv G P a2 B c2 T2)) := HW.out.below B9 (range_lt HW.out.1 (Nat.succ_pos _)); have BB : Hid (Below w.heap.size w w9) := BB.out.trans (B9.mono BB.out.size); clear hw_2; have hw_2 := HW.out.cell 2 _ rfl; clear B9; clear t10; have t11 : (1 : Nat) = 1 := rfl)
    | (have q9 := t9; (with_reducible refine at_store ?_); refine store_lawC _ (rv G P a2 B c2 T2) w6.heap.size 0 rfl rfl HW.out.2 rowy_rrecord.2 RB.out.one ?_; intro w8 E9 R9 T9 B9; have K9 : ∀ k, k ≠ w6.heap.size → w8.heap[k]? = w7.heap[k]? := (by rw [E9.out]; exact fun k hk => heap_cells _ _ _ _ k hk); have Y1 : Hid (Byt w8 (.slice o1 32 c1) K1) := byt_nob Y1.out NB_HW.out K9; have Y2 : Hid (Byt w8 (.slice o2 32 c2') K2) := byt_nob Y2.out NB_HW.out K9; have NB_HV : Hid (NoB w8 w1.heap.size) := NB_HV.out.heap (K9 _ (Nat.ne_of_lt LT_HV_HW.out)); have HV : Hid (Vr w8 w1.heap.size (rv G P a B c T)) := HV.out.heap (K9 _ (Nat.ne_of_lt LT_HV_HW.out)); have RI : Hid (Rin w8 G P B a c QS QC T) := rin_nob RI.out NB_HW.out K9; have RB : Hid (Rb w8 a2 c2 QS QC T2) := rb_nob RB.out NB_HW.out K9; have NB_HW : Hid (NoB w8 w6.heap.size) := (by rw [E9.out]; exact NB_HW.out.set HW.out rfl RB.out.nob); have HW : Hid (Vr w8 w6.heap.size (rv G P a2 B c2 T2)) := ⟨R9, T9⟩; have BB : Hid (Below w.heap.size w w8) := BB.out.trans (B9.mono LE_HW.out); have hw_2 := HW.out.cell 2 _ rfl; clear E9 R9 T9 B9 K9; clear t9; have t10 : (1 : Nat) = 1 := rfl)
    | (have q8 := t8; (with_reducible refine at_alloc ?_); refine new_lawN _ rv0 zero_rrecord rv0_nob ?_; intro w7 X9 N9 B9; have LT_HV_HW : Hid (w1.heap.size < w6.heap.size) := range_lt HV.out.1 (Nat.succ_pos _); have LE_HW : Hid (w.heap.size ≤ w6.heap.size) := BB.out.size; have RI : Hid (Rin w7 G P B a c QS QC T) := RI.out.below B9; have Y1 : Hid (Byt w7 (.slice o1 32 c1) K1) := Y1.out.below B9; have Y2 : Hid (Byt w7 (.slice o2 32 c2') K2) := Y2.out.below B9; have NB_HV : Hid (NoB w7 w1.heap.size) := NB_HV.out.heap (B9.block _ (range_lt HV.out.1 (Nat.succ_pos _))); have HV : Hid (Vr w7 w1.heap.size (rv G P a B c T)) := HV.out.below B9 (range_lt HV.out.1 (Nat.succ_pos _)); have RB : Hid (Rb w7 a2 c2 QS QC T2) := RB.out.below B9; have HW : Hid (Vr w7 w6.heap.size rv0) := X9; have NB_HW : Hid (NoB w7 w6.heap.size) := N9; have BB : Hid (Below w.heap.size w w7) := BB.out.trans (B9.mono BB.out.size); clear X9 N9 B9; clear t8; have t9 : (1 : Nat) = 1 := rfl)
    | (have q7 := t7; go_at_call 22; refine (SQ.out w5 BB.out).mono ?_; rintro e9 w6 ⟨a2, c2, T2, rfl, r8, d8, B9⟩; have RI : Hid (Rin w6 G P B a c QS QC T) := RI.out.below B9; have Y1 : Hid (Byt w6 (.slice o1 32 c1) K1) := Y1.out.below B9; have Y2 : Hid (Byt w6 (.slice o2 32 c2') K2) := Y2.out.below B9; have NB_HV : Hid (NoB w6 w1.heap.size) := NB_HV.out.heap (B9.block _ (range_lt HV.out.1 (Nat.succ_pos _))); have HV : Hid (Vr w6 w1.heap.size (rv G P a B c T)) := HV.out.below B9 (range_lt HV.out.1 (Nat.succ_pos _)); have RB : Hid (Rb w6 a2 c2 QS QC T2) := r8; have HD2 : Hid (∀ k, k < 4 → (T2 k).d = sw (qw xs k)) := d8; have BB : Hid (Below w.heap.size w w6) := BB.out.trans (B9.mono BB.out.size); clear B9 r8 d8; clear t7; have t8 : (1 : Nat) = 1 := rfl)
    | (have q6 := t6; go_at_call 14; refine (rsame_zero G P B a c QS QC T w4 RI.out.2.1 RI.out.2.2.1 LQ.out).mono ?_; rintro e9 w5 ⟨rfl, B9⟩; have RI : Hid (Rin w5 G P B a c QS QC T) := RI.out.below B9; have Y1 : Hid (Byt w5 (.slice o1 32 c1) K1) := Y1.out.below B9; have Y2 : Hid (Byt w5 (.slice o2 32 c2') K2) := Y2.out.below B9; have NB_HV : Hid (NoB w5 w1.heap.size) := NB_HV.out.heap (B9.block _ (range_lt HV.out.1 (Nat.succ_pos _))); have HV : Hid (Vr w5 w1.heap.size (rv G P a B c T)) := HV.out.below B9 (range_lt HV.out.1 (Nat.succ_pos _)); have BB : Hid (Below w.heap.size w w5) := BB.out.trans (B9.mono BB.out.size); clear B9; clear t6; have t7 : (1 : Nat) = 1 := rfl)
    | (have q5 := t5; refine build_law _ rfl 39 _ rfl (.agg rv0.toArray) (by kernel_rfl) ?_; clear t5; have t6 : (1 : Nat) = 1 := rfl)
    | (have q4 := t4; go_at_call 13; refine (of_rb G P B a c QS QC T w3 RI.out.rb).mono ?_; rintro e9 w4 ⟨rfl, B9⟩; have RI : Hid (Rin w4 G P B a c QS QC T) := RI.out.below B9; have Y1 : Hid (Byt w4 (.slice o1 32 c1) K1) := Y1.out.below B9; have Y2 : Hid (Byt w4 (.slice o2 32 c2') K2) := Y2.out.below B9; have NB_HV : Hid (NoB w4 w1.heap.size) := NB_HV.out.heap (B9.block _ (range_lt HV.out.1 (Nat.succ_pos _))); have HV : Hid (Vr w4 w1.heap.size (rv G P a B c T)) := HV.out.below B9 (range_lt HV.out.1 (Nat.succ_pos _)); have BB : Hid (Below w.heap.size w w4) := BB.out.trans (B9.mono BB.out.size); clear B9; clear t4; have t5 : (1 : Nat) = 1 := rfl)
    | (have q3 := t3; refine load_lawC _ rfl (rv G P a B c T) w1.heap.size 0 rfl HV.out.1 rowy_record ?_; clear t3; have t4 : (1 : Nat) = 1 := rfl)
    | (have q2 := t2; (with_reducible refine at_store ?_); refine store_lawC _ (rv G P a B c T) w1.heap.size 0 rfl rfl HV.out.2 rowy_record.2 RI.out.one ?_; intro w3 E9 R9 T9 B9; have K9 : ∀ k, k ≠ w1.heap.size → w3.heap[k]? = w2.heap[k]? := (by rw [E9.out]; exact fun k hk => heap_cells _ _ _ _ k hk); have Y1 : Hid (Byt w3 (.slice o1 32 c1) K1) := byt_nob Y1.out NB_HV.out K9; have Y2 : Hid (Byt w3 (.slice o2 32 c2') K2) := byt_nob Y2.out NB_HV.out K9; have RI : Hid (Rin w3 G P B a c QS QC T) := rin_nob RI.out NB_HV.out K9; have NB_HV : Hid (NoB w3 w1.heap.size) := (by rw [E9.out]; exact NB_HV.out.set HV.out rfl RI.out.nob); have HV : Hid (Vr w3 w1.heap.size (rv G P a B c T)) := ⟨R9, T9⟩; have BB : Hid (Below w.heap.size w w3) := BB.out.trans (B9.mono LE_HV.out); clear E9 R9 T9 B9 K9; clear t2; have t3 : (1 : Nat) = 1 := rfl)
    | (have q1 := t1; (with_reducible refine at_alloc ?_); refine new_lawN _ rv0 zero_record rv0_nob ?_; intro w2 X9 N9 B9; have LE_HV : Hid (w.heap.size ≤ w1.heap.size) := BB.out.size; have RI : Hid (Rin w2 G P B a c QS QC T) := RI.out.below B9; have Y1 : Hid (Byt w2 (.slice o1 32 c1) K1) := Y1.out.below B9; have Y2 : Hid (Byt w2 (.slice o2 32 c2') K2) := Y2.out.below B9; have HV : Hid (Vr w2 w1.heap.size rv0) := X9; have NB_HV : Hid (NoB w2 w1.heap.size) := N9; have BB : Hid (Below w.heap.size w w2) := BB.out.trans (B9.mono BB.out.size); clear X9 N9 B9; clear t1; have t2 : (1 : Nat) = 1 := rfl)
    | (have q0 := t0; go_at_call 23; refine (SO.out w (Below.refl _ _)).mono ?_; rintro e9 w1 ⟨a, c, T, o1, c1, o2, c2', rfl, r8, d8, y1, y2, B9⟩; have RI : Hid (Rin w1 G P B a c QS QC T) := r8; have HD : Hid (∀ k, k < 4 → (T k).d = sw (qw xs k)) := d8; have Y1 : Hid (Byt w1 (.slice o1 32 c1) K1) := y1; have Y2 : Hid (Byt w1 (.slice o2 32 c2') K2) := y2; have BB : Hid (Below w.heap.size w w1) := B9; clear B9 r8 d8 y1 y2; clear t0; have t1 : (1 : Nat) = 1 := rfl))
  refine wp_region_held_drew (S := fun w' => Below w10.heap.size w10 w') (by kernel_rfl) (Below.refl _ _).drew (fun hS => ?_)
  obtain ⟨x1, hx0⟩ : ∃ x, x = w10.drew := ⟨_, rfl⟩
  rw [← hx0] at hS  ⊢
  clear hx0
  refine take_lawH 0 (some 86) (.slice do9 96 dc9) rfl rfl (by kernel_rfl) (by kernel_rfl) (by kernel_rfl) (fun _ _ _ h => h) (Or.inl ⟨by rfl, fun w' hw' => by rfl⟩) hS ?_
  simp only [Act.put, List.setIfInBounds_toArray, List.set_cons_zero, List.set_cons_succ]
  refine take_lawH 1 (some 87) (sl (.slice do9 96 dc9) 64 96) rfl rfl (by kernel_rfl) (by kernel_rfl) (by kernel_rfl) (fun _ _ _ h => h) (Or.inl ⟨by rfl, fun w' hw' => by exact exec_from (.tmp 86) (.const (.int .i64 64)) rfl _ DD _ YD.out 64 96 rfl rfl HLD.out (by omega) _⟩) hS ?_
  simp only [Act.put, List.setIfInBounds_toArray, List.set_cons_zero, List.set_cons_succ]
  refine take_lawH 2 (some 88) (.pointer (some ⟨w6.heap.size, 4, none⟩)) rfl rfl (by kernel_rfl) (by kernel_rfl) (by kernel_rfl) (fun _ _ _ h => h) (Or.inl ⟨by rfl, fun w' hw' => by go_simp⟩) hS ?_
  simp only [Act.put, List.setIfInBounds_toArray, List.set_cons_zero, List.set_cons_succ]
  refine take_lawH 3 (some 89) (c2) rfl rfl (by kernel_rfl) (by kernel_rfl) (by kernel_rfl) (fun _ _ _ h => h) (Or.inl ⟨by rfl, fun w' hw' => by exact exec_loadN 23 (.tmp 88) rfl _ rfl _ _ (load_one one_bytes ((HW.out.below hw' (range_lt HW.out.1 (Nat.succ_pos _))).cell 4 _ rfl))⟩) hS ?_
  simp only [Act.put, List.setIfInBounds_toArray, List.set_cons_zero, List.set_cons_succ]
  refine wpAnyH_ready (rs := [4]) (by kernel_rfl) (by simp) ?_
  refine AllReadyH.cons rfl (fun K hK => ?_) AllReadyH.nil
  refine he.step_callW _ (by rfl) (some 90) rfl 18 #[.tmp 87, .tmp 89] #[23, 23] rfl (fun q w' => by rfl) #[sl (.slice do9 96 dc9) 64 96, c2] (by simp only [List.map_toArray, List.map_cons, List.map_nil]; rfl) (fun z9 w' => z9 = .bool true ∧ Below x1.heap.size x1 w') ?_ ?_
  · exact (same_dec x1 _ _ (DD.drop 64) QC (sl96 YD.out HLD.out hS) (RB.out.2.1.below hS)).mono fun e w' ⟨h1, h2⟩ => ⟨_, h1, (by rw [DC.out]), h2⟩
  rintro _ x2 ⟨rfl, hb⟩
  have hS : Below w10.heap.size w10 x2 := hS.trans (hb.mono hS.size)
  clear hb
  refine hK.out _ _ hS (fun _ => ?_)
  simp only [Act.put, List.setIfInBounds_toArray, List.set_cons_zero, List.set_cons_succ]
  clear hK K
  refine take_lawH 5 (some 91) (.bool false) rfl rfl (by kernel_rfl) (by kernel_rfl) (by kernel_rfl) (fun _ _ _ h => h) (Or.inl ⟨by rfl, fun w' hw' => by rfl⟩) hS ?_
  simp only [Act.put, List.setIfInBounds_toArray, List.set_cons_zero, List.set_cons_succ]
  refine wpAnyH_done (by kernel_rfl) ?_ _
  (try clear hw_2)
  have RI : Hid (Rin x2 G P B a c QS QC T) := RI.out.below hS
  have Y1 : Hid (Byt x2 (.slice o1 32 c1) K1) := Y1.out.below hS
  have Y2 : Hid (Byt x2 (.slice o2 32 c2') K2) := Y2.out.below hS
  have HV : Hid (Vr x2 w1.heap.size (rv G P a B c T)) := HV.out.below hS (range_lt HV.out.1 (Nat.succ_pos _))
  have RB : Hid (Rb x2 a2 c2 QS QC T2) := RB.out.below hS
  have HW : Hid (Vr x2 w6.heap.size (rv G P a2 B c2 T2)) := HW.out.below hS (range_lt HW.out.1 (Nat.succ_pos _))
  have YD : Hid (Byt x2 (.slice do9 96 dc9) DD) := YD.out.below hS
  have BB : Hid (Below w.heap.size w x2) := BB.out.trans (hS.mono BB.out.size)
  clear hS
  have hw_2 := HW.out.cell 2 _ rfl
  have t50 : (1 : Nat) = 1 := rfl
  go_wp2_with (first
    | (have q51 := t51; go_at_call 21; refine (SF.out x2 _ BB.out Y8.out).mono ?_; rintro e9 w91 ⟨rfl, B9⟩; have RI : Hid (Rin w91 G P B a c QS QC T) := RI.out.below B9; have Y1 : Hid (Byt w91 (.slice o1 32 c1) K1) := Y1.out.below B9; have Y2 : Hid (Byt w91 (.slice o2 32 c2') K2) := Y2.out.below B9; have HV : Hid (Vr w91 w1.heap.size (rv G P a B c T)) := HV.out.below B9 (range_lt HV.out.1 (Nat.succ_pos _)); have RB : Hid (Rb w91 a2 c2 QS QC T2) := RB.out.below B9; have HW : Hid (Vr w91 w6.heap.size (rv G P a2 B c2 T2)) := HW.out.below B9 (range_lt HW.out.1 (Nat.succ_pos _)); have YD : Hid (Byt w91 (.slice do9 96 dc9) DD) := YD.out.below B9; have BB : Hid (Below w.heap.size w w91) := BB.out.trans (B9.mono BB.out.size); clear hw_2; have hw_2 := HW.out.cell 2 _ rfl; clear B9; clear t51; have t52 : (1 : Nat) = 1 := rfl)
    | (have q50 := t50; refine cut_part _ rfl (.tmp 101) (.const (.int .i64 32)) (.const (.int .i64 64)) rfl _ DD _ _ 32 64 rfl rfl rfl rfl rfl (by omega) (by rw [HLD.out]; omega) YD.out ?_; intro v8 y8; have Y8 : Hid (Byt x2 v8 ((DD.take 64).drop 32)) := y8; clear y8; clear t50; have t51 : (1 : Nat) = 1 := rfl))
  refine wp_region_held_drew (S := fun w' => Below w91.heap.size w91 w') (by kernel_rfl) (Below.refl _ _).drew (fun hS => ?_)
  obtain ⟨z1, hx0⟩ : ∃ x, x = w91.drew := ⟨_, rfl⟩
  rw [← hx0] at hS  ⊢
  clear hx0
  refine take_lawH 0 (some 113) (.int .i64 0) rfl rfl (by kernel_rfl) (by kernel_rfl) (by kernel_rfl) (fun _ _ _ h => h) (Or.inl ⟨by rfl, fun w' hw' => by rfl⟩) hS ?_
  simp only [Act.put, List.setIfInBounds_toArray, List.set_cons_zero, List.set_cons_succ]
  refine take_lawH 1 (some 114) (.bool true) rfl rfl (by kernel_rfl) (by kernel_rfl) (by kernel_rfl) (fun _ _ _ h => h) (Or.inl ⟨by rfl, fun w' hw' => by rfl⟩) hS ?_
  simp only [Act.put, List.setIfInBounds_toArray, List.set_cons_zero, List.set_cons_succ]
  refine take_lawH 2 (some 115) (.bool true) rfl rfl (by kernel_rfl) (by kernel_rfl) (by kernel_rfl) (fun _ _ _ h => h) (Or.inl ⟨by rfl, fun w' hw' => by rfl⟩) hS ?_
  simp only [Act.put, List.setIfInBounds_toArray, List.set_cons_zero, List.set_cons_succ]
  refine take_lawH 3 (some 116) (.agg (rv G P a B c T).toArray) rfl rfl (by kernel_rfl) (by kernel_rfl) (by kernel_rfl) (fun _ _ _ h => h) (Or.inl ⟨by rfl, fun w' hw' => by exact exec_loadN 28 (.tmp 7) rfl _ rfl _ _ (load_cells rowy_record (HV.out.below hw' (range_lt HV.out.1 (Nat.succ_pos _))).1)⟩) hS ?_
  simp only [Act.put, List.setIfInBounds_toArray, List.set_cons_zero, List.set_cons_succ]
  refine take_lawH 5 (some 118) (.agg (rv G P a2 B c2 T2).toArray) rfl rfl (by kernel_rfl) (by kernel_rfl) (by kernel_rfl) (fun _ _ _ h => h) (Or.inl ⟨by rfl, fun w' hw' => by exact exec_loadN 39 (.tmp 12) rfl _ rfl _ _ (load_cells rowy_rrecord (HW.out.below hw' (range_lt HW.out.1 (Nat.succ_pos _))).1)⟩) hS ?_
  simp only [Act.put, List.setIfInBounds_toArray, List.set_cons_zero, List.set_cons_succ]
  refine wpAnyH_ready (rs := [4]) (by kernel_rfl) (by simp) ?_
  refine AllReadyH.cons rfl (fun K hK => ?_) AllReadyH.nil
  refine he.step_callW _ (by rfl) (some 117) rfl 13 #[.tmp 116] #[28] rfl (fun q w' => by rfl) #[.agg (rv G P a B c T).toArray] (by simp only [List.map_toArray, List.map_cons, List.map_nil]; rfl) (fun z9 w' => z9 = .agg (rv G P a B c T).toArray ∧ Below z1.heap.size z1 w') ?_ ?_
  · exact (of_rb G P B a c QS QC T z1 (RI.out.rb.below hS)).mono fun e w' ⟨h1, h2⟩ => ⟨_, h1, rfl, h2⟩
  rintro _ z2 ⟨rfl, hb⟩
  have hS : Below w91.heap.size w91 z2 := hS.trans (hb.mono hS.size)
  clear hb
  refine hK.out _ _ hS (fun _ => ?_)
  simp only [Act.put, List.setIfInBounds_toArray, List.set_cons_zero, List.set_cons_succ]
  clear hK K
  refine wpAnyH_ready (rs := [6]) (by kernel_rfl) (by simp) ?_
  refine AllReadyH.cons rfl (fun K hK => ?_) AllReadyH.nil
  refine he.step_callW _ (by rfl) (some 119) rfl 14 #[.tmp 117, .tmp 118] #[39, 39] rfl (fun q w' => by rfl) #[.agg (rv G P a B c T).toArray, .agg (rv G P a2 B c2 T2).toArray] (by simp only [List.map_toArray, List.map_cons, List.map_nil]; rfl) (fun z9 w' => z9 = .bool true ∧ Below z2.heap.size z2 w') ?_ ?_
  · exact (rsame_rb G P B a c a2 c2 QS QC T T2 z2 (RI.out.rb.below hS) (RB.out.below hS) (fun k hk => (HD.out k hk).trans (HD2.out k hk).symm)).mono fun e w' ⟨h1, h2⟩ => ⟨_, h1, rfl, h2⟩
  rintro _ z3 ⟨rfl, hb⟩
  have hS : Below w91.heap.size w91 z3 := hS.trans (hb.mono hS.size)
  clear hb
  refine hK.out _ _ hS (fun _ => ?_)
  simp only [Act.put, List.setIfInBounds_toArray, List.set_cons_zero, List.set_cons_succ]
  clear hK K
  refine take_lawH 7 (some 120) (.bool true) rfl rfl (by kernel_rfl) (by kernel_rfl) (by kernel_rfl) (fun _ _ _ h => h) (Or.inl ⟨by rfl, fun w' hw' => by rfl⟩) hS ?_
  simp only [Act.put, List.setIfInBounds_toArray, List.set_cons_zero, List.set_cons_succ]
  refine take_lawH 8 (some 121) (.bool true) rfl rfl (by kernel_rfl) (by kernel_rfl) (by kernel_rfl) (fun _ _ _ h => h) (Or.inl ⟨by rfl, fun w' hw' => by rfl⟩) hS ?_
  simp only [Act.put, List.setIfInBounds_toArray, List.set_cons_zero, List.set_cons_succ]
  refine take_lawH 9 (some 122) (.slice o1 32 c1) rfl rfl (by kernel_rfl) (by kernel_rfl) (by kernel_rfl) (fun _ _ _ h => h) (Or.inl ⟨by rfl, fun w' hw' => by rfl⟩) hS ?_
  simp only [Act.put, List.setIfInBounds_toArray, List.set_cons_zero, List.set_cons_succ]
  refine take_lawH 10 (some 123) (.slice do9 96 dc9) rfl rfl (by kernel_rfl) (by kernel_rfl) (by kernel_rfl) (fun _ _ _ h => h) (Or.inl ⟨by rfl, fun w' hw' => by rfl⟩) hS ?_
  simp only [Act.put, List.setIfInBounds_toArray, List.set_cons_zero, List.set_cons_succ]
  refine take_lawH 11 (some 124) (sl (.slice do9 96 dc9) 0 32) rfl rfl (by kernel_rfl) (by kernel_rfl) (by kernel_rfl) (fun _ _ _ h => h) (Or.inl ⟨by rfl, fun w' hw' => by exact exec_to (.tmp 123) (.const (.int .i64 32)) rfl _ DD _ YD.out 32 rfl rfl (by rw [HLD.out]; omega) _⟩) hS ?_
  simp only [Act.put, List.setIfInBounds_toArray, List.set_cons_zero, List.set_cons_succ]
  refine wpAnyH_ready (rs := [12]) (by kernel_rfl) (by simp) ?_
  refine AllReadyH.cons rfl (fun K hK => ?_) AllReadyH.nil
  refine he.step_callW _ (by rfl) (some 125) rfl 18 #[.tmp 122, .tmp 124] #[23, 23] rfl (fun q w' => by rfl) #[.slice o1 32 c1, sl (.slice do9 96 dc9) 0 32] (by simp only [List.map_toArray, List.map_cons, List.map_nil]; rfl) (fun z9 w' => z9 = .bool true ∧ Below z3.heap.size z3 w') ?_ ?_
  · exact (so.same_yes z3 _ _ K1 (Y1.out.below hS) (by have z := sl_to (YD.out.below hS) 32 (by rw [HLD.out]; omega); rwa [DK.out.1] at z)).mono fun e w' ⟨h1, h2⟩ => ⟨_, h1, rfl, h2⟩
  rintro _ z4 ⟨rfl, hb⟩
  have hS : Below w91.heap.size w91 z4 := hS.trans (hb.mono hS.size)
  clear hb
  refine hK.out _ _ hS (fun _ => ?_)
  simp only [Act.put, List.setIfInBounds_toArray, List.set_cons_zero, List.set_cons_succ]
  clear hK K
  refine take_lawH 13 (some 126) (.bool true) rfl rfl (by kernel_rfl) (by kernel_rfl) (by kernel_rfl) (fun _ _ _ h => h) (Or.inl ⟨by rfl, fun w' hw' => by rfl⟩) hS ?_
  simp only [Act.put, List.setIfInBounds_toArray, List.set_cons_zero, List.set_cons_succ]
  refine take_lawH 14 (some 127) (.bool true) rfl rfl (by kernel_rfl) (by kernel_rfl) (by kernel_rfl) (fun _ _ _ h => h) (Or.inl ⟨by rfl, fun w' hw' => by rfl⟩) hS ?_
  simp only [Act.put, List.setIfInBounds_toArray, List.set_cons_zero, List.set_cons_succ]
  refine take_lawH 15 (some 128) (.slice o2 32 c2') rfl rfl (by kernel_rfl) (by kernel_rfl) (by kernel_rfl) (fun _ _ _ h => h) (Or.inl ⟨by rfl, fun w' hw' => by rfl⟩) hS ?_
  simp only [Act.put, List.setIfInBounds_toArray, List.set_cons_zero, List.set_cons_succ]
  refine take_lawH 16 (some 129) (.slice do9 96 dc9) rfl rfl (by kernel_rfl) (by kernel_rfl) (by kernel_rfl) (fun _ _ _ h => h) (Or.inl ⟨by rfl, fun w' hw' => by rfl⟩) hS ?_
  simp only [Act.put, List.setIfInBounds_toArray, List.set_cons_zero, List.set_cons_succ]
  refine take_lawH 17 (some 130) (sl (.slice do9 96 dc9) 32 64) rfl rfl (by kernel_rfl) (by kernel_rfl) (by kernel_rfl) (fun _ _ _ h => h) (Or.inl ⟨by rfl, fun w' hw' => by exact exec_part (.tmp 129) (.const (.int .i64 32)) (.const (.int .i64 64)) rfl _ DD _ YD.out 32 64 rfl rfl rfl (by omega) (by rw [HLD.out]; omega) _⟩) hS ?_
  simp only [Act.put, List.setIfInBounds_toArray, List.set_cons_zero, List.set_cons_succ]
  refine wpAnyH_ready (rs := [18]) (by kernel_rfl) (by simp) ?_
  refine AllReadyH.cons rfl (fun K hK => ?_) AllReadyH.nil
  refine he.step_callW _ (by rfl) (some 131) rfl 18 #[.tmp 128, .tmp 130] #[23, 23] rfl (fun q w' => by rfl) #[.slice o2 32 c2', sl (.slice do9 96 dc9) 32 64] (by simp only [List.map_toArray, List.map_cons, List.map_nil]; rfl) (fun z9 w' => z9 = .bool true ∧ Below z4.heap.size z4 w') ?_ ?_
  · exact (so.same_yes z4 _ _ K2 (Y2.out.below hS) (by have z := sl_byt (YD.out.below hS) 32 64 (by omega) (by rw [HLD.out]; omega); rwa [DK.out.2] at z)).mono fun e w' ⟨h1, h2⟩ => ⟨_, h1, rfl, h2⟩
  rintro _ z5 ⟨rfl, hb⟩
  have hS : Below w91.heap.size w91 z5 := hS.trans (hb.mono hS.size)
  clear hb
  refine hK.out _ _ hS (fun _ => ?_)
  simp only [Act.put, List.setIfInBounds_toArray, List.set_cons_zero, List.set_cons_succ]
  clear hK K
  refine take_lawH 19 (some 132) (.bool true) rfl rfl (by kernel_rfl) (by kernel_rfl) (by kernel_rfl) (fun _ _ _ h => h) (Or.inl ⟨by rfl, fun w' hw' => by rfl⟩) hS ?_
  simp only [Act.put, List.setIfInBounds_toArray, List.set_cons_zero, List.set_cons_succ]
  refine take_lawH 20 (some 133) (.bool true) rfl rfl (by kernel_rfl) (by kernel_rfl) (by kernel_rfl) (fun _ _ _ h => h) (Or.inl ⟨by rfl, fun w' hw' => by rfl⟩) hS ?_
  simp only [Act.put, List.setIfInBounds_toArray, List.set_cons_zero, List.set_cons_succ]
  refine wpAnyH_ready (rs := [21]) (by kernel_rfl) (by simp) ?_
  refine AllReadyH.cons rfl (fun K hK => ?_) AllReadyH.nil
  refine he.step_callW _ (by rfl) (some 134) rfl 8 #[] #[] rfl (fun q w' => by rfl) #[] (by simp only [List.map_toArray, List.map_nil]) (fun z9 w' => z9 = .bool true ∧ Below z5.heap.size z5 w') ?_ ?_
  · exact (SW.out z5 (BB.out.trans (hS.mono BB.out.size))).mono fun e w' ⟨h1, h2⟩ => ⟨_, h1, rfl, h2⟩
  rintro _ z6 ⟨rfl, hb⟩
  have hS : Below w91.heap.size w91 z6 := hS.trans (hb.mono hS.size)
  clear hb
  refine hK.out _ _ hS (fun _ => ?_)
  simp only [Act.put, List.setIfInBounds_toArray, List.set_cons_zero, List.set_cons_succ]
  clear hK K
  refine take_lawH 22 (some 135) (.bool true) rfl rfl (by kernel_rfl) (by kernel_rfl) (by kernel_rfl) (fun _ _ _ h => h) (Or.inl ⟨by rfl, fun w' hw' => by rfl⟩) hS ?_
  simp only [Act.put, List.setIfInBounds_toArray, List.set_cons_zero, List.set_cons_succ]
  refine take_lawH 23 (some 6) (.bool true) rfl rfl (by kernel_rfl) (by kernel_rfl) (by kernel_rfl) (fun _ _ _ h => h) (Or.inl ⟨by rfl, fun w' hw' => by rfl⟩) hS ?_
  simp only [Act.put, List.setIfInBounds_toArray, List.set_cons_zero, List.set_cons_succ]
  refine wpAnyH_done (by kernel_rfl) ?_ _
  have BZ : Hid (Below w.heap.size w _) := BB.out.trans (hS.mono BB.out.size)
  clear hS
  go_wp2
  go_ret
  exact ⟨rfl, BZ.out⟩

theorem walk (v : Value) (xs : List Int) (pv : Value) (ps : List Int) (n : Int) (w : World) (hb : Byt w v xs) (hp : Byt w pv ps) (_hn : -9223372036854775808 ≤ n ∧ n ≤ 9223372036854775807) (hT : Tbl w ∧ Tb2 w) :
    Calls Tryd.prog 5 #[v, pv, .int .i64 n] w fun x w' => x = .returned (.bool true) ∧ Below w.heap.size w w' := by
  by_cases h1 : n > 4
  · by_cases h2 : n ≤ 1000
    · exact walk_many v pv xs ps n w hb hp hT h1 h2
    · by_cases hl : xs.length = 624
      · by_cases hi : Isr xs
        · exact walk_shape_l v pv xs ps n w hb hp hT h1 h2 hl hi (by omega)
        · exact walk_no_l v pv xs ps n w hb hp hT h1 h2 hl hi
      · exact walk_len_l v pv xs ps n w hb hp hT h1 h2 hl
  · by_cases hl : xs.length = 624
    · by_cases hi : Isr xs
      · by_cases hr : ps.length ≤ 64 ∧ 1 ≤ n ∧ n ≤ 1000
        · obtain ⟨m, rfl⟩ : ∃ m : Nat, n = (m : Int) := ⟨n.toNat, by omega⟩
          by_cases hc : mc.dblk (mc.blk ps) (re.qs xs) m 3 = re.qc xs
          · by_cases ht : (xs.drop 592 = mc.tagB (mc.blk (mc.dblk (mc.blk ps) (re.qs xs) m 2)) (xs.take 592))
            · exact walk_open v pv xs ps m w hb hp hT (by omega) hl hi hr.1 (by omega) hc ht
            · exact walk_tag v pv xs ps m w hb hp hT (by omega) hl hi hr.1 (by omega) hc ht
          · exact walk_pass v pv xs ps m w hb hp hT (by omega) hl hi hr.1 (by omega) hc
        · exact walk_shape_s v pv xs ps n w hb hp hT h1 hl hi hr
      · exact walk_no_s v pv xs ps n w hb hp hT h1 hl hi
    · exact walk_len_s v pv xs ps n w hb hp hT h1 hl

theorem params : ∀ t ∈ Tryd.f5.params.toList, Tryd.prog.readableRec t = true ∧ t < Tryd.prog.types.size := by
  rw [Tryd.params5]
  intro t ht
  simp at ht
  rcases ht with rfl | rfl
  · exact ⟨by kernel_rfl, of_decide_eq_true (by kernel_rfl)⟩
  · exact ⟨by kernel_rfl, of_decide_eq_true (by kernel_rfl)⟩

theorem contract (H : Type) (enc : TypeId × Value → H) (W : World) (base : Nat) (args : Array Value) (ds gs : List (DataW H)) (before : List MemPlace)
    (hval : ∀ (j : Nat) t v, Tryd.f5.params[j]? = some t → args[j]? = some v → Value.okWide Tryd.prog W .any base t v)
    (hW : DataW.Whole enc Tryd.prog Tryd.f5.params.toList Rows.recordOpensSpec.vars false W args.toList ds gs before) (hL : laidMetH Tryd.prog Rows.recordOpensRow.laid W) :
    Calls Tryd.prog 5 args W fun e W' => ∃ v, e = .returned v ∧ Rows.recordOpensSpec.post enc Tryd.prog Tryd.f5 false true false false W args v W' := by
  have hW' := hW
  obtain ⟨p, q, hA0, hV, rfl, hfz, hnd⟩ := hW
  have hA : DataW.TrodAll enc Tryd.prog W 0 (fun _ => true) true Tryd.f5.params.toList args.toList ds p := hA0
  rw [Tryd.params5] at hA hval
  obtain ⟨v0, v1, v2, d0, d1, d2, p0, p1, p2, rfl, rfl, rfl, h0, h1, h2⟩ := trodAll_three hA
  obtain ⟨rfl, rfl⟩ := trodVars_none hV
  obtain ⟨xs0, b0⟩ := byt_open (hval 0 23 v0 rfl rfl) h0
  obtain ⟨xs1, b1⟩ := byt_open (hval 1 23 v1 rfl rfl) h1
  obtain ⟨x2, rfl, rfl, rfl, w2⟩ := open_int Tryd.underlying3 (hval 2 3 v2 rfl rfl) h2
  clear hA0
  refine (walk v0 xs0 v1 xs1 x2 W b0 b1 (bounds_i64 w2) (re.tables hL)).mono fun e W' ⟨he, hg⟩ => ?_
  subst he
  exact ⟨_, rfl, post_law rfl (by kernel_rfl) params rfl rfl rfl hW' hg⟩

theorem laid_met (os : Os) : laidMet Tryd.prog Rows.recordOpensRow.laid (({ World.holding Tryd.prog os ⟨#[], #[], []⟩ with heap := ((World.holding Tryd.prog os ⟨#[], #[], []⟩).heap.modify 0 fun | .cells _ t frozen => .cells #[.int .i64 1, .int .i64 3, .int .i64 4, .int .i64 8, .int .i64 8] t frozen | o => o).modify 1 fun | .cells _ t frozen => .cells #[.int .i64 8, .int .i64 8, .int .i64 16, .int .i64 8, .int .i64 8, .int .i64 32] t frozen | o => o } : World).forCall (fun _ _ => 0) ⟨#[], #[.slice none 0 0, .slice none 0 0, .int .i64 0], []⟩).memory :=
  laidMet_of_run' 8 (by kernel_rfl) (by kernel_rfl)
theorem reads (os : Os) {H : Type} (enc : TypeId × Value → H) : ∃ places, DataW.whole enc Tryd.prog (({ World.holding Tryd.prog os ⟨#[], #[], []⟩ with heap := ((World.holding Tryd.prog os ⟨#[], #[], []⟩).heap.modify 0 fun | .cells _ t frozen => .cells #[.int .i64 1, .int .i64 3, .int .i64 4, .int .i64 8, .int .i64 8] t frozen | o => o).modify 1 fun | .cells _ t frozen => .cells #[.int .i64 8, .int .i64 8, .int .i64 16, .int .i64 8, .int .i64 8, .int .i64 32] t frozen | o => o } : World).forCall (fun _ _ => 0) ⟨#[], #[.slice none 0 0, .slice none 0 0, .int .i64 0], []⟩).memory Tryd.f5.params.toList Rows.recordOpensSpec.vars false #[Value.slice none 0 0, Value.slice none 0 0, Value.int .i64 0].toList 8 = some ([.nil, .nil, .lit (.int .i64 0)], [], places) :=
  ⟨[], by kernel_rfl⟩

set_option maxRecDepth 100000 in
theorem lifted (os : Os) (started : os.Started) (H : Type) (enc : TypeId × Value → H) (F : Stop.Interp) :
    ReturnsInHanded {} Tryd.checked os 5 .any ((OpenSpec.ofChange Rows.recordOpensSpec).preRow enc Tryd.prog Tryd.f5 Rows.recordOpensRow.domain false Rows.recordOpensRow.laid) (((OpenSpec.ofChange Rows.recordOpensSpec).at F).post enc Tryd.prog Tryd.f5 false true false false) := by
  obtain ⟨places, hx⟩ := reads os enc
  refine returnsInHanded_of_row (C := Tryd.checked) (s := OpenSpec.ofChange Rows.recordOpensSpec) own started (by kernel_rfl) Tryd.func5
    (witness_row_at (enc := enc) (C := Tryd.checked) false ({ World.holding Tryd.prog os ⟨#[], #[], []⟩ with heap := ((World.holding Tryd.prog os ⟨#[], #[], []⟩).heap.modify 0 fun | .cells _ t frozen => .cells #[.int .i64 1, .int .i64 3, .int .i64 4, .int .i64 8, .int .i64 8] t frozen | o => o).modify 1 fun | .cells _ t frozen => .cells #[.int .i64 8, .int .i64 8, .int .i64 16, .int .i64 8, .int .i64 8, .int .i64 32] t frozen | o => o } : World) #[.slice none 0 0, .slice none 0 0, .int .i64 0] rfl (by kernel_rfl) (by kernel_rfl) (by kernel_rfl)
      (OpenSpec.preRow_of_cond 8 hx (by kernel_rfl) (fun k hk => by cases hk) (by kernel_rfl) (laid_met os))) ?_
  intro W base args ds gs before hval hW _ _ _ hL _ _
  exact contract H enc W base args ds gs before hval hW hL

theorem said : Rows.RecordOpensSaid :=
  OpenClaim.holds_of_cond 5 Tryd.f5 rfl rfl rfl rfl rfl rfl rfl ⟨rfl, rfl, rfl, rfl, rfl⟩ rfl rfl rfl rfl rfl (by kernel_rfl) Tryd.func5 (by kernel_rfl)
    (of_decide_eq_true (by kernel_rfl)) (by unfold Func.isWrapper; first | (rw [if_pos (by decide +kernel)]; kernel_rfl) | (rw [if_neg (by decide +kernel)]; exact ⟨rfl, rfl⟩))
    (fun os started H enc _ F => by rw [OpenClaim.pre_eq_preRow]; exact lifted os started H enc F)

theorem plain (f : FuncId) (fn : Func) (hf : Tryd.pinned.checked.prog.funcNamed "nepenthe/nepenthelaw18.RecordOpens" = some f) (hfn : Tryd.pinned.checked.prog.funcs[f]? = some fn) :
    false = Tryd.pinned.checked.prog.looks [] ∧ ∀ (j : Nat) t, fn.params[j]? = some t → Tryd.pinned.checked.prog.wantsStandIn t = false := by
  obtain rfl : f = 5 := Option.some.inj ((show Tryd.prog.funcNamed "nepenthe/nepenthelaw18.RecordOpens" = some 5 by kernel_rfl).symm.trans hf) |>.symm
  obtain rfl : fn = Tryd.f5 := (Option.some.inj (Tryd.func5.symm.trans hfn)).symm
  refine ⟨by kernel_rfl, fun j t ht => ?_⟩
  rw [Tryd.params5] at ht
  have hm := Array.mem_of_getElem? ht
  simp at hm
  rcases hm with rfl | rfl
  · exact (show Tryd.prog.wantsStandIn 23 = false by kernel_rfl)
  · exact (show Tryd.prog.wantsStandIn 3 = false by kernel_rfl)
end Go.Proofs.YtmbfccclghnaeaaDoor.recordOpens

namespace Go.Proofs.YtmbfccclghnaeaaDoor
theorem recordOpens_card : Rows.RecordOpensCardSaid :=
  Claim7.holds_tied_plain_at .later [] _ _ _ _ recordOpens.said (fun _ h => by cases h) (by kernel_rfl) (fun _ h => by cases h) recordOpens_row_tie rfl ⟨rfl, rfl⟩ (by kernel_rfl) rfl recordOpens.plain (by kernel_rfl)
#print axioms recordOpens_card
end Go.Proofs.YtmbfccclghnaeaaDoor
