/- The record of any bytes, or why there is none: as the document says; whether their tag fits under any key. No condition. -/
import Derived.Test.YtmbfccclghnaeaaDoorCards
import Derived.Test.YtmbfccclghnaeaaDoorTie
import Derived.Test.YtmbfccclghnaeaaDoorXYRRd
import Derived.Test.YtmbfccclghnaeaaDoorXYRBy
import Derived.Test.YtmbfccclghnaeaaDoorXYSmz
import Derived.Test.YtmbfccclghnaeaaDoorPackR
namespace Go.Proofs.YtmbfccclghnaeaaDoor.recordReads
open Go.ChangeShapes Go.WideShapes Go.ChangeAt Go.RowKit Go.Proofs.YtmbfccclghnaeaaDoor.re Go.Proofs.YtmbfccclghnaeaaDoor.so Go.Proofs.YtmbfccclghnaeaaDoor.he Go.Proofs.YtmbfccclghnaeaaDoor.fa
set_option maxRecDepth 20000


set_option maxHeartbeats 8000000 in
theorem walk_len (v kv : Value) (xs ks : List Int) (w : World) (hb : Byt w v xs) (hk : Byt w kv ks) (hT : Tbl w ∧ Tb2 w) (hl : xs.length ≠ 624) :
    Calls Tryd.prog 4 #[v, kv] w fun x w' => x = .returned (.bool true) ∧ Below w.heap.size w w' := by
  have SW : Hid (∀ w0, Below w.heap.size w w0 → Calls Tryd.prog 8 #[] w0 fun x w' => x = .returned (.bool true) ∧ Below w0.heap.size w0 w') := fun w0 q => re.awake_any w0 (hT.1.below q hT.1.lt)
  have SD : Hid (∀ w0, Below w.heap.size w w0 → Calls Tryd.prog 17 #[v] w0 fun x w' => x = .returned (.tuple #[.agg rv0.toArray, .int .i64 2]) ∧ Below w0.heap.size w0 w') := fun w0 q => re.read_len v xs w0 (hb.below q) hl
  have SF : Hid (∀ w0, Below w.heap.size w w0 → Calls Tryd.prog 20 #[v, kv] w0 fun x w' => x = .returned (.bool false) ∧ Below w0.heap.size w0 w') := fun w0 q => re.fits_len v kv xs ks w0 (hb.below q) (hk.below q) hl
  obtain ⟨bo, bc, rfl⟩ := form hb
  obtain ⟨ko, kc, rfl⟩ := form hk
  have n8 : ((xs.length : Int) != 624) = true := bne_iff_ne.2 (by omega)
  clear hb hk hl hT
  have t0 : (0 : Nat) = 0 := rfl
  go_enter Tryd.func4, Tryd.ntmps4
  go_wp2_with (first
    | (have q7 := t7; go_at_call 8; refine (SW.out w6 BB.out).mono ?_; rintro e9 w7 ⟨rfl, B9⟩; have NB_HV : Hid (NoB w7 w1.heap.size) := NB_HV.out.heap (B9.block _ (range_lt HV.out.1 (Nat.succ_pos _))); have HV : Hid (Vr w7 w1.heap.size rv0) := HV.out.below B9 (range_lt HV.out.1 (Nat.succ_pos _)); have BB : Hid (Below w.heap.size w w7) := BB.out.trans (B9.mono BB.out.size); clear B9; clear t7; have t8 : (1 : Nat) = 1 := rfl)
    | (have q6 := t6; go_at_call 20; refine (SF.out w5 BB.out).mono ?_; rintro e9 w6 ⟨rfl, B9⟩; have NB_HV : Hid (NoB w6 w1.heap.size) := NB_HV.out.heap (B9.block _ (range_lt HV.out.1 (Nat.succ_pos _))); have HV : Hid (Vr w6 w1.heap.size rv0) := HV.out.below B9 (range_lt HV.out.1 (Nat.succ_pos _)); have BB : Hid (Below w.heap.size w w6) := BB.out.trans (B9.mono BB.out.size); clear B9; clear t6; have t7 : (1 : Nat) = 1 := rfl)
    | (have q5 := t5; go_at_call 14; refine (rsame_rv0 w4).mono ?_; rintro e9 w5 ⟨rfl, B9⟩; have NB_HV : Hid (NoB w5 w1.heap.size) := NB_HV.out.heap (B9.block _ (range_lt HV.out.1 (Nat.succ_pos _))); have HV : Hid (Vr w5 w1.heap.size rv0) := HV.out.below B9 (range_lt HV.out.1 (Nat.succ_pos _)); have BB : Hid (Below w.heap.size w w5) := BB.out.trans (B9.mono BB.out.size); clear B9; clear t5; have t6 : (1 : Nat) = 1 := rfl)
    | (have q4 := t4; go_at_call 13; refine (of_rv0 w3).mono ?_; rintro e9 w4 ⟨rfl, B9⟩; have NB_HV : Hid (NoB w4 w1.heap.size) := NB_HV.out.heap (B9.block _ (range_lt HV.out.1 (Nat.succ_pos _))); have HV : Hid (Vr w4 w1.heap.size rv0) := HV.out.below B9 (range_lt HV.out.1 (Nat.succ_pos _)); have BB : Hid (Below w.heap.size w w4) := BB.out.trans (B9.mono BB.out.size); clear B9; clear t4; have t5 : (1 : Nat) = 1 := rfl)
    | (have q3 := t3; refine load_lawC _ rfl rv0 w1.heap.size 0 rfl HV.out.1 rowy_record ?_; clear t3; have t4 : (1 : Nat) = 1 := rfl)
    | (have q2 := t2; (with_reducible refine at_store ?_); refine store_lawC _ rv0 w1.heap.size 0 rfl rfl HV.out.2 rowy_record.2 rv0_one ?_; intro w3 E9 R9 T9 B9; have K9 : ∀ k, k ≠ w1.heap.size → w3.heap[k]? = w2.heap[k]? := (by rw [E9.out]; exact fun k hk => heap_cells _ _ _ _ k hk); have NB_HV : Hid (NoB w3 w1.heap.size) := (by rw [E9.out]; exact NB_HV.out.set HV.out rfl rv0_nob); have HV : Hid (Vr w3 w1.heap.size rv0) := ⟨R9, T9⟩; have BB : Hid (Below w.heap.size w w3) := BB.out.trans (B9.mono LE_HV.out); clear E9 R9 T9 B9 K9; clear t2; have t3 : (1 : Nat) = 1 := rfl)
    | (have q1 := t1; (with_reducible refine at_alloc ?_); refine new_lawN _ rv0 zero_record rv0_nob ?_; intro w2 X9 N9 B9; have LE_HV : Hid (w.heap.size ≤ w1.heap.size) := BB.out.size; have HV : Hid (Vr w2 w1.heap.size rv0) := X9; have NB_HV : Hid (NoB w2 w1.heap.size) := N9; have BB : Hid (Below w.heap.size w w2) := BB.out.trans (B9.mono BB.out.size); clear X9 N9 B9; clear t1; have t2 : (1 : Nat) = 1 := rfl)
    | (have q0 := t0; go_at_call 17; refine (SD.out w (Below.refl _ _)).mono ?_; rintro e9 w1 ⟨rfl, B9⟩; have BB : Hid (Below w.heap.size w w1) := B9; clear B9; clear t0; have t1 : (1 : Nat) = 1 := rfl))
  go_ret
  exact ⟨rfl, BB.out⟩

set_option maxHeartbeats 8000000 in
theorem walk_no_k (v kv : Value) (xs ks : List Int) (w : World) (hb : Byt w v xs) (hk : Byt w kv ks) (hT : Tbl w ∧ Tb2 w) (hl : xs.length = 624) (hi : ¬ Isr xs) (hn : ks.length = 32) :
    Calls Tryd.prog 4 #[v, kv] w fun x w' => x = .returned (.bool true) ∧ Below w.heap.size w w' := by
  have SW : Hid (∀ w0, Below w.heap.size w w0 → Calls Tryd.prog 8 #[] w0 fun x w' => x = .returned (.bool true) ∧ Below w0.heap.size w0 w') := fun w0 q => re.awake_any w0 (hT.1.below q hT.1.lt)
  have SD : Hid (∀ w0, Below w.heap.size w w0 → Calls Tryd.prog 17 #[v] w0 fun x w' => x = .returned (.tuple #[.agg rv0.toArray, .int .i64 1]) ∧ Below w0.heap.size w0 w') := fun w0 q => re.read_no v xs w0 (hb.below q) hl (hT.1.below q hT.1.lt) (hT.2.below q hT.2.lt) hi
  have SQ : Hid (∀ w0, Below w.heap.size w w0 → Calls Tryd.prog 22 #[v] w0 fun x w' => x = .returned (.tuple #[.agg rv0.toArray, .bool false]) ∧ Below w0.heap.size w0 w') := fun w0 q => re.rread_none v xs w0 (hb.below q) hl hi
  obtain ⟨D, hD⟩ : ∃ D, decide (xs.drop 592 = mc.tagB (mc.blk ks) (xs.take 592)) = D := ⟨_, rfl⟩
  have SF : Hid (∀ w0, Below w.heap.size w w0 → Calls Tryd.prog 20 #[v, kv] w0 fun x w' => x = .returned (.bool D) ∧ Below w0.heap.size w0 w') := fun w0 q => re.fits_any v kv xs ks w0 (hb.below q) (hk.below q) hl hn D hD
  have SG : Hid (∀ w0, Below w.heap.size w w0 → Calls Tryd.prog 21 #[v, kv] w0 fun x w' => x = .returned (.bool D) ∧ Below w0.heap.size w0 w') := fun w0 q => re.rfits_any v kv xs ks w0 (hb.below q) (hk.below q) hl (by omega) D (by rw [← hD]; exact decide_eq_decide.2 ⟨Eq.symm, Eq.symm⟩)
  obtain ⟨bo, bc, rfl⟩ := byt_form hb hl
  obtain ⟨ko, kc, rfl⟩ := byt_form hk hn
  clear hD
  clear hb hk hl hi hn hT
  have t0 : (0 : Nat) = 0 := rfl
  go_enter Tryd.func4, Tryd.ntmps4
  go_wp2_with (first
    | (have q11 := t11; go_at_call 8; refine (SW.out w10 BB.out).mono ?_; rintro e9 w11 ⟨rfl, B9⟩; have NB_HV : Hid (NoB w11 w1.heap.size) := NB_HV.out.heap (B9.block _ (range_lt HV.out.1 (Nat.succ_pos _))); have HV : Hid (Vr w11 w1.heap.size rv0) := HV.out.below B9 (range_lt HV.out.1 (Nat.succ_pos _)); have NB_HW : Hid (NoB w11 w6.heap.size) := NB_HW.out.heap (B9.block _ (range_lt HW.out.1 (Nat.succ_pos _))); have HW : Hid (Vr w11 w6.heap.size rv0) := HW.out.below B9 (range_lt HW.out.1 (Nat.succ_pos _)); have BB : Hid (Below w.heap.size w w11) := BB.out.trans (B9.mono BB.out.size); clear B9; clear t11; have t12 : (1 : Nat) = 1 := rfl)
    | (have q10 := t10; go_at_call 14; refine (rsame_rv0 w9).mono ?_; rintro e9 w10 ⟨rfl, B9⟩; have NB_HV : Hid (NoB w10 w1.heap.size) := NB_HV.out.heap (B9.block _ (range_lt HV.out.1 (Nat.succ_pos _))); have HV : Hid (Vr w10 w1.heap.size rv0) := HV.out.below B9 (range_lt HV.out.1 (Nat.succ_pos _)); have NB_HW : Hid (NoB w10 w6.heap.size) := NB_HW.out.heap (B9.block _ (range_lt HW.out.1 (Nat.succ_pos _))); have HW : Hid (Vr w10 w6.heap.size rv0) := HW.out.below B9 (range_lt HW.out.1 (Nat.succ_pos _)); have BB : Hid (Below w.heap.size w w10) := BB.out.trans (B9.mono BB.out.size); clear B9; clear t10; have t11 : (1 : Nat) = 1 := rfl)
    | (have q9 := t9; go_at_call 13; refine (of_rv0 w8).mono ?_; rintro e9 w9 ⟨rfl, B9⟩; have NB_HV : Hid (NoB w9 w1.heap.size) := NB_HV.out.heap (B9.block _ (range_lt HV.out.1 (Nat.succ_pos _))); have HV : Hid (Vr w9 w1.heap.size rv0) := HV.out.below B9 (range_lt HV.out.1 (Nat.succ_pos _)); have NB_HW : Hid (NoB w9 w6.heap.size) := NB_HW.out.heap (B9.block _ (range_lt HW.out.1 (Nat.succ_pos _))); have HW : Hid (Vr w9 w6.heap.size rv0) := HW.out.below B9 (range_lt HW.out.1 (Nat.succ_pos _)); have BB : Hid (Below w.heap.size w w9) := BB.out.trans (B9.mono BB.out.size); clear B9; clear t9; have t10 : (1 : Nat) = 1 := rfl)
    | (have q8 := t8; refine load_lawC _ rfl rv0 w1.heap.size 0 rfl HV.out.1 rowy_record ?_; clear t8; have t9 : (1 : Nat) = 1 := rfl)
    | (have q7 := t7; (with_reducible refine at_store ?_); refine store_lawC _ rv0 w6.heap.size 0 rfl rfl HW.out.2 rowy_rrecord.2 rv0_one ?_; intro w8 E9 R9 T9 B9; have K9 : ∀ k, k ≠ w6.heap.size → w8.heap[k]? = w7.heap[k]? := (by rw [E9.out]; exact fun k hk => heap_cells _ _ _ _ k hk); have NB_HV : Hid (NoB w8 w1.heap.size) := NB_HV.out.heap (K9 _ (Nat.ne_of_lt LT_HV_HW.out)); have HV : Hid (Vr w8 w1.heap.size rv0) := HV.out.heap (K9 _ (Nat.ne_of_lt LT_HV_HW.out)); have NB_HW : Hid (NoB w8 w6.heap.size) := (by rw [E9.out]; exact NB_HW.out.set HW.out rfl rv0_nob); have HW : Hid (Vr w8 w6.heap.size rv0) := ⟨R9, T9⟩; have BB : Hid (Below w.heap.size w w8) := BB.out.trans (B9.mono LE_HW.out); clear E9 R9 T9 B9 K9; clear t7; have t8 : (1 : Nat) = 1 := rfl)
    | (have q6 := t6; (with_reducible refine at_alloc ?_); refine new_lawN _ rv0 zero_rrecord rv0_nob ?_; intro w7 X9 N9 B9; have LT_HV_HW : Hid (w1.heap.size < w6.heap.size) := range_lt HV.out.1 (Nat.succ_pos _); have LE_HW : Hid (w.heap.size ≤ w6.heap.size) := BB.out.size; have NB_HV : Hid (NoB w7 w1.heap.size) := NB_HV.out.heap (B9.block _ (range_lt HV.out.1 (Nat.succ_pos _))); have HV : Hid (Vr w7 w1.heap.size rv0) := HV.out.below B9 (range_lt HV.out.1 (Nat.succ_pos _)); have HW : Hid (Vr w7 w6.heap.size rv0) := X9; have NB_HW : Hid (NoB w7 w6.heap.size) := N9; have BB : Hid (Below w.heap.size w w7) := BB.out.trans (B9.mono BB.out.size); clear X9 N9 B9; clear t6; have t7 : (1 : Nat) = 1 := rfl)
    | (have q5 := t5; go_at_call 22; refine (SQ.out w5 BB.out).mono ?_; rintro e9 w6 ⟨rfl, B9⟩; have NB_HV : Hid (NoB w6 w1.heap.size) := NB_HV.out.heap (B9.block _ (range_lt HV.out.1 (Nat.succ_pos _))); have HV : Hid (Vr w6 w1.heap.size rv0) := HV.out.below B9 (range_lt HV.out.1 (Nat.succ_pos _)); have BB : Hid (Below w.heap.size w w6) := BB.out.trans (B9.mono BB.out.size); clear B9; clear t5; have t6 : (1 : Nat) = 1 := rfl)
    | (have q4 := t4; go_at_call 21; refine (SG.out w4 BB.out).mono ?_; rintro e9 w5 ⟨rfl, B9⟩; have NB_HV : Hid (NoB w5 w1.heap.size) := NB_HV.out.heap (B9.block _ (range_lt HV.out.1 (Nat.succ_pos _))); have HV : Hid (Vr w5 w1.heap.size rv0) := HV.out.below B9 (range_lt HV.out.1 (Nat.succ_pos _)); have BB : Hid (Below w.heap.size w w5) := BB.out.trans (B9.mono BB.out.size); clear B9; clear t4; have t5 : (1 : Nat) = 1 := rfl)
    | (have q3 := t3; go_at_call 20; refine (SF.out w3 BB.out).mono ?_; rintro e9 w4 ⟨rfl, B9⟩; have NB_HV : Hid (NoB w4 w1.heap.size) := NB_HV.out.heap (B9.block _ (range_lt HV.out.1 (Nat.succ_pos _))); have HV : Hid (Vr w4 w1.heap.size rv0) := HV.out.below B9 (range_lt HV.out.1 (Nat.succ_pos _)); have BB : Hid (Below w.heap.size w w4) := BB.out.trans (B9.mono BB.out.size); clear B9; clear t3; have t4 : (1 : Nat) = 1 := rfl)
    | (have q2 := t2; (with_reducible refine at_store ?_); refine store_lawC _ rv0 w1.heap.size 0 rfl rfl HV.out.2 rowy_record.2 rv0_one ?_; intro w3 E9 R9 T9 B9; have K9 : ∀ k, k ≠ w1.heap.size → w3.heap[k]? = w2.heap[k]? := (by rw [E9.out]; exact fun k hk => heap_cells _ _ _ _ k hk); have NB_HV : Hid (NoB w3 w1.heap.size) := (by rw [E9.out]; exact NB_HV.out.set HV.out rfl rv0_nob); have HV : Hid (Vr w3 w1.heap.size rv0) := ⟨R9, T9⟩; have BB : Hid (Below w.heap.size w w3) := BB.out.trans (B9.mono LE_HV.out); clear E9 R9 T9 B9 K9; clear t2; have t3 : (1 : Nat) = 1 := rfl)
    | (have q1 := t1; (with_reducible refine at_alloc ?_); refine new_lawN _ rv0 zero_record rv0_nob ?_; intro w2 X9 N9 B9; have LE_HV : Hid (w.heap.size ≤ w1.heap.size) := BB.out.size; have HV : Hid (Vr w2 w1.heap.size rv0) := X9; have NB_HV : Hid (NoB w2 w1.heap.size) := N9; have BB : Hid (Below w.heap.size w w2) := BB.out.trans (B9.mono BB.out.size); clear X9 N9 B9; clear t1; have t2 : (1 : Nat) = 1 := rfl)
    | (have q0 := t0; go_at_call 17; refine (SD.out w (Below.refl _ _)).mono ?_; rintro e9 w1 ⟨rfl, B9⟩; have BB : Hid (Below w.heap.size w w1) := B9; clear B9; clear t0; have t1 : (1 : Nat) = 1 := rfl))
  go_ret
  exact ⟨rfl, BB.out⟩

set_option maxHeartbeats 8000000 in
theorem walk_yes_k (v kv : Value) (xs ks : List Int) (w : World) (hb : Byt w v xs) (hk : Byt w kv ks) (hT : Tbl w ∧ Tb2 w) (hl : xs.length = 624) (hi : Isr xs) (hn : ks.length = 32) :
    Calls Tryd.prog 4 #[v, kv] w fun x w' => x = .returned (.bool true) ∧ Below w.heap.size w w' := by
  have SW : Hid (∀ w0, Below w.heap.size w w0 → Calls Tryd.prog 8 #[] w0 fun x w' => x = .returned (.bool true) ∧ Below w0.heap.size w0 w') := fun w0 q => re.awake_any w0 (hT.1.below q hT.1.lt)
  have SD : Hid (∀ w0, Below w.heap.size w w0 → Calls Tryd.prog 17 #[v] w0 fun x w' => ∃ a c T, x = .returned (.tuple #[.agg (rv (qg xs) (qp xs) a (qb xs) c T).toArray, .int .i64 0]) ∧ Rin w' (qg xs) (qp xs) (qb xs) a c (re.qs xs) (re.qc xs) T ∧ (∀ k, k < 4 → (T k).d = sw (qw xs k)) ∧ Below w0.heap.size w0 w') := fun w0 q => re.read_all v xs w0 (hb.below q) hl (hT.1.below q hT.1.lt) (hT.2.below q hT.2.lt) hi.1 hi.2
  have SQ : Hid (∀ w0, Below w.heap.size w w0 → Calls Tryd.prog 22 #[v] w0 fun x w' => ∃ a c T, x = .returned (.tuple #[.agg (rv (qg xs) (qp xs) a (qb xs) c T).toArray, .bool true]) ∧ Rb w' a c (re.qs xs) (re.qc xs) T ∧ (∀ k, k < 4 → (T k).d = sw (qw xs k)) ∧ Below w0.heap.size w0 w') := fun w0 q => (re.rread_all v xs w0 (hb.below q) hl hi).mono fun _ _ ⟨a, c, T, e, h1, h2, h3, h4⟩ => ⟨a, c, T, e, ⟨h1, h2, fun k hk => (h3 k hk).2⟩, fun k hk => (h3 k hk).1, h4⟩
  obtain ⟨D, hD⟩ : ∃ D, decide (xs.drop 592 = mc.tagB (mc.blk ks) (xs.take 592)) = D := ⟨_, rfl⟩
  have SF : Hid (∀ w0, Below w.heap.size w w0 → Calls Tryd.prog 20 #[v, kv] w0 fun x w' => x = .returned (.bool D) ∧ Below w0.heap.size w0 w') := fun w0 q => re.fits_any v kv xs ks w0 (hb.below q) (hk.below q) hl hn D hD
  have SG : Hid (∀ w0, Below w.heap.size w w0 → Calls Tryd.prog 21 #[v, kv] w0 fun x w' => x = .returned (.bool D) ∧ Below w0.heap.size w0 w') := fun w0 q => re.rfits_any v kv xs ks w0 (hb.below q) (hk.below q) hl (by omega) D (by rw [← hD]; exact decide_eq_decide.2 ⟨Eq.symm, Eq.symm⟩)
  obtain ⟨bo, bc, rfl⟩ := byt_form hb hl
  obtain ⟨ko, kc, rfl⟩ := byt_form hk hn
  clear hD
  clear hb hk hl hi hn hT
  generalize qg xs = G at SD SQ
  generalize qp xs = P at SD SQ
  generalize qb xs = B at SD SQ
  generalize re.qs xs = QS at SD SQ
  generalize re.qc xs = QC at SD SQ
  have t0 : (0 : Nat) = 0 := rfl
  go_enter Tryd.func4, Tryd.ntmps4
  go_wp2_with (first
    | (have q7 := t7; (with_reducible refine at_store ?_); refine store_lawC _ (rv G P a2 B c2 T2) w6.heap.size 0 rfl rfl HW.out.2 rowy_rrecord.2 RB.out.one ?_; intro w8 E9 R9 T9 B9; have K9 : ∀ k, k ≠ w6.heap.size → w8.heap[k]? = w7.heap[k]? := (by rw [E9.out]; exact fun k hk => heap_cells _ _ _ _ k hk); have NB_HV : Hid (NoB w8 w1.heap.size) := NB_HV.out.heap (K9 _ (Nat.ne_of_lt LT_HV_HW.out)); have HV : Hid (Vr w8 w1.heap.size (rv G P a B c T)) := HV.out.heap (K9 _ (Nat.ne_of_lt LT_HV_HW.out)); have RI : Hid (Rin w8 G P B a c QS QC T) := rin_nob RI.out NB_HW.out K9; have RB : Hid (Rb w8 a2 c2 QS QC T2) := rb_nob RB.out NB_HW.out K9; have NB_HW : Hid (NoB w8 w6.heap.size) := (by rw [E9.out]; exact NB_HW.out.set HW.out rfl RB.out.nob); have HW : Hid (Vr w8 w6.heap.size (rv G P a2 B c2 T2)) := ⟨R9, T9⟩; have BB : Hid (Below w.heap.size w w8) := BB.out.trans (B9.mono LE_HW.out); clear E9 R9 T9 B9 K9; clear t7; have t8 : (1 : Nat) = 1 := rfl)
    | (have q6 := t6; (with_reducible refine at_alloc ?_); refine new_lawN _ rv0 zero_rrecord rv0_nob ?_; intro w7 X9 N9 B9; have LT_HV_HW : Hid (w1.heap.size < w6.heap.size) := range_lt HV.out.1 (Nat.succ_pos _); have LE_HW : Hid (w.heap.size ≤ w6.heap.size) := BB.out.size; have RI : Hid (Rin w7 G P B a c QS QC T) := RI.out.below B9; have NB_HV : Hid (NoB w7 w1.heap.size) := NB_HV.out.heap (B9.block _ (range_lt HV.out.1 (Nat.succ_pos _))); have HV : Hid (Vr w7 w1.heap.size (rv G P a B c T)) := HV.out.below B9 (range_lt HV.out.1 (Nat.succ_pos _)); have RB : Hid (Rb w7 a2 c2 QS QC T2) := RB.out.below B9; have HW : Hid (Vr w7 w6.heap.size rv0) := X9; have NB_HW : Hid (NoB w7 w6.heap.size) := N9; have BB : Hid (Below w.heap.size w w7) := BB.out.trans (B9.mono BB.out.size); clear X9 N9 B9; clear t6; have t7 : (1 : Nat) = 1 := rfl)
    | (have q5 := t5; go_at_call 22; refine (SQ.out w5 BB.out).mono ?_; rintro e9 w6 ⟨a2, c2, T2, rfl, r8, d8, B9⟩; have RI : Hid (Rin w6 G P B a c QS QC T) := RI.out.below B9; have NB_HV : Hid (NoB w6 w1.heap.size) := NB_HV.out.heap (B9.block _ (range_lt HV.out.1 (Nat.succ_pos _))); have HV : Hid (Vr w6 w1.heap.size (rv G P a B c T)) := HV.out.below B9 (range_lt HV.out.1 (Nat.succ_pos _)); have RB : Hid (Rb w6 a2 c2 QS QC T2) := r8; have HD2 : Hid (∀ k, k < 4 → (T2 k).d = sw (qw xs k)) := d8; have BB : Hid (Below w.heap.size w w6) := BB.out.trans (B9.mono BB.out.size); clear B9 r8 d8; clear t5; have t6 : (1 : Nat) = 1 := rfl)
    | (have q4 := t4; go_at_call 21; refine (SG.out w4 BB.out).mono ?_; rintro e9 w5 ⟨rfl, B9⟩; have RI : Hid (Rin w5 G P B a c QS QC T) := RI.out.below B9; have NB_HV : Hid (NoB w5 w1.heap.size) := NB_HV.out.heap (B9.block _ (range_lt HV.out.1 (Nat.succ_pos _))); have HV : Hid (Vr w5 w1.heap.size (rv G P a B c T)) := HV.out.below B9 (range_lt HV.out.1 (Nat.succ_pos _)); have BB : Hid (Below w.heap.size w w5) := BB.out.trans (B9.mono BB.out.size); clear B9; clear t4; have t5 : (1 : Nat) = 1 := rfl)
    | (have q3 := t3; go_at_call 20; refine (SF.out w3 BB.out).mono ?_; rintro e9 w4 ⟨rfl, B9⟩; have RI : Hid (Rin w4 G P B a c QS QC T) := RI.out.below B9; have NB_HV : Hid (NoB w4 w1.heap.size) := NB_HV.out.heap (B9.block _ (range_lt HV.out.1 (Nat.succ_pos _))); have HV : Hid (Vr w4 w1.heap.size (rv G P a B c T)) := HV.out.below B9 (range_lt HV.out.1 (Nat.succ_pos _)); have BB : Hid (Below w.heap.size w w4) := BB.out.trans (B9.mono BB.out.size); clear B9; clear t3; have t4 : (1 : Nat) = 1 := rfl)
    | (have q2 := t2; (with_reducible refine at_store ?_); refine store_lawC _ (rv G P a B c T) w1.heap.size 0 rfl rfl HV.out.2 rowy_record.2 RI.out.one ?_; intro w3 E9 R9 T9 B9; have K9 : ∀ k, k ≠ w1.heap.size → w3.heap[k]? = w2.heap[k]? := (by rw [E9.out]; exact fun k hk => heap_cells _ _ _ _ k hk); have RI : Hid (Rin w3 G P B a c QS QC T) := rin_nob RI.out NB_HV.out K9; have NB_HV : Hid (NoB w3 w1.heap.size) := (by rw [E9.out]; exact NB_HV.out.set HV.out rfl RI.out.nob); have HV : Hid (Vr w3 w1.heap.size (rv G P a B c T)) := ⟨R9, T9⟩; have BB : Hid (Below w.heap.size w w3) := BB.out.trans (B9.mono LE_HV.out); clear E9 R9 T9 B9 K9; clear t2; have t3 : (1 : Nat) = 1 := rfl)
    | (have q1 := t1; (with_reducible refine at_alloc ?_); refine new_lawN _ rv0 zero_record rv0_nob ?_; intro w2 X9 N9 B9; have LE_HV : Hid (w.heap.size ≤ w1.heap.size) := BB.out.size; have RI : Hid (Rin w2 G P B a c QS QC T) := RI.out.below B9; have HV : Hid (Vr w2 w1.heap.size rv0) := X9; have NB_HV : Hid (NoB w2 w1.heap.size) := N9; have BB : Hid (Below w.heap.size w w2) := BB.out.trans (B9.mono BB.out.size); clear X9 N9 B9; clear t1; have t2 : (1 : Nat) = 1 := rfl)
    | (have q0 := t0; go_at_call 17; refine (SD.out w (Below.refl _ _)).mono ?_; rintro e9 w1 ⟨a, c, T, rfl, r8, d8, B9⟩; have RI : Hid (Rin w1 G P B a c QS QC T) := r8; have HD : Hid (∀ k, k < 4 → (T k).d = sw (qw xs k)) := d8; have BB : Hid (Below w.heap.size w w1) := B9; clear B9 r8 d8; clear t0; have t1 : (1 : Nat) = 1 := rfl))
  refine wp_region_held_drew (S := fun w' => Below w8.heap.size w8 w') (by kernel_rfl) (Below.refl _ _).drew (fun hS => ?_)
  obtain ⟨x1, hx0⟩ : ∃ x, x = w8.drew := ⟨_, rfl⟩
  rw [← hx0] at hS  ⊢
  clear hx0
  refine take_lawH 0 (some 64) (.int .i64 0) rfl rfl (by kernel_rfl) (by kernel_rfl) (by kernel_rfl) (fun _ _ _ h => h) (Or.inl ⟨by rfl, fun w' hw' => by rfl⟩) hS ?_
  simp only [Act.put, List.setIfInBounds_toArray, List.set_cons_zero, List.set_cons_succ]
  refine take_lawH 1 (some 65) (.bool true) rfl rfl (by kernel_rfl) (by kernel_rfl) (by kernel_rfl) (fun _ _ _ h => h) (Or.inl ⟨by rfl, fun w' hw' => by rfl⟩) hS ?_
  simp only [Act.put, List.setIfInBounds_toArray, List.set_cons_zero, List.set_cons_succ]
  refine take_lawH 2 (some 66) (.bool true) rfl rfl (by kernel_rfl) (by kernel_rfl) (by kernel_rfl) (fun _ _ _ h => h) (Or.inl ⟨by rfl, fun w' hw' => by rfl⟩) hS ?_
  simp only [Act.put, List.setIfInBounds_toArray, List.set_cons_zero, List.set_cons_succ]
  refine take_lawH 3 (some 67) (.agg (rv G P a B c T).toArray) rfl rfl (by kernel_rfl) (by kernel_rfl) (by kernel_rfl) (fun _ _ _ h => h) (Or.inl ⟨by rfl, fun w' hw' => by exact exec_loadN 28 (.tmp 5) rfl _ rfl _ _ (load_cells rowy_record (HV.out.below hw' (range_lt HV.out.1 (Nat.succ_pos _))).1)⟩) hS ?_
  simp only [Act.put, List.setIfInBounds_toArray, List.set_cons_zero, List.set_cons_succ]
  refine take_lawH 5 (some 69) (.agg (rv G P a2 B c2 T2).toArray) rfl rfl (by kernel_rfl) (by kernel_rfl) (by kernel_rfl) (fun _ _ _ h => h) (Or.inl ⟨by rfl, fun w' hw' => by exact exec_loadN 39 (.tmp 7) rfl _ rfl _ _ (load_cells rowy_rrecord (HW.out.below hw' (range_lt HW.out.1 (Nat.succ_pos _))).1)⟩) hS ?_
  simp only [Act.put, List.setIfInBounds_toArray, List.set_cons_zero, List.set_cons_succ]
  refine wpAnyH_ready (rs := [4]) (by kernel_rfl) (by simp) ?_
  refine AllReadyH.cons rfl (fun K hK => ?_) AllReadyH.nil
  refine he.step_callW _ (by rfl) (some 68) rfl 13 #[.tmp 67] #[28] rfl (fun q w' => by rfl) #[.agg (rv G P a B c T).toArray] (by simp only [List.map_toArray, List.map_cons, List.map_nil]; rfl) (fun z9 w' => z9 = .agg (rv G P a B c T).toArray ∧ Below x1.heap.size x1 w') ?_ ?_
  · exact (of_rb G P B a c QS QC T x1 (RI.out.rb.below hS)).mono fun e w' ⟨h1, h2⟩ => ⟨_, h1, rfl, h2⟩
  rintro _ x2 ⟨rfl, hb⟩
  have hS : Below w8.heap.size w8 x2 := hS.trans (hb.mono hS.size)
  clear hb
  refine hK.out _ _ hS (fun _ => ?_)
  simp only [Act.put, List.setIfInBounds_toArray, List.set_cons_zero, List.set_cons_succ]
  clear hK K
  refine wpAnyH_ready (rs := [6]) (by kernel_rfl) (by simp) ?_
  refine AllReadyH.cons rfl (fun K hK => ?_) AllReadyH.nil
  refine he.step_callW _ (by rfl) (some 70) rfl 14 #[.tmp 68, .tmp 69] #[39, 39] rfl (fun q w' => by rfl) #[.agg (rv G P a B c T).toArray, .agg (rv G P a2 B c2 T2).toArray] (by simp only [List.map_toArray, List.map_cons, List.map_nil]; rfl) (fun z9 w' => z9 = .bool true ∧ Below x2.heap.size x2 w') ?_ ?_
  · exact (rsame_rb G P B a c a2 c2 QS QC T T2 x2 (RI.out.rb.below hS) (RB.out.below hS) (fun k hk => (HD.out k hk).trans (HD2.out k hk).symm)).mono fun e w' ⟨h1, h2⟩ => ⟨_, h1, rfl, h2⟩
  rintro _ x3 ⟨rfl, hb⟩
  have hS : Below w8.heap.size w8 x3 := hS.trans (hb.mono hS.size)
  clear hb
  refine hK.out _ _ hS (fun _ => ?_)
  simp only [Act.put, List.setIfInBounds_toArray, List.set_cons_zero, List.set_cons_succ]
  clear hK K
  refine take_lawH 7 (some 71) (.bool true) rfl rfl (by kernel_rfl) (by kernel_rfl) (by kernel_rfl) (fun _ _ _ h => h) (Or.inl ⟨by rfl, fun w' hw' => by rfl⟩) hS ?_
  simp only [Act.put, List.setIfInBounds_toArray, List.set_cons_zero, List.set_cons_succ]
  refine take_lawH 8 (some 72) (.bool true) rfl rfl (by kernel_rfl) (by kernel_rfl) (by kernel_rfl) (fun _ _ _ h => h) (Or.inl ⟨by rfl, fun w' hw' => by rfl⟩) hS ?_
  simp only [Act.put, List.setIfInBounds_toArray, List.set_cons_zero, List.set_cons_succ]
  refine wpAnyH_ready (rs := [9]) (by kernel_rfl) (by simp) ?_
  refine AllReadyH.cons rfl (fun K hK => ?_) AllReadyH.nil
  refine he.step_callW _ (by rfl) (some 73) rfl 8 #[] #[] rfl (fun q w' => by rfl) #[] (by simp only [List.map_toArray, List.map_nil]) (fun z9 w' => z9 = .bool true ∧ Below x3.heap.size x3 w') ?_ ?_
  · exact (SW.out x3 (BB.out.trans (hS.mono BB.out.size))).mono fun e w' ⟨h1, h2⟩ => ⟨_, h1, rfl, h2⟩
  rintro _ x4 ⟨rfl, hb⟩
  have hS : Below w8.heap.size w8 x4 := hS.trans (hb.mono hS.size)
  clear hb
  refine hK.out _ _ hS (fun _ => ?_)
  simp only [Act.put, List.setIfInBounds_toArray, List.set_cons_zero, List.set_cons_succ]
  clear hK K
  refine take_lawH 10 (some 74) (.bool true) rfl rfl (by kernel_rfl) (by kernel_rfl) (by kernel_rfl) (fun _ _ _ h => h) (Or.inl ⟨by rfl, fun w' hw' => by rfl⟩) hS ?_
  simp only [Act.put, List.setIfInBounds_toArray, List.set_cons_zero, List.set_cons_succ]
  refine take_lawH 11 (some 4) (.bool true) rfl rfl (by kernel_rfl) (by kernel_rfl) (by kernel_rfl) (fun _ _ _ h => h) (Or.inl ⟨by rfl, fun w' hw' => by rfl⟩) hS ?_
  simp only [Act.put, List.setIfInBounds_toArray, List.set_cons_zero, List.set_cons_succ]
  refine wpAnyH_done (by kernel_rfl) ?_ _
  have BZ : Hid (Below w.heap.size w _) := BB.out.trans (hS.mono BB.out.size)
  clear hS
  go_wp2
  go_ret
  exact ⟨rfl, BZ.out⟩

set_option maxHeartbeats 8000000 in
theorem walk_no_n (v kv : Value) (xs ks : List Int) (w : World) (hb : Byt w v xs) (hk : Byt w kv ks) (hT : Tbl w ∧ Tb2 w) (hl : xs.length = 624) (hi : ¬ Isr xs) (hn : ks.length ≠ 32) :
    Calls Tryd.prog 4 #[v, kv] w fun x w' => x = .returned (.bool true) ∧ Below w.heap.size w w' := by
  have SW : Hid (∀ w0, Below w.heap.size w w0 → Calls Tryd.prog 8 #[] w0 fun x w' => x = .returned (.bool true) ∧ Below w0.heap.size w0 w') := fun w0 q => re.awake_any w0 (hT.1.below q hT.1.lt)
  have SD : Hid (∀ w0, Below w.heap.size w w0 → Calls Tryd.prog 17 #[v] w0 fun x w' => x = .returned (.tuple #[.agg rv0.toArray, .int .i64 1]) ∧ Below w0.heap.size w0 w') := fun w0 q => re.read_no v xs w0 (hb.below q) hl (hT.1.below q hT.1.lt) (hT.2.below q hT.2.lt) hi
  have SQ : Hid (∀ w0, Below w.heap.size w w0 → Calls Tryd.prog 22 #[v] w0 fun x w' => x = .returned (.tuple #[.agg rv0.toArray, .bool false]) ∧ Below w0.heap.size w0 w') := fun w0 q => re.rread_none v xs w0 (hb.below q) hl hi
  have SF : Hid (∀ w0, Below w.heap.size w w0 → Calls Tryd.prog 20 #[v, kv] w0 fun x w' => x = .returned (.bool false) ∧ Below w0.heap.size w0 w') := fun w0 q => re.fits_key v kv xs ks w0 (hb.below q) (hk.below q) hl hn
  obtain ⟨bo, bc, rfl⟩ := byt_form hb hl
  have n32 : ((ks.length : Int) == 32) = false := beq_eq_false_iff_ne.2 (by omega)
  obtain ⟨ko, kc, rfl⟩ := form hk
  clear hb hk hl hi hn hT
  have t0 : (0 : Nat) = 0 := rfl
  go_enter Tryd.func4, Tryd.ntmps4
  go_wp2_with (first
    | (have q10 := t10; go_at_call 8; refine (SW.out w9 BB.out).mono ?_; rintro e9 w10 ⟨rfl, B9⟩; have NB_HV : Hid (NoB w10 w1.heap.size) := NB_HV.out.heap (B9.block _ (range_lt HV.out.1 (Nat.succ_pos _))); have HV : Hid (Vr w10 w1.heap.size rv0) := HV.out.below B9 (range_lt HV.out.1 (Nat.succ_pos _)); have NB_HW : Hid (NoB w10 w5.heap.size) := NB_HW.out.heap (B9.block _ (range_lt HW.out.1 (Nat.succ_pos _))); have HW : Hid (Vr w10 w5.heap.size rv0) := HW.out.below B9 (range_lt HW.out.1 (Nat.succ_pos _)); have BB : Hid (Below w.heap.size w w10) := BB.out.trans (B9.mono BB.out.size); clear B9; clear t10; have t11 : (1 : Nat) = 1 := rfl)
    | (have q9 := t9; go_at_call 14; refine (rsame_rv0 w8).mono ?_; rintro e9 w9 ⟨rfl, B9⟩; have NB_HV : Hid (NoB w9 w1.heap.size) := NB_HV.out.heap (B9.block _ (range_lt HV.out.1 (Nat.succ_pos _))); have HV : Hid (Vr w9 w1.heap.size rv0) := HV.out.below B9 (range_lt HV.out.1 (Nat.succ_pos _)); have NB_HW : Hid (NoB w9 w5.heap.size) := NB_HW.out.heap (B9.block _ (range_lt HW.out.1 (Nat.succ_pos _))); have HW : Hid (Vr w9 w5.heap.size rv0) := HW.out.below B9 (range_lt HW.out.1 (Nat.succ_pos _)); have BB : Hid (Below w.heap.size w w9) := BB.out.trans (B9.mono BB.out.size); clear B9; clear t9; have t10 : (1 : Nat) = 1 := rfl)
    | (have q8 := t8; go_at_call 13; refine (of_rv0 w7).mono ?_; rintro e9 w8 ⟨rfl, B9⟩; have NB_HV : Hid (NoB w8 w1.heap.size) := NB_HV.out.heap (B9.block _ (range_lt HV.out.1 (Nat.succ_pos _))); have HV : Hid (Vr w8 w1.heap.size rv0) := HV.out.below B9 (range_lt HV.out.1 (Nat.succ_pos _)); have NB_HW : Hid (NoB w8 w5.heap.size) := NB_HW.out.heap (B9.block _ (range_lt HW.out.1 (Nat.succ_pos _))); have HW : Hid (Vr w8 w5.heap.size rv0) := HW.out.below B9 (range_lt HW.out.1 (Nat.succ_pos _)); have BB : Hid (Below w.heap.size w w8) := BB.out.trans (B9.mono BB.out.size); clear B9; clear t8; have t9 : (1 : Nat) = 1 := rfl)
    | (have q7 := t7; refine load_lawC _ rfl rv0 w1.heap.size 0 rfl HV.out.1 rowy_record ?_; clear t7; have t8 : (1 : Nat) = 1 := rfl)
    | (have q6 := t6; (with_reducible refine at_store ?_); refine store_lawC _ rv0 w5.heap.size 0 rfl rfl HW.out.2 rowy_rrecord.2 rv0_one ?_; intro w7 E9 R9 T9 B9; have K9 : ∀ k, k ≠ w5.heap.size → w7.heap[k]? = w6.heap[k]? := (by rw [E9.out]; exact fun k hk => heap_cells _ _ _ _ k hk); have NB_HV : Hid (NoB w7 w1.heap.size) := NB_HV.out.heap (K9 _ (Nat.ne_of_lt LT_HV_HW.out)); have HV : Hid (Vr w7 w1.heap.size rv0) := HV.out.heap (K9 _ (Nat.ne_of_lt LT_HV_HW.out)); have NB_HW : Hid (NoB w7 w5.heap.size) := (by rw [E9.out]; exact NB_HW.out.set HW.out rfl rv0_nob); have HW : Hid (Vr w7 w5.heap.size rv0) := ⟨R9, T9⟩; have BB : Hid (Below w.heap.size w w7) := BB.out.trans (B9.mono LE_HW.out); clear E9 R9 T9 B9 K9; clear t6; have t7 : (1 : Nat) = 1 := rfl)
    | (have q5 := t5; (with_reducible refine at_alloc ?_); refine new_lawN _ rv0 zero_rrecord rv0_nob ?_; intro w6 X9 N9 B9; have LT_HV_HW : Hid (w1.heap.size < w5.heap.size) := range_lt HV.out.1 (Nat.succ_pos _); have LE_HW : Hid (w.heap.size ≤ w5.heap.size) := BB.out.size; have NB_HV : Hid (NoB w6 w1.heap.size) := NB_HV.out.heap (B9.block _ (range_lt HV.out.1 (Nat.succ_pos _))); have HV : Hid (Vr w6 w1.heap.size rv0) := HV.out.below B9 (range_lt HV.out.1 (Nat.succ_pos _)); have HW : Hid (Vr w6 w5.heap.size rv0) := X9; have NB_HW : Hid (NoB w6 w5.heap.size) := N9; have BB : Hid (Below w.heap.size w w6) := BB.out.trans (B9.mono BB.out.size); clear X9 N9 B9; clear t5; have t6 : (1 : Nat) = 1 := rfl)
    | (have q4 := t4; go_at_call 22; refine (SQ.out w4 BB.out).mono ?_; rintro e9 w5 ⟨rfl, B9⟩; have NB_HV : Hid (NoB w5 w1.heap.size) := NB_HV.out.heap (B9.block _ (range_lt HV.out.1 (Nat.succ_pos _))); have HV : Hid (Vr w5 w1.heap.size rv0) := HV.out.below B9 (range_lt HV.out.1 (Nat.succ_pos _)); have BB : Hid (Below w.heap.size w w5) := BB.out.trans (B9.mono BB.out.size); clear B9; clear t4; have t5 : (1 : Nat) = 1 := rfl)
    | (have q3 := t3; go_at_call 20; refine (SF.out w3 BB.out).mono ?_; rintro e9 w4 ⟨rfl, B9⟩; have NB_HV : Hid (NoB w4 w1.heap.size) := NB_HV.out.heap (B9.block _ (range_lt HV.out.1 (Nat.succ_pos _))); have HV : Hid (Vr w4 w1.heap.size rv0) := HV.out.below B9 (range_lt HV.out.1 (Nat.succ_pos _)); have BB : Hid (Below w.heap.size w w4) := BB.out.trans (B9.mono BB.out.size); clear B9; clear t3; have t4 : (1 : Nat) = 1 := rfl)
    | (have q2 := t2; (with_reducible refine at_store ?_); refine store_lawC _ rv0 w1.heap.size 0 rfl rfl HV.out.2 rowy_record.2 rv0_one ?_; intro w3 E9 R9 T9 B9; have K9 : ∀ k, k ≠ w1.heap.size → w3.heap[k]? = w2.heap[k]? := (by rw [E9.out]; exact fun k hk => heap_cells _ _ _ _ k hk); have NB_HV : Hid (NoB w3 w1.heap.size) := (by rw [E9.out]; exact NB_HV.out.set HV.out rfl rv0_nob); have HV : Hid (Vr w3 w1.heap.size rv0) := ⟨R9, T9⟩; have BB : Hid (Below w.heap.size w w3) := BB.out.trans (B9.mono LE_HV.out); clear E9 R9 T9 B9 K9; clear t2; have t3 : (1 : Nat) = 1 := rfl)
    | (have q1 := t1; (with_reducible refine at_alloc ?_); refine new_lawN _ rv0 zero_record rv0_nob ?_; intro w2 X9 N9 B9; have LE_HV : Hid (w.heap.size ≤ w1.heap.size) := BB.out.size; have HV : Hid (Vr w2 w1.heap.size rv0) := X9; have NB_HV : Hid (NoB w2 w1.heap.size) := N9; have BB : Hid (Below w.heap.size w w2) := BB.out.trans (B9.mono BB.out.size); clear X9 N9 B9; clear t1; have t2 : (1 : Nat) = 1 := rfl)
    | (have q0 := t0; go_at_call 17; refine (SD.out w (Below.refl _ _)).mono ?_; rintro e9 w1 ⟨rfl, B9⟩; have BB : Hid (Below w.heap.size w w1) := B9; clear B9; clear t0; have t1 : (1 : Nat) = 1 := rfl))
  go_ret
  exact ⟨rfl, BB.out⟩

set_option maxHeartbeats 8000000 in
theorem walk_yes_n (v kv : Value) (xs ks : List Int) (w : World) (hb : Byt w v xs) (hk : Byt w kv ks) (hT : Tbl w ∧ Tb2 w) (hl : xs.length = 624) (hi : Isr xs) (hn : ks.length ≠ 32) :
    Calls Tryd.prog 4 #[v, kv] w fun x w' => x = .returned (.bool true) ∧ Below w.heap.size w w' := by
  have SW : Hid (∀ w0, Below w.heap.size w w0 → Calls Tryd.prog 8 #[] w0 fun x w' => x = .returned (.bool true) ∧ Below w0.heap.size w0 w') := fun w0 q => re.awake_any w0 (hT.1.below q hT.1.lt)
  have SD : Hid (∀ w0, Below w.heap.size w w0 → Calls Tryd.prog 17 #[v] w0 fun x w' => ∃ a c T, x = .returned (.tuple #[.agg (rv (qg xs) (qp xs) a (qb xs) c T).toArray, .int .i64 0]) ∧ Rin w' (qg xs) (qp xs) (qb xs) a c (re.qs xs) (re.qc xs) T ∧ (∀ k, k < 4 → (T k).d = sw (qw xs k)) ∧ Below w0.heap.size w0 w') := fun w0 q => re.read_all v xs w0 (hb.below q) hl (hT.1.below q hT.1.lt) (hT.2.below q hT.2.lt) hi.1 hi.2
  have SQ : Hid (∀ w0, Below w.heap.size w w0 → Calls Tryd.prog 22 #[v] w0 fun x w' => ∃ a c T, x = .returned (.tuple #[.agg (rv (qg xs) (qp xs) a (qb xs) c T).toArray, .bool true]) ∧ Rb w' a c (re.qs xs) (re.qc xs) T ∧ (∀ k, k < 4 → (T k).d = sw (qw xs k)) ∧ Below w0.heap.size w0 w') := fun w0 q => (re.rread_all v xs w0 (hb.below q) hl hi).mono fun _ _ ⟨a, c, T, e, h1, h2, h3, h4⟩ => ⟨a, c, T, e, ⟨h1, h2, fun k hk => (h3 k hk).2⟩, fun k hk => (h3 k hk).1, h4⟩
  have SF : Hid (∀ w0, Below w.heap.size w w0 → Calls Tryd.prog 20 #[v, kv] w0 fun x w' => x = .returned (.bool false) ∧ Below w0.heap.size w0 w') := fun w0 q => re.fits_key v kv xs ks w0 (hb.below q) (hk.below q) hl hn
  obtain ⟨bo, bc, rfl⟩ := byt_form hb hl
  have n32 : ((ks.length : Int) == 32) = false := beq_eq_false_iff_ne.2 (by omega)
  obtain ⟨ko, kc, rfl⟩ := form hk
  clear hb hk hl hi hn hT
  generalize qg xs = G at SD SQ
  generalize qp xs = P at SD SQ
  generalize qb xs = B at SD SQ
  generalize re.qs xs = QS at SD SQ
  generalize re.qc xs = QC at SD SQ
  have t0 : (0 : Nat) = 0 := rfl
  go_enter Tryd.func4, Tryd.ntmps4
  go_wp2_with (first
    | (have q6 := t6; (with_reducible refine at_store ?_); refine store_lawC _ (rv G P a2 B c2 T2) w5.heap.size 0 rfl rfl HW.out.2 rowy_rrecord.2 RB.out.one ?_; intro w7 E9 R9 T9 B9; have K9 : ∀ k, k ≠ w5.heap.size → w7.heap[k]? = w6.heap[k]? := (by rw [E9.out]; exact fun k hk => heap_cells _ _ _ _ k hk); have NB_HV : Hid (NoB w7 w1.heap.size) := NB_HV.out.heap (K9 _ (Nat.ne_of_lt LT_HV_HW.out)); have HV : Hid (Vr w7 w1.heap.size (rv G P a B c T)) := HV.out.heap (K9 _ (Nat.ne_of_lt LT_HV_HW.out)); have RI : Hid (Rin w7 G P B a c QS QC T) := rin_nob RI.out NB_HW.out K9; have RB : Hid (Rb w7 a2 c2 QS QC T2) := rb_nob RB.out NB_HW.out K9; have NB_HW : Hid (NoB w7 w5.heap.size) := (by rw [E9.out]; exact NB_HW.out.set HW.out rfl RB.out.nob); have HW : Hid (Vr w7 w5.heap.size (rv G P a2 B c2 T2)) := ⟨R9, T9⟩; have BB : Hid (Below w.heap.size w w7) := BB.out.trans (B9.mono LE_HW.out); clear E9 R9 T9 B9 K9; clear t6; have t7 : (1 : Nat) = 1 := rfl)
    | (have q5 := t5; (with_reducible refine at_alloc ?_); refine new_lawN _ rv0 zero_rrecord rv0_nob ?_; intro w6 X9 N9 B9; have LT_HV_HW : Hid (w1.heap.size < w5.heap.size) := range_lt HV.out.1 (Nat.succ_pos _); have LE_HW : Hid (w.heap.size ≤ w5.heap.size) := BB.out.size; have RI : Hid (Rin w6 G P B a c QS QC T) := RI.out.below B9; have NB_HV : Hid (NoB w6 w1.heap.size) := NB_HV.out.heap (B9.block _ (range_lt HV.out.1 (Nat.succ_pos _))); have HV : Hid (Vr w6 w1.heap.size (rv G P a B c T)) := HV.out.below B9 (range_lt HV.out.1 (Nat.succ_pos _)); have RB : Hid (Rb w6 a2 c2 QS QC T2) := RB.out.below B9; have HW : Hid (Vr w6 w5.heap.size rv0) := X9; have NB_HW : Hid (NoB w6 w5.heap.size) := N9; have BB : Hid (Below w.heap.size w w6) := BB.out.trans (B9.mono BB.out.size); clear X9 N9 B9; clear t5; have t6 : (1 : Nat) = 1 := rfl)
    | (have q4 := t4; go_at_call 22; refine (SQ.out w4 BB.out).mono ?_; rintro e9 w5 ⟨a2, c2, T2, rfl, r8, d8, B9⟩; have RI : Hid (Rin w5 G P B a c QS QC T) := RI.out.below B9; have NB_HV : Hid (NoB w5 w1.heap.size) := NB_HV.out.heap (B9.block _ (range_lt HV.out.1 (Nat.succ_pos _))); have HV : Hid (Vr w5 w1.heap.size (rv G P a B c T)) := HV.out.below B9 (range_lt HV.out.1 (Nat.succ_pos _)); have RB : Hid (Rb w5 a2 c2 QS QC T2) := r8; have HD2 : Hid (∀ k, k < 4 → (T2 k).d = sw (qw xs k)) := d8; have BB : Hid (Below w.heap.size w w5) := BB.out.trans (B9.mono BB.out.size); clear B9 r8 d8; clear t4; have t5 : (1 : Nat) = 1 := rfl)
    | (have q3 := t3; go_at_call 20; refine (SF.out w3 BB.out).mono ?_; rintro e9 w4 ⟨rfl, B9⟩; have RI : Hid (Rin w4 G P B a c QS QC T) := RI.out.below B9; have NB_HV : Hid (NoB w4 w1.heap.size) := NB_HV.out.heap (B9.block _ (range_lt HV.out.1 (Nat.succ_pos _))); have HV : Hid (Vr w4 w1.heap.size (rv G P a B c T)) := HV.out.below B9 (range_lt HV.out.1 (Nat.succ_pos _)); have BB : Hid (Below w.heap.size w w4) := BB.out.trans (B9.mono BB.out.size); clear B9; clear t3; have t4 : (1 : Nat) = 1 := rfl)
    | (have q2 := t2; (with_reducible refine at_store ?_); refine store_lawC _ (rv G P a B c T) w1.heap.size 0 rfl rfl HV.out.2 rowy_record.2 RI.out.one ?_; intro w3 E9 R9 T9 B9; have K9 : ∀ k, k ≠ w1.heap.size → w3.heap[k]? = w2.heap[k]? := (by rw [E9.out]; exact fun k hk => heap_cells _ _ _ _ k hk); have RI : Hid (Rin w3 G P B a c QS QC T) := rin_nob RI.out NB_HV.out K9; have NB_HV : Hid (NoB w3 w1.heap.size) := (by rw [E9.out]; exact NB_HV.out.set HV.out rfl RI.out.nob); have HV : Hid (Vr w3 w1.heap.size (rv G P a B c T)) := ⟨R9, T9⟩; have BB : Hid (Below w.heap.size w w3) := BB.out.trans (B9.mono LE_HV.out); clear E9 R9 T9 B9 K9; clear t2; have t3 : (1 : Nat) = 1 := rfl)
    | (have q1 := t1; (with_reducible refine at_alloc ?_); refine new_lawN _ rv0 zero_record rv0_nob ?_; intro w2 X9 N9 B9; have LE_HV : Hid (w.heap.size ≤ w1.heap.size) := BB.out.size; have RI : Hid (Rin w2 G P B a c QS QC T) := RI.out.below B9; have HV : Hid (Vr w2 w1.heap.size rv0) := X9; have NB_HV : Hid (NoB w2 w1.heap.size) := N9; have BB : Hid (Below w.heap.size w w2) := BB.out.trans (B9.mono BB.out.size); clear X9 N9 B9; clear t1; have t2 : (1 : Nat) = 1 := rfl)
    | (have q0 := t0; go_at_call 17; refine (SD.out w (Below.refl _ _)).mono ?_; rintro e9 w1 ⟨a, c, T, rfl, r8, d8, B9⟩; have RI : Hid (Rin w1 G P B a c QS QC T) := r8; have HD : Hid (∀ k, k < 4 → (T k).d = sw (qw xs k)) := d8; have BB : Hid (Below w.heap.size w w1) := B9; clear B9 r8 d8; clear t0; have t1 : (1 : Nat) = 1 := rfl))
  refine wp_region_held_drew (S := fun w' => Below w7.heap.size w7 w') (by kernel_rfl) (Below.refl _ _).drew (fun hS => ?_)
  obtain ⟨x1, hx0⟩ : ∃ x, x = w7.drew := ⟨_, rfl⟩
  rw [← hx0] at hS  ⊢
  clear hx0
  refine take_lawH 0 (some 64) (.int .i64 0) rfl rfl (by kernel_rfl) (by kernel_rfl) (by kernel_rfl) (fun _ _ _ h => h) (Or.inl ⟨by rfl, fun w' hw' => by rfl⟩) hS ?_
  simp only [Act.put, List.setIfInBounds_toArray, List.set_cons_zero, List.set_cons_succ]
  refine take_lawH 1 (some 65) (.bool true) rfl rfl (by kernel_rfl) (by kernel_rfl) (by kernel_rfl) (fun _ _ _ h => h) (Or.inl ⟨by rfl, fun w' hw' => by rfl⟩) hS ?_
  simp only [Act.put, List.setIfInBounds_toArray, List.set_cons_zero, List.set_cons_succ]
  refine take_lawH 2 (some 66) (.bool true) rfl rfl (by kernel_rfl) (by kernel_rfl) (by kernel_rfl) (fun _ _ _ h => h) (Or.inl ⟨by rfl, fun w' hw' => by rfl⟩) hS ?_
  simp only [Act.put, List.setIfInBounds_toArray, List.set_cons_zero, List.set_cons_succ]
  refine take_lawH 3 (some 67) (.agg (rv G P a B c T).toArray) rfl rfl (by kernel_rfl) (by kernel_rfl) (by kernel_rfl) (fun _ _ _ h => h) (Or.inl ⟨by rfl, fun w' hw' => by exact exec_loadN 28 (.tmp 5) rfl _ rfl _ _ (load_cells rowy_record (HV.out.below hw' (range_lt HV.out.1 (Nat.succ_pos _))).1)⟩) hS ?_
  simp only [Act.put, List.setIfInBounds_toArray, List.set_cons_zero, List.set_cons_succ]
  refine take_lawH 5 (some 69) (.agg (rv G P a2 B c2 T2).toArray) rfl rfl (by kernel_rfl) (by kernel_rfl) (by kernel_rfl) (fun _ _ _ h => h) (Or.inl ⟨by rfl, fun w' hw' => by exact exec_loadN 39 (.tmp 7) rfl _ rfl _ _ (load_cells rowy_rrecord (HW.out.below hw' (range_lt HW.out.1 (Nat.succ_pos _))).1)⟩) hS ?_
  simp only [Act.put, List.setIfInBounds_toArray, List.set_cons_zero, List.set_cons_succ]
  refine wpAnyH_ready (rs := [4]) (by kernel_rfl) (by simp) ?_
  refine AllReadyH.cons rfl (fun K hK => ?_) AllReadyH.nil
  refine he.step_callW _ (by rfl) (some 68) rfl 13 #[.tmp 67] #[28] rfl (fun q w' => by rfl) #[.agg (rv G P a B c T).toArray] (by simp only [List.map_toArray, List.map_cons, List.map_nil]; rfl) (fun z9 w' => z9 = .agg (rv G P a B c T).toArray ∧ Below x1.heap.size x1 w') ?_ ?_
  · exact (of_rb G P B a c QS QC T x1 (RI.out.rb.below hS)).mono fun e w' ⟨h1, h2⟩ => ⟨_, h1, rfl, h2⟩
  rintro _ x2 ⟨rfl, hb⟩
  have hS : Below w7.heap.size w7 x2 := hS.trans (hb.mono hS.size)
  clear hb
  refine hK.out _ _ hS (fun _ => ?_)
  simp only [Act.put, List.setIfInBounds_toArray, List.set_cons_zero, List.set_cons_succ]
  clear hK K
  refine wpAnyH_ready (rs := [6]) (by kernel_rfl) (by simp) ?_
  refine AllReadyH.cons rfl (fun K hK => ?_) AllReadyH.nil
  refine he.step_callW _ (by rfl) (some 70) rfl 14 #[.tmp 68, .tmp 69] #[39, 39] rfl (fun q w' => by rfl) #[.agg (rv G P a B c T).toArray, .agg (rv G P a2 B c2 T2).toArray] (by simp only [List.map_toArray, List.map_cons, List.map_nil]; rfl) (fun z9 w' => z9 = .bool true ∧ Below x2.heap.size x2 w') ?_ ?_
  · exact (rsame_rb G P B a c a2 c2 QS QC T T2 x2 (RI.out.rb.below hS) (RB.out.below hS) (fun k hk => (HD.out k hk).trans (HD2.out k hk).symm)).mono fun e w' ⟨h1, h2⟩ => ⟨_, h1, rfl, h2⟩
  rintro _ x3 ⟨rfl, hb⟩
  have hS : Below w7.heap.size w7 x3 := hS.trans (hb.mono hS.size)
  clear hb
  refine hK.out _ _ hS (fun _ => ?_)
  simp only [Act.put, List.setIfInBounds_toArray, List.set_cons_zero, List.set_cons_succ]
  clear hK K
  refine take_lawH 7 (some 71) (.bool true) rfl rfl (by kernel_rfl) (by kernel_rfl) (by kernel_rfl) (fun _ _ _ h => h) (Or.inl ⟨by rfl, fun w' hw' => by rfl⟩) hS ?_
  simp only [Act.put, List.setIfInBounds_toArray, List.set_cons_zero, List.set_cons_succ]
  refine take_lawH 8 (some 72) (.bool true) rfl rfl (by kernel_rfl) (by kernel_rfl) (by kernel_rfl) (fun _ _ _ h => h) (Or.inl ⟨by rfl, fun w' hw' => by rfl⟩) hS ?_
  simp only [Act.put, List.setIfInBounds_toArray, List.set_cons_zero, List.set_cons_succ]
  refine wpAnyH_ready (rs := [9]) (by kernel_rfl) (by simp) ?_
  refine AllReadyH.cons rfl (fun K hK => ?_) AllReadyH.nil
  refine he.step_callW _ (by rfl) (some 73) rfl 8 #[] #[] rfl (fun q w' => by rfl) #[] (by simp only [List.map_toArray, List.map_nil]) (fun z9 w' => z9 = .bool true ∧ Below x3.heap.size x3 w') ?_ ?_
  · exact (SW.out x3 (BB.out.trans (hS.mono BB.out.size))).mono fun e w' ⟨h1, h2⟩ => ⟨_, h1, rfl, h2⟩
  rintro _ x4 ⟨rfl, hb⟩
  have hS : Below w7.heap.size w7 x4 := hS.trans (hb.mono hS.size)
  clear hb
  refine hK.out _ _ hS (fun _ => ?_)
  simp only [Act.put, List.setIfInBounds_toArray, List.set_cons_zero, List.set_cons_succ]
  clear hK K
  refine take_lawH 10 (some 74) (.bool true) rfl rfl (by kernel_rfl) (by kernel_rfl) (by kernel_rfl) (fun _ _ _ h => h) (Or.inl ⟨by rfl, fun w' hw' => by rfl⟩) hS ?_
  simp only [Act.put, List.setIfInBounds_toArray, List.set_cons_zero, List.set_cons_succ]
  refine take_lawH 11 (some 4) (.bool true) rfl rfl (by kernel_rfl) (by kernel_rfl) (by kernel_rfl) (fun _ _ _ h => h) (Or.inl ⟨by rfl, fun w' hw' => by rfl⟩) hS ?_
  simp only [Act.put, List.setIfInBounds_toArray, List.set_cons_zero, List.set_cons_succ]
  refine wpAnyH_done (by kernel_rfl) ?_ _
  have BZ : Hid (Below w.heap.size w _) := BB.out.trans (hS.mono BB.out.size)
  clear hS
  go_wp2
  go_ret
  exact ⟨rfl, BZ.out⟩

theorem walk (v : Value) (xs : List Int) (kv : Value) (ks : List Int) (w : World) (hb : Byt w v xs) (hk : Byt w kv ks) (hT : Tbl w ∧ Tb2 w) :
    Calls Tryd.prog 4 #[v, kv] w fun x w' => x = .returned (.bool true) ∧ Below w.heap.size w w' := by
  by_cases hl : xs.length = 624
  · by_cases hi : Isr xs
    · by_cases hn : ks.length = 32
      · exact walk_yes_k v kv xs ks w hb hk hT hl hi hn
      · exact walk_yes_n v kv xs ks w hb hk hT hl hi hn
    · by_cases hn : ks.length = 32
      · exact walk_no_k v kv xs ks w hb hk hT hl hi hn
      · exact walk_no_n v kv xs ks w hb hk hT hl hi hn
  · exact walk_len v kv xs ks w hb hk hT hl

theorem params : ∀ t ∈ Tryd.f4.params.toList, Tryd.prog.readableRec t = true ∧ t < Tryd.prog.types.size := by
  rw [Tryd.params4]
  intro t ht
  simp at ht
  subst ht
  exact ⟨by kernel_rfl, of_decide_eq_true (by kernel_rfl)⟩

theorem contract (H : Type) (enc : TypeId × Value → H) (W : World) (base : Nat) (args : Array Value) (ds gs : List (DataW H)) (before : List MemPlace)
    (hval : ∀ (j : Nat) t v, Tryd.f4.params[j]? = some t → args[j]? = some v → Value.okWide Tryd.prog W .any base t v)
    (hW : DataW.Whole enc Tryd.prog Tryd.f4.params.toList Rows.recordReadsSpec.vars false W args.toList ds gs before) (hL : laidMetH Tryd.prog Rows.recordReadsRow.laid W) :
    Calls Tryd.prog 4 args W fun e W' => ∃ v, e = .returned v ∧ Rows.recordReadsSpec.post enc Tryd.prog Tryd.f4 false true false false W args v W' := by
  have hW' := hW
  obtain ⟨p, q, hA0, hV, rfl, hfz, hnd⟩ := hW
  have hA : DataW.TrodAll enc Tryd.prog W 0 (fun _ => true) true Tryd.f4.params.toList args.toList ds p := hA0
  rw [Tryd.params4] at hA hval
  obtain ⟨v0, v1, d0, d1, p0, p1, rfl, rfl, rfl, h0, h1⟩ := trodAll_two hA
  obtain ⟨rfl, rfl⟩ := trodVars_none hV
  obtain ⟨xs0, b0⟩ := byt_open (hval 0 23 v0 rfl rfl) h0
  obtain ⟨xs1, b1⟩ := byt_open (hval 1 23 v1 rfl rfl) h1
  clear hA0
  refine (walk v0 xs0 v1 xs1 W b0 b1 (re.tables hL)).mono fun e W' ⟨he, hg⟩ => ?_
  subst he
  exact ⟨_, rfl, post_law rfl (by kernel_rfl) params rfl rfl rfl hW' hg⟩

theorem laid_met (os : Os) : laidMet Tryd.prog Rows.recordReadsRow.laid (({ World.holding Tryd.prog os ⟨#[], #[], []⟩ with heap := ((World.holding Tryd.prog os ⟨#[], #[], []⟩).heap.modify 0 fun | .cells _ t frozen => .cells #[.int .i64 1, .int .i64 3, .int .i64 4, .int .i64 8, .int .i64 8] t frozen | o => o).modify 1 fun | .cells _ t frozen => .cells #[.int .i64 8, .int .i64 8, .int .i64 16, .int .i64 8, .int .i64 8, .int .i64 32] t frozen | o => o } : World).forCall (fun _ _ => 0) ⟨#[], #[.slice none 0 0, .slice none 0 0], []⟩).memory :=
  laidMet_of_run' 8 (by kernel_rfl) (by kernel_rfl)
theorem reads (os : Os) {H : Type} (enc : TypeId × Value → H) : ∃ places, DataW.whole enc Tryd.prog (({ World.holding Tryd.prog os ⟨#[], #[], []⟩ with heap := ((World.holding Tryd.prog os ⟨#[], #[], []⟩).heap.modify 0 fun | .cells _ t frozen => .cells #[.int .i64 1, .int .i64 3, .int .i64 4, .int .i64 8, .int .i64 8] t frozen | o => o).modify 1 fun | .cells _ t frozen => .cells #[.int .i64 8, .int .i64 8, .int .i64 16, .int .i64 8, .int .i64 8, .int .i64 32] t frozen | o => o } : World).forCall (fun _ _ => 0) ⟨#[], #[.slice none 0 0, .slice none 0 0], []⟩).memory Tryd.f4.params.toList Rows.recordReadsSpec.vars false #[Value.slice none 0 0, Value.slice none 0 0].toList 8 = some ([.nil, .nil], [], places) :=
  ⟨[], by kernel_rfl⟩

set_option maxRecDepth 100000 in
theorem lifted (os : Os) (started : os.Started) (H : Type) (enc : TypeId × Value → H) (F : Stop.Interp) :
    ReturnsInHanded {} Tryd.checked os 4 .any ((OpenSpec.ofChange Rows.recordReadsSpec).preRow enc Tryd.prog Tryd.f4 Rows.recordReadsRow.domain false Rows.recordReadsRow.laid) (((OpenSpec.ofChange Rows.recordReadsSpec).at F).post enc Tryd.prog Tryd.f4 false true false false) := by
  obtain ⟨places, hx⟩ := reads os enc
  refine returnsInHanded_of_row (C := Tryd.checked) (s := OpenSpec.ofChange Rows.recordReadsSpec) own started (by kernel_rfl) Tryd.func4
    (witness_row_at (enc := enc) (C := Tryd.checked) false ({ World.holding Tryd.prog os ⟨#[], #[], []⟩ with heap := ((World.holding Tryd.prog os ⟨#[], #[], []⟩).heap.modify 0 fun | .cells _ t frozen => .cells #[.int .i64 1, .int .i64 3, .int .i64 4, .int .i64 8, .int .i64 8] t frozen | o => o).modify 1 fun | .cells _ t frozen => .cells #[.int .i64 8, .int .i64 8, .int .i64 16, .int .i64 8, .int .i64 8, .int .i64 32] t frozen | o => o } : World) #[.slice none 0 0, .slice none 0 0] rfl (by kernel_rfl) (by kernel_rfl) (by kernel_rfl)
      (OpenSpec.preRow_of_cond 8 hx (by kernel_rfl) (fun k hk => by cases hk) (by kernel_rfl) (laid_met os))) ?_
  intro W base args ds gs before hval hW _ _ _ hL _ _
  exact contract H enc W base args ds gs before hval hW hL

theorem said : Rows.RecordReadsSaid :=
  OpenClaim.holds_of_cond 4 Tryd.f4 rfl rfl rfl rfl rfl rfl rfl ⟨rfl, rfl, rfl, rfl, rfl⟩ rfl rfl rfl rfl rfl (by kernel_rfl) Tryd.func4 (by kernel_rfl)
    (of_decide_eq_true (by kernel_rfl)) (by unfold Func.isWrapper; first | (rw [if_pos (by decide +kernel)]; kernel_rfl) | (rw [if_neg (by decide +kernel)]; exact ⟨rfl, rfl⟩))
    (fun os started H enc _ F => by rw [OpenClaim.pre_eq_preRow]; exact lifted os started H enc F)

theorem plain (f : FuncId) (fn : Func) (hf : Tryd.pinned.checked.prog.funcNamed "nepenthe/nepenthelaw18.RecordReads" = some f) (hfn : Tryd.pinned.checked.prog.funcs[f]? = some fn) :
    false = Tryd.pinned.checked.prog.looks [] ∧ ∀ (j : Nat) t, fn.params[j]? = some t → Tryd.pinned.checked.prog.wantsStandIn t = false := by
  obtain rfl : f = 4 := Option.some.inj ((show Tryd.prog.funcNamed "nepenthe/nepenthelaw18.RecordReads" = some 4 by kernel_rfl).symm.trans hf) |>.symm
  obtain rfl : fn = Tryd.f4 := (Option.some.inj (Tryd.func4.symm.trans hfn)).symm
  refine ⟨by kernel_rfl, fun j t ht => ?_⟩
  rw [Tryd.params4] at ht
  have hm := Array.mem_of_getElem? ht
  simp at hm
  subst hm
  exact (show Tryd.prog.wantsStandIn 23 = false by kernel_rfl)
end Go.Proofs.YtmbfccclghnaeaaDoor.recordReads

namespace Go.Proofs.YtmbfccclghnaeaaDoor
theorem recordReads_card : Rows.RecordReadsCardSaid :=
  Claim7.holds_tied_plain_at .later [] _ _ _ _ recordReads.said (fun _ h => by cases h) (by kernel_rfl) (fun _ h => by cases h) recordReads_row_tie rfl ⟨rfl, rfl⟩ (by kernel_rfl) rfl recordReads.plain (by kernel_rfl)
#print axioms recordReads_card
end Go.Proofs.YtmbfccclghnaeaaDoor
