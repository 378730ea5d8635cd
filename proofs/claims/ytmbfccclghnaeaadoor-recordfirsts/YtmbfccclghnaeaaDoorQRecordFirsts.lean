/- The first record of any passphrase and salt, or why there is none: as the document says; the passphrase opens it. Of rounds from 5 to 1000, and of passphrases or salts above 100 bytes: the program answers. No condition. -/
import Derived.Test.YtmbfccclghnaeaaDoorCards
import Derived.Test.YtmbfccclghnaeaaDoorTie
import Derived.Test.YtmbfccclghnaeaaDoorXYOpn
import Derived.Test.YtmbfccclghnaeaaDoorXYSmz
import Derived.Test.YtmbfccclghnaeaaDoorXYBack
namespace Go.Proofs.YtmbfccclghnaeaaDoor.recordFirsts
open Go.ChangeShapes Go.WideShapes Go.ChangeAt Go.RowKit Go.Proofs.YtmbfccclghnaeaaDoor.re Go.Proofs.YtmbfccclghnaeaaDoor.so Go.Proofs.YtmbfccclghnaeaaDoor.he Go.Proofs.YtmbfccclghnaeaaDoor.fa
set_option maxRecDepth 20000


set_option maxHeartbeats 8000000 in
theorem walk_many (pv sv : Value) (ps ss : List Int) (n : Int) (w : World) (hp : Byt w pv ps) (hs : Byt w sv ss) (hT : Tbl w ∧ Tb2 w) (h1 : n > 4) (h2 : n ≤ 1000) :
    Calls Tryd.prog 6 #[pv, sv, .int .i64 n] w fun x w' => x = .returned (.bool true) ∧ Below w.heap.size w w' := by
  have SW : Hid (∀ w0, Below w.heap.size w w0 → Calls Tryd.prog 8 #[] w0 fun x w' => x = .returned (.bool true) ∧ Below w0.heap.size w0 w') := fun w0 q => re.awake_any w0 (hT.1.below q hT.1.lt)
  obtain ⟨po, pc, rfl⟩ := form hp
  obtain ⟨so', sc', rfl⟩ := form hs
  clear hp hs hT
  have t0 : (0 : Nat) = 0 := rfl
  go_enter Tryd.func6, Tryd.ntmps6
  go_wp2_with (first
    | (have q0 := t0; go_at_call 8; refine (SW.out w (Below.refl _ _)).mono ?_; rintro e9 w1 ⟨rfl, B9⟩; have BB : Hid (Below w.heap.size w w1) := B9; clear B9; clear t0; have t1 : (1 : Nat) = 1 := rfl))
  go_ret
  exact ⟨rfl, BB.out⟩

set_option maxHeartbeats 8000000 in
theorem walk_salt_s (pv sv : Value) (ps ss : List Int) (n : Int) (w : World) (hp : Byt w pv ps) (hs : Byt w sv ss) (hT : Tbl w ∧ Tb2 w) (h1 : ¬ n > 4) (h3 : (ss.length : Int) > 100) :
    Calls Tryd.prog 6 #[pv, sv, .int .i64 n] w fun x w' => x = .returned (.bool true) ∧ Below w.heap.size w w' := by
  have SW : Hid (∀ w0, Below w.heap.size w w0 → Calls Tryd.prog 8 #[] w0 fun x w' => x = .returned (.bool true) ∧ Below w0.heap.size w0 w') := fun w0 q => re.awake_any w0 (hT.1.below q hT.1.lt)
  obtain ⟨po, pc, rfl⟩ := form hp
  obtain ⟨so', sc', rfl⟩ := form hs
  clear hp hs hT
  have t0 : (0 : Nat) = 0 := rfl
  go_enter Tryd.func6, Tryd.ntmps6
  go_wp2_with (first
    | (have q0 := t0; go_at_call 8; refine (SW.out w (Below.refl _ _)).mono ?_; rintro e9 w1 ⟨rfl, B9⟩; have BB : Hid (Below w.heap.size w w1) := B9; clear B9; clear t0; have t1 : (1 : Nat) = 1 := rfl))
  go_ret
  exact ⟨rfl, BB.out⟩

set_option maxHeartbeats 8000000 in
theorem walk_pass_s (pv sv : Value) (ps ss : List Int) (n : Int) (w : World) (hp : Byt w pv ps) (hs : Byt w sv ss) (hT : Tbl w ∧ Tb2 w) (h1 : ¬ n > 4) (h3 : ¬ (ss.length : Int) > 100) (h4 : (ps.length : Int) > 100) :
    Calls Tryd.prog 6 #[pv, sv, .int .i64 n] w fun x w' => x = .returned (.bool true) ∧ Below w.heap.size w w' := by
  have SW : Hid (∀ w0, Below w.heap.size w w0 → Calls Tryd.prog 8 #[] w0 fun x w' => x = .returned (.bool true) ∧ Below w0.heap.size w0 w') := fun w0 q => re.awake_any w0 (hT.1.below q hT.1.lt)
  obtain ⟨po, pc, rfl⟩ := form hp
  obtain ⟨so', sc', rfl⟩ := form hs
  clear hp hs hT
  have t0 : (0 : Nat) = 0 := rfl
  go_enter Tryd.func6, Tryd.ntmps6
  go_wp2_with (first
    | (have q0 := t0; go_at_call 8; refine (SW.out w (Below.refl _ _)).mono ?_; rintro e9 w1 ⟨rfl, B9⟩; have BB : Hid (Below w.heap.size w w1) := B9; clear B9; clear t0; have t1 : (1 : Nat) = 1 := rfl))
  go_ret
  exact ⟨rfl, BB.out⟩

set_option maxHeartbeats 8000000 in
theorem walk_len_s (pv sv : Value) (ps ss : List Int) (n : Int) (w : World) (hp : Byt w pv ps) (hs : Byt w sv ss) (hT : Tbl w ∧ Tb2 w) (h1 : ¬ n > 4) (h3 : ¬ (ss.length : Int) > 100) (h4 : ¬ (ps.length : Int) > 100) (h : ss.length ≠ 16) :
    Calls Tryd.prog 6 #[pv, sv, .int .i64 n] w fun x w' => x = .returned (.bool true) ∧ Below w.heap.size w w' := by
  have SW : Hid (∀ w0, Below w.heap.size w w0 → Calls Tryd.prog 8 #[] w0 fun x w' => x = .returned (.bool true) ∧ Below w0.heap.size w0 w') := fun w0 q => re.awake_any w0 (hT.1.below q hT.1.lt)
  have SF : Hid (∀ w0, Below w.heap.size w w0 → Calls Tryd.prog 26 #[pv, sv, .int .i64 n] w0 fun x w' => x = .returned (.tuple #[.agg rv0.toArray, .slice none 0 0, .int .i64 2]) ∧ Below w0.heap.size w0 w') := fun w0 q => re.first_salt pv sv ps ss n w0 (hp.below q) (hs.below q) h
  obtain ⟨po, pc, rfl⟩ := form hp
  obtain ⟨so', sc', rfl⟩ := form hs
  have n16 : ((ss.length : Int) != 16) = true := bne_iff_ne.2 (by omega)
  clear hp hs hT h
  have t0 : (0 : Nat) = 0 := rfl
  go_enter Tryd.func6, Tryd.ntmps6
  go_wp2_with (first
    | (have q3 := t3; go_at_call 8; refine (SW.out w3 BB.out).mono ?_; rintro e9 w4 ⟨rfl, B9⟩; have NB_HV : Hid (NoB w4 w1.heap.size) := NB_HV.out.heap (B9.block _ (range_lt HV.out.1 (Nat.succ_pos _))); have HV : Hid (Vr w4 w1.heap.size rv0) := HV.out.below B9 (range_lt HV.out.1 (Nat.succ_pos _)); have BB : Hid (Below w.heap.size w w4) := BB.out.trans (B9.mono BB.out.size); clear B9; clear t3; have t4 : (1 : Nat) = 1 := rfl)
    | (have q2 := t2; (with_reducible refine at_store ?_); refine store_lawC _ rv0 w1.heap.size 0 rfl rfl HV.out.2 rowy_record.2 rv0_one ?_; intro w3 E9 R9 T9 B9; have K9 : ∀ k, k ≠ w1.heap.size → w3.heap[k]? = w2.heap[k]? := (by rw [E9.out]; exact fun k hk => heap_cells _ _ _ _ k hk); have NB_HV : Hid (NoB w3 w1.heap.size) := (by rw [E9.out]; exact NB_HV.out.set HV.out rfl rv0_nob); have HV : Hid (Vr w3 w1.heap.size rv0) := ⟨R9, T9⟩; have BB : Hid (Below w.heap.size w w3) := BB.out.trans (B9.mono LE_HV.out); clear E9 R9 T9 B9 K9; clear t2; have t3 : (1 : Nat) = 1 := rfl)
    | (have q1 := t1; (with_reducible refine at_alloc ?_); refine new_lawN _ rv0 zero_record rv0_nob ?_; intro w2 X9 N9 B9; have LE_HV : Hid (w.heap.size ≤ w1.heap.size) := BB.out.size; have HV : Hid (Vr w2 w1.heap.size rv0) := X9; have NB_HV : Hid (NoB w2 w1.heap.size) := N9; have BB : Hid (Below w.heap.size w w2) := BB.out.trans (B9.mono BB.out.size); clear X9 N9 B9; clear t1; have t2 : (1 : Nat) = 1 := rfl)
    | (have q0 := t0; go_at_call 26; refine (SF.out w (Below.refl _ _)).mono ?_; rintro e9 w1 ⟨rfl, B9⟩; have BB : Hid (Below w.heap.size w w1) := B9; clear B9; clear t0; have t1 : (1 : Nat) = 1 := rfl))
  go_ret
  exact ⟨rfl, BB.out⟩

set_option maxHeartbeats 8000000 in
theorem walk_shape_s (pv sv : Value) (ps ss : List Int) (n : Int) (w : World) (hp : Byt w pv ps) (hs : Byt w sv ss) (hT : Tbl w ∧ Tb2 w) (h1 : ¬ n > 4) (h3 : ¬ (ss.length : Int) > 100) (h4 : ¬ (ps.length : Int) > 100) (h : ss.length = 16) (hr : ¬ (ps.length ≤ 64 ∧ 1 ≤ n ∧ n ≤ 1000)) :
    Calls Tryd.prog 6 #[pv, sv, .int .i64 n] w fun x w' => x = .returned (.bool true) ∧ Below w.heap.size w w' := by
  have SW : Hid (∀ w0, Below w.heap.size w w0 → Calls Tryd.prog 8 #[] w0 fun x w' => x = .returned (.bool true) ∧ Below w0.heap.size w0 w') := fun w0 q => re.awake_any w0 (hT.1.below q hT.1.lt)
  have SF : Hid (∀ w0, Below w.heap.size w w0 → Calls Tryd.prog 26 #[pv, sv, .int .i64 n] w0 fun x w' => x = .returned (.tuple #[.agg rv0.toArray, .slice none 0 0, .int .i64 2]) ∧ Below w0.heap.size w0 w') := fun w0 q => re.first_shape pv sv ps ss n w0 (hp.below q) (hs.below q) h hr
  have SG : Hid (∀ w0, Below w.heap.size w w0 → Calls Tryd.prog 24 #[pv, .int .i64 n] w0 fun x w' => x = .returned (.bool false) ∧ Below w0.heap.size w0 w') := fun w0 q => (mc.right_any w0 pv ps n (hp.below q) false ((decide_eq_false hr).symm)).mono fun _ _ ⟨h1, h2⟩ => ⟨h1, by rw [h2]; exact Below.refl _ _⟩
  obtain ⟨po, pc, rfl⟩ := form hp
  obtain ⟨so', sc', rfl⟩ := form hs
  have n16 : ((ss.length : Int) != 16) = false := bne_eq_false_iff_eq.2 (by omega)
  clear hp hs hT h hr
  have t0 : (0 : Nat) = 0 := rfl
  go_enter Tryd.func6, Tryd.ntmps6
  go_wp2_with (first
    | (have q4 := t4; go_at_call 8; refine (SW.out w4 BB.out).mono ?_; rintro e9 w5 ⟨rfl, B9⟩; have NB_HV : Hid (NoB w5 w1.heap.size) := NB_HV.out.heap (B9.block _ (range_lt HV.out.1 (Nat.succ_pos _))); have HV : Hid (Vr w5 w1.heap.size rv0) := HV.out.below B9 (range_lt HV.out.1 (Nat.succ_pos _)); have BB : Hid (Below w.heap.size w w5) := BB.out.trans (B9.mono BB.out.size); clear B9; clear t4; have t5 : (1 : Nat) = 1 := rfl)
    | (have q3 := t3; go_at_call 24; refine (SG.out w3 BB.out).mono ?_; rintro e9 w4 ⟨rfl, B9⟩; have NB_HV : Hid (NoB w4 w1.heap.size) := NB_HV.out.heap (B9.block _ (range_lt HV.out.1 (Nat.succ_pos _))); have HV : Hid (Vr w4 w1.heap.size rv0) := HV.out.below B9 (range_lt HV.out.1 (Nat.succ_pos _)); have BB : Hid (Below w.heap.size w w4) := BB.out.trans (B9.mono BB.out.size); clear B9; clear t3; have t4 : (1 : Nat) = 1 := rfl)
    | (have q2 := t2; (with_reducible refine at_store ?_); refine store_lawC _ rv0 w1.heap.size 0 rfl rfl HV.out.2 rowy_record.2 rv0_one ?_; intro w3 E9 R9 T9 B9; have K9 : ∀ k, k ≠ w1.heap.size → w3.heap[k]? = w2.heap[k]? := (by rw [E9.out]; exact fun k hk => heap_cells _ _ _ _ k hk); have NB_HV : Hid (NoB w3 w1.heap.size) := (by rw [E9.out]; exact NB_HV.out.set HV.out rfl rv0_nob); have HV : Hid (Vr w3 w1.heap.size rv0) := ⟨R9, T9⟩; have BB : Hid (Below w.heap.size w w3) := BB.out.trans (B9.mono LE_HV.out); clear E9 R9 T9 B9 K9; clear t2; have t3 : (1 : Nat) = 1 := rfl)
    | (have q1 := t1; (with_reducible refine at_alloc ?_); refine new_lawN _ rv0 zero_record rv0_nob ?_; intro w2 X9 N9 B9; have LE_HV : Hid (w.heap.size ≤ w1.heap.size) := BB.out.size; have HV : Hid (Vr w2 w1.heap.size rv0) := X9; have NB_HV : Hid (NoB w2 w1.heap.size) := N9; have BB : Hid (Below w.heap.size w w2) := BB.out.trans (B9.mono BB.out.size); clear X9 N9 B9; clear t1; have t2 : (1 : Nat) = 1 := rfl)
    | (have q0 := t0; go_at_call 26; refine (SF.out w (Below.refl _ _)).mono ?_; rintro e9 w1 ⟨rfl, B9⟩; have BB : Hid (Below w.heap.size w w1) := B9; clear B9; clear t0; have t1 : (1 : Nat) = 1 := rfl))
  go_ret
  exact ⟨rfl, BB.out⟩

set_option maxHeartbeats 8000000 in
theorem walk_salt_l (pv sv : Value) (ps ss : List Int) (n : Int) (w : World) (hp : Byt w pv ps) (hs : Byt w sv ss) (hT : Tbl w ∧ Tb2 w) (h1 : n > 4) (h2 : ¬ n ≤ 1000) (h3 : (ss.length : Int) > 100) :
    Calls Tryd.prog 6 #[pv, sv, .int .i64 n] w fun x w' => x = .returned (.bool true) ∧ Below w.heap.size w w' := by
  have SW : Hid (∀ w0, Below w.heap.size w w0 → Calls Tryd.prog 8 #[] w0 fun x w' => x = .returned (.bool true) ∧ Below w0.heap.size w0 w') := fun w0 q => re.awake_any w0 (hT.1.below q hT.1.lt)
  obtain ⟨po, pc, rfl⟩ := form hp
  obtain ⟨so', sc', rfl⟩ := form hs
  clear hp hs hT
  have t0 : (0 : Nat) = 0 := rfl
  go_enter Tryd.func6, Tryd.ntmps6
  go_wp2_with (first
    | (have q0 := t0; go_at_call 8; refine (SW.out w (Below.refl _ _)).mono ?_; rintro e9 w1 ⟨rfl, B9⟩; have BB : Hid (Below w.heap.size w w1) := B9; clear B9; clear t0; have t1 : (1 : Nat) = 1 := rfl))
  go_ret
  exact ⟨rfl, BB.out⟩

set_option maxHeartbeats 8000000 in
theorem walk_pass_l (pv sv : Value) (ps ss : List Int) (n : Int) (w : World) (hp : Byt w pv ps) (hs : Byt w sv ss) (hT : Tbl w ∧ Tb2 w) (h1 : n > 4) (h2 : ¬ n ≤ 1000) (h3 : ¬ (ss.length : Int) > 100) (h4 : (ps.length : Int) > 100) :
    Calls Tryd.prog 6 #[pv, sv, .int .i64 n] w fun x w' => x = .returned (.bool true) ∧ Below w.heap.size w w' := by
  have SW : Hid (∀ w0, Below w.heap.size w w0 → Calls Tryd.prog 8 #[] w0 fun x w' => x = .returned (.bool true) ∧ Below w0.heap.size w0 w') := fun w0 q => re.awake_any w0 (hT.1.below q hT.1.lt)
  obtain ⟨po, pc, rfl⟩ := form hp
  obtain ⟨so', sc', rfl⟩ := form hs
  clear hp hs hT
  have t0 : (0 : Nat) = 0 := rfl
  go_enter Tryd.func6, Tryd.ntmps6
  go_wp2_with (first
    | (have q0 := t0; go_at_call 8; refine (SW.out w (Below.refl _ _)).mono ?_; rintro e9 w1 ⟨rfl, B9⟩; have BB : Hid (Below w.heap.size w w1) := B9; clear B9; clear t0; have t1 : (1 : Nat) = 1 := rfl))
  go_ret
  exact ⟨rfl, BB.out⟩

set_option maxHeartbeats 8000000 in
theorem walk_len_l (pv sv : Value) (ps ss : List Int) (n : Int) (w : World) (hp : Byt w pv ps) (hs : Byt w sv ss) (hT : Tbl w ∧ Tb2 w) (h1 : n > 4) (h2 : ¬ n ≤ 1000) (h3 : ¬ (ss.length : Int) > 100) (h4 : ¬ (ps.length : Int) > 100) (h : ss.length ≠ 16) :
    Calls Tryd.prog 6 #[pv, sv, .int .i64 n] w fun x w' => x = .returned (.bool true) ∧ Below w.heap.size w w' := by
  have SW : Hid (∀ w0, Below w.heap.size w w0 → Calls Tryd.prog 8 #[] w0 fun x w' => x = .returned (.bool true) ∧ Below w0.heap.size w0 w') := fun w0 q => re.awake_any w0 (hT.1.below q hT.1.lt)
  have SF : Hid (∀ w0, Below w.heap.size w w0 → Calls Tryd.prog 26 #[pv, sv, .int .i64 n] w0 fun x w' => x = .returned (.tuple #[.agg rv0.toArray, .slice none 0 0, .int .i64 2]) ∧ Below w0.heap.size w0 w') := fun w0 q => re.first_salt pv sv ps ss n w0 (hp.below q) (hs.below q) h
  obtain ⟨po, pc, rfl⟩ := form hp
  obtain ⟨so', sc', rfl⟩ := form hs
  have n16 : ((ss.length : Int) != 16) = true := bne_iff_ne.2 (by omega)
  clear hp hs hT h
  have t0 : (0 : Nat) = 0 := rfl
  go_enter Tryd.func6, Tryd.ntmps6
  go_wp2_with (first
    | (have q3 := t3; go_at_call 8; refine (SW.out w3 BB.out).mono ?_; rintro e9 w4 ⟨rfl, B9⟩; have NB_HV : Hid (NoB w4 w1.heap.size) := NB_HV.out.heap (B9.block _ (range_lt HV.out.1 (Nat.succ_pos _))); have HV : Hid (Vr w4 w1.heap.size rv0) := HV.out.below B9 (range_lt HV.out.1 (Nat.succ_pos _)); have BB : Hid (Below w.heap.size w w4) := BB.out.trans (B9.mono BB.out.size); clear B9; clear t3; have t4 : (1 : Nat) = 1 := rfl)
    | (have q2 := t2; (with_reducible refine at_store ?_); refine store_lawC _ rv0 w1.heap.size 0 rfl rfl HV.out.2 rowy_record.2 rv0_one ?_; intro w3 E9 R9 T9 B9; have K9 : ∀ k, k ≠ w1.heap.size → w3.heap[k]? = w2.heap[k]? := (by rw [E9.out]; exact fun k hk => heap_cells _ _ _ _ k hk); have NB_HV : Hid (NoB w3 w1.heap.size) := (by rw [E9.out]; exact NB_HV.out.set HV.out rfl rv0_nob); have HV : Hid (Vr w3 w1.heap.size rv0) := ⟨R9, T9⟩; have BB : Hid (Below w.heap.size w w3) := BB.out.trans (B9.mono LE_HV.out); clear E9 R9 T9 B9 K9; clear t2; have t3 : (1 : Nat) = 1 := rfl)
    | (have q1 := t1; (with_reducible refine at_alloc ?_); refine new_lawN _ rv0 zero_record rv0_nob ?_; intro w2 X9 N9 B9; have LE_HV : Hid (w.heap.size ≤ w1.heap.size) := BB.out.size; have HV : Hid (Vr w2 w1.heap.size rv0) := X9; have NB_HV : Hid (NoB w2 w1.heap.size) := N9; have BB : Hid (Below w.heap.size w w2) := BB.out.trans (B9.mono BB.out.size); clear X9 N9 B9; clear t1; have t2 : (1 : Nat) = 1 := rfl)
    | (have q0 := t0; go_at_call 26; refine (SF.out w (Below.refl _ _)).mono ?_; rintro e9 w1 ⟨rfl, B9⟩; have BB : Hid (Below w.heap.size w w1) := B9; clear B9; clear t0; have t1 : (1 : Nat) = 1 := rfl))
  go_ret
  exact ⟨rfl, BB.out⟩

set_option maxHeartbeats 8000000 in
theorem walk_shape_l (pv sv : Value) (ps ss : List Int) (n : Int) (w : World) (hp : Byt w pv ps) (hs : Byt w sv ss) (hT : Tbl w ∧ Tb2 w) (h1 : n > 4) (h2 : ¬ n ≤ 1000) (h3 : ¬ (ss.length : Int) > 100) (h4 : ¬ (ps.length : Int) > 100) (h : ss.length = 16) (hr : ¬ (ps.length ≤ 64 ∧ 1 ≤ n ∧ n ≤ 1000)) :
    Calls Tryd.prog 6 #[pv, sv, .int .i64 n] w fun x w' => x = .returned (.bool true) ∧ Below w.heap.size w w' := by
  have SW : Hid (∀ w0, Below w.heap.size w w0 → Calls Tryd.prog 8 #[] w0 fun x w' => x = .returned (.bool true) ∧ Below w0.heap.size w0 w') := fun w0 q => re.awake_any w0 (hT.1.below q hT.1.lt)
  have SF : Hid (∀ w0, Below w.heap.size w w0 → Calls Tryd.prog 26 #[pv, sv, .int .i64 n] w0 fun x w' => x = .returned (.tuple #[.agg rv0.toArray, .slice none 0 0, .int .i64 2]) ∧ Below w0.heap.size w0 w') := fun w0 q => re.first_shape pv sv ps ss n w0 (hp.below q) (hs.below q) h hr
  have SG : Hid (∀ w0, Below w.heap.size w w0 → Calls Tryd.prog 24 #[pv, .int .i64 n] w0 fun x w' => x = .returned (.bool false) ∧ Below w0.heap.size w0 w') := fun w0 q => (mc.right_any w0 pv ps n (hp.below q) false ((decide_eq_false hr).symm)).mono fun _ _ ⟨h1, h2⟩ => ⟨h1, by rw [h2]; exact Below.refl _ _⟩
  obtain ⟨po, pc, rfl⟩ := form hp
  obtain ⟨so', sc', rfl⟩ := form hs
  have n16 : ((ss.length : Int) != 16) = false := bne_eq_false_iff_eq.2 (by omega)
  clear hp hs hT h hr
  have t0 : (0 : Nat) = 0 := rfl
  go_enter Tryd.func6, Tryd.ntmps6
  go_wp2_with (first
    | (have q4 := t4; go_at_call 8; refine (SW.out w4 BB.out).mono ?_; rintro e9 w5 ⟨rfl, B9⟩; have NB_HV : Hid (NoB w5 w1.heap.size) := NB_HV.out.heap (B9.block _ (range_lt HV.out.1 (Nat.succ_pos _))); have HV : Hid (Vr w5 w1.heap.size rv0) := HV.out.below B9 (range_lt HV.out.1 (Nat.succ_pos _)); have BB : Hid (Below w.heap.size w w5) := BB.out.trans (B9.mono BB.out.size); clear B9; clear t4; have t5 : (1 : Nat) = 1 := rfl)
    | (have q3 := t3; go_at_call 24; refine (SG.out w3 BB.out).mono ?_; rintro e9 w4 ⟨rfl, B9⟩; have NB_HV : Hid (NoB w4 w1.heap.size) := NB_HV.out.heap (B9.block _ (range_lt HV.out.1 (Nat.succ_pos _))); have HV : Hid (Vr w4 w1.heap.size rv0) := HV.out.below B9 (range_lt HV.out.1 (Nat.succ_pos _)); have BB : Hid (Below w.heap.size w w4) := BB.out.trans (B9.mono BB.out.size); clear B9; clear t3; have t4 : (1 : Nat) = 1 := rfl)
    | (have q2 := t2; (with_reducible refine at_store ?_); refine store_lawC _ rv0 w1.heap.size 0 rfl rfl HV.out.2 rowy_record.2 rv0_one ?_; intro w3 E9 R9 T9 B9; have K9 : ∀ k, k ≠ w1.heap.size → w3.heap[k]? = w2.heap[k]? := (by rw [E9.out]; exact fun k hk => heap_cells _ _ _ _ k hk); have NB_HV : Hid (NoB w3 w1.heap.size) := (by rw [E9.out]; exact NB_HV.out.set HV.out rfl rv0_nob); have HV : Hid (Vr w3 w1.heap.size rv0) := ⟨R9, T9⟩; have BB : Hid (Below w.heap.size w w3) := BB.out.trans (B9.mono LE_HV.out); clear E9 R9 T9 B9 K9; clear t2; have t3 : (1 : Nat) = 1 := rfl)
    | (have q1 := t1; (with_reducible refine at_alloc ?_); refine new_lawN _ rv0 zero_record rv0_nob ?_; intro w2 X9 N9 B9; have LE_HV : Hid (w.heap.size ≤ w1.heap.size) := BB.out.size; have HV : Hid (Vr w2 w1.heap.size rv0) := X9; have NB_HV : Hid (NoB w2 w1.heap.size) := N9; have BB : Hid (Below w.heap.size w w2) := BB.out.trans (B9.mono BB.out.size); clear X9 N9 B9; clear t1; have t2 : (1 : Nat) = 1 := rfl)
    | (have q0 := t0; go_at_call 26; refine (SF.out w (Below.refl _ _)).mono ?_; rintro e9 w1 ⟨rfl, B9⟩; have BB : Hid (Below w.heap.size w w1) := B9; clear B9; clear t0; have t1 : (1 : Nat) = 1 := rfl))
  go_ret
  exact ⟨rfl, BB.out⟩

theorem back9 {ps ss : List Int} {n : Nat} (ok : Rok ss (mc.dblk (mc.blk ps) ss n 3) z4) :
    Isr (rbs 1 0 ss 0 (mc.dblk (mc.blk ps) ss n 3) z4 (mc.dblk (mc.blk ps) ss n 2)) ∧ qg (rbs 1 0 ss 0 (mc.dblk (mc.blk ps) ss n 3) z4 (mc.dblk (mc.blk ps) ss n 2)) = 1 ∧ qp (rbs 1 0 ss 0 (mc.dblk (mc.blk ps) ss n 3) z4 (mc.dblk (mc.blk ps) ss n 2)) = 0 ∧ qb (rbs 1 0 ss 0 (mc.dblk (mc.blk ps) ss n 3) z4 (mc.dblk (mc.blk ps) ss n 2)) = 0 ∧ re.qs (rbs 1 0 ss 0 (mc.dblk (mc.blk ps) ss n 3) z4 (mc.dblk (mc.blk ps) ss n 2)) = ss ∧ re.qc (rbs 1 0 ss 0 (mc.dblk (mc.blk ps) ss n 3) z4 (mc.dblk (mc.blk ps) ss n 2)) = mc.dblk (mc.blk ps) ss n 3 ∧ (∀ k, k < 4 → sw (qw (rbs 1 0 ss 0 (mc.dblk (mc.blk ps) ss n 3) z4 (mc.dblk (mc.blk ps) ss n 2)) k) = (z4 k).d) ∧
      (rbs 1 0 ss 0 (mc.dblk (mc.blk ps) ss n 3) z4 (mc.dblk (mc.blk ps) ss n 2)).drop 592 = mc.tagB (mc.blk (mc.dblk (mc.blk ps) ss n 2)) ((rbs 1 0 ss 0 (mc.dblk (mc.blk ps) ss n 3) z4 (mc.dblk (mc.blk ps) ss n 2)).take 592) :=
  rec_back' ⟨⟨by decide, by decide⟩, ⟨by decide, by decide⟩, ⟨by decide, by decide⟩⟩ (fun _ _ => sb0) ok _

set_option maxHeartbeats 8000000 in
theorem walk_first (pv sv : Value) (ps ss : List Int) (n : Nat) (w : World) (hp : Byt w pv ps) (hs : Byt w sv ss) (hT : Tbl w ∧ Tb2 w) (hn : n ≤ 4) (h : ss.length = 16) (h1 : ps.length ≤ 64) (h3 : 1 ≤ n) :
    Calls Tryd.prog 6 #[pv, sv, .int .i64 (n : Int)] w fun x w' => x = .returned (.bool true) ∧ Below w.heap.size w w' := by
  have SW : Hid (∀ w0, Below w.heap.size w w0 → Calls Tryd.prog 8 #[] w0 fun x w' => x = .returned (.bool true) ∧ Below w0.heap.size w0 w') := fun w0 q => re.awake_any w0 (hT.1.below q hT.1.lt)
  have l3 : (mc.dblk (mc.blk ps) ss n 3).length = 32 := mc.dblk_len _ _ _ _
  have l2 : (mc.dblk (mc.blk ps) ss n 2).length = 32 := mc.dblk_len _ _ _ _
  have SF : Hid (∀ w0, Below w.heap.size w w0 → Calls Tryd.prog 26 #[pv, sv, .int .i64 (n : Int)] w0 fun x w' => ∃ s1 sc o3 c3 o2 c2, x = .returned (.tuple #[.agg (rv 1 0 (.slice s1 16 sc) 0 (.slice o3 32 c3) z4).toArray, .slice o2 32 c2, .int .i64 0]) ∧ Byt w' (.slice s1 16 sc) ss ∧ Byt w' (.slice o3 32 c3) (mc.dblk (mc.blk ps) ss n 3) ∧ Byt w' (.slice o2 32 c2) (mc.dblk (mc.blk ps) ss n 2) ∧ Below w0.heap.size w0 w') := fun w0 q => (first_yes pv sv ps ss n w0 (hp.below q) (hs.below q) h h1 h3 (by omega)).mono fun _ _ ⟨a, c, k, e, y1, y2, y3, hb⟩ => by
    obtain ⟨s1, sc, rfl⟩ := byt_form y1 h
    obtain ⟨o3, c3, rfl⟩ := byt_form y2 l3
    obtain ⟨o2, c2, rfl⟩ := byt_form y3 l2
    exact ⟨s1, sc, o3, c3, o2, c2, e, y1, y2, y3, hb⟩
  have SG : Hid (∀ w0, Below w.heap.size w w0 → Calls Tryd.prog 24 #[pv, .int .i64 (n : Int)] w0 fun x w' => x = .returned (.bool true) ∧ Below w0.heap.size w0 w') := fun w0 q => (mc.right_any w0 pv ps n (hp.below q) true ((decide_eq_true ⟨h1, by omega, by omega⟩).symm)).mono fun _ _ ⟨h1, h2⟩ => ⟨h1, by rw [h2]; exact Below.refl _ _⟩
  have SK : Hid (∀ w0, Below w.heap.size w w0 → Calls Tryd.prog 25 #[pv, sv, .int .i64 (n : Int), .int .i64 96] w0 fun x w' => ∃ yo yc, x = .returned (.slice yo 96 yc) ∧ Byt w' (.slice yo 96 yc) (mc.drv (mc.blk ps) ss n 96) ∧ Below w0.heap.size w0 w') := fun w0 q => rkeys pv sv ps ss n w0 (hp.below q) (hs.below q) h1 (by omega) h3 (by omega)
  have DK : Hid ((mc.drv (mc.blk ps) ss n 96).take 32 = mc.dblk (mc.blk ps) ss n 1 ∧ ((mc.drv (mc.blk ps) ss n 96).take 64).drop 32 = mc.dblk (mc.blk ps) ss n 2 ∧ (mc.drv (mc.blk ps) ss n 96).drop 64 = mc.dblk (mc.blk ps) ss n 3) := mc.drv_keys (mc.blk ps) ss n
  have HLD : Hid ((mc.drv (mc.blk ps) ss n 96).length = 96) := mc.drv_len _ _ _ _
  obtain ⟨XS, hX⟩ : ∃ z, rbs 1 0 ss 0 (mc.dblk (mc.blk ps) ss n 3) z4 (mc.dblk (mc.blk ps) ss n 2) = z := ⟨_, rfl⟩
  have ok := rok_first (al := ss) (cl := mc.dblk (mc.blk ps) ss n 3) h l3
  have SB : Hid (∀ w0 a c k, Below w.heap.size w w0 → Byt w0 a ss → Byt w0 c (mc.dblk (mc.blk ps) ss n 3) → Byt w0 k (mc.dblk (mc.blk ps) ss n 2) → Calls Tryd.prog 9 #[.agg (rv 1 0 a 0 c z4).toArray, k] w0 fun x w' => ∃ bo bc, x = .returned (.tuple #[.slice bo 624 bc, .int .i64 0]) ∧ Byt w' (.slice bo 624 bc) XS ∧ Below w0.heap.size w0 w') := fun w0 a c k q h1 h2 h3 => (re.bytes_yes 1 0 0 a c ss _ z4 k _ w0 (rin_first h1 h2) h3 ok l2 (hT.1.below q hT.1.lt)).mono fun _ _ ⟨r, e, y, hb⟩ => by
    rw [hX] at y
    obtain ⟨bo, bc, rfl⟩ := byt_form y (show XS.length = 624 by rw [← hX]; exact rbs_len ok)
    exact ⟨bo, bc, e, y, hb⟩
  have SO : Hid (∀ w0 z, Below w.heap.size w w0 → Byt w0 z XS → Calls Tryd.prog 23 #[z, pv, .int .i64 (n : Int)] w0 fun x w' => ∃ a c T o1 c1 o2 c2, x = .returned (.tuple #[.agg (rv 1 0 a 0 c T).toArray, .slice o1 32 c1, .slice o2 32 c2, .int .i64 0]) ∧ Rb w' a c ss (mc.dblk (mc.blk ps) ss n 3) T ∧ (∀ k, k < 4 → (T k).d = (z4 k).d) ∧ Byt w' (.slice o1 32 c1) (mc.dblk (mc.blk ps) ss n 1) ∧ Byt w' (.slice o2 32 c2) (mc.dblk (mc.blk ps) ss n 2) ∧ Below w0.heap.size w0 w') := fun w0 z q hz => by
    obtain ⟨b1, b2, b3, b4, b5, b6, b7, b8⟩ := back9 (ps := ps) (ss := ss) (n := n) ok
    rw [hX] at b1 b2 b3 b4 b5 b6 b7 b8
    have r := re.open_yes z pv XS ps n w0 hz (hp.below q) (by rw [← hX]; exact rbs_len ok) (hT.1.below q hT.1.lt) (hT.2.below q hT.2.lt) b1 h1 h3 (by omega) (by rw [b5, b6]) (by rw [b5]; exact b8)
    rw [b2, b3, b4, b5, b6] at r
    refine r.mono ?_
    rintro _ w' ⟨a, c, T, k1, k2, e, hR, hd, y1, y2, hB⟩
    obtain ⟨o1, c1, rfl⟩ := byt_form y1 (mc.dblk_len _ _ _ _)
    obtain ⟨o2, c2, rfl⟩ := byt_form y2 (mc.dblk_len _ _ _ _)
    exact ⟨a, c, T, o1, c1, o2, c2, e, hR.rb, fun k hk => (hd k hk).trans (b7 k hk), y1, y2, hB⟩
  have HS0 : Hid (Byt w sv ss) := hs
  generalize mc.dblk (mc.blk ps) ss n 1 = K1 at SF SB SO DK
  generalize mc.dblk (mc.blk ps) ss n 2 = K2 at SF SB SO DK
  generalize mc.dblk (mc.blk ps) ss n 3 = K3 at SF SB SO DK
  generalize mc.drv (mc.blk ps) ss n 96 = DD at SK DK HLD
  have q3 : ¬ (ss.length : Int) > 100 := by omega
  have q4 : ¬ (ps.length : Int) > 100 := by omega
  have q1 : ¬ ((n : Int) > 4) := by omega
  obtain ⟨po, pc, rfl⟩ := form hp
  obtain ⟨so', sc', rfl⟩ := byt_form hs h
  clear hp hs hT h h1 h3 hn l3 l2 hX ok
  have t0 : (0 : Nat) = 0 := rfl
  go_enter Tryd.func6, Tryd.ntmps6
  go_wp2_with (first
    | (have q13 := t13; (with_reducible refine at_store ?_); refine store_lawC _ (rv 1 0 a 0 c T) w9.heap.size 0 rfl rfl HX.out.2 rowy_record.2 RX.out.one ?_; intro w11 E9 R9 T9 B9; have K9 : ∀ k, k ≠ w9.heap.size → w11.heap[k]? = w10.heap[k]? := (by rw [E9.out]; exact fun k hk => heap_cells _ _ _ _ k hk); have YS : Hid (Byt w11 (.slice s1 16 sc) ss) := byt_nob YS.out NB_HX.out K9; have YC : Hid (Byt w11 (.slice o3 32 c3) K3) := byt_nob YC.out NB_HX.out K9; have YK : Hid (Byt w11 (.slice o2 32 c2) K2) := byt_nob YK.out NB_HX.out K9; have NB_HV : Hid (NoB w11 w1.heap.size) := NB_HV.out.heap (K9 _ (Nat.ne_of_lt LT_HV_HX.out)); have HV : Hid (Vr w11 w1.heap.size (rv 1 0 (.slice s1 16 sc) 0 (.slice o3 32 c3) z4)) := HV.out.heap (K9 _ (Nat.ne_of_lt LT_HV_HX.out)); have YD : Hid (Byt w11 (.slice do9 96 dc9) DD) := byt_nob YD.out NB_HX.out K9; have Y8 : Hid (Byt w11 v8 K3) := byt_nob Y8.out NB_HX.out K9; have NB_HW : Hid (NoB w11 w5.heap.size) := NB_HW.out.heap (K9 _ (Nat.ne_of_lt LT_HW_HX.out)); have HW : Hid (Vr w11 w5.heap.size (rv 1 0 (.slice so' 16 sc') 0 v8 z4)) := HW.out.heap (K9 _ (Nat.ne_of_lt LT_HW_HX.out)); have YB : Hid (Byt w11 (.slice bo 624 bc) XS) := byt_nob YB.out NB_HX.out K9; have Z1 : Hid (Byt w11 (.slice p1 32 q1) K1) := byt_nob Z1.out NB_HX.out K9; have Z2 : Hid (Byt w11 (.slice p2 32 q2) K2) := byt_nob Z2.out NB_HX.out K9; have RX : Hid (Rb w11 a c ss K3 T) := rb_nob RX.out NB_HX.out K9; have NB_HX : Hid (NoB w11 w9.heap.size) := (by rw [E9.out]; exact NB_HX.out.set HX.out rfl RX.out.nob); have HX : Hid (Vr w11 w9.heap.size (rv 1 0 a 0 c T)) := ⟨R9, T9⟩; have BB : Hid (Below w.heap.size w w11) := BB.out.trans (B9.mono LE_HX.out); clear E9 R9 T9 B9 K9; clear t13; have t14 : (1 : Nat) = 1 := rfl)
    | (have q12 := t12; (with_reducible refine at_alloc ?_); refine new_lawN _ rv0 zero_record rv0_nob ?_; intro w10 X9 N9 B9; have LT_HV_HX : Hid (w1.heap.size < w9.heap.size) := range_lt HV.out.1 (Nat.succ_pos _); have LT_HW_HX : Hid (w5.heap.size < w9.heap.size) := range_lt HW.out.1 (Nat.succ_pos _); have LE_HX : Hid (w.heap.size ≤ w9.heap.size) := BB.out.size; have YS : Hid (Byt w10 (.slice s1 16 sc) ss) := YS.out.below B9; have YC : Hid (Byt w10 (.slice o3 32 c3) K3) := YC.out.below B9; have YK : Hid (Byt w10 (.slice o2 32 c2) K2) := YK.out.below B9; have NB_HV : Hid (NoB w10 w1.heap.size) := NB_HV.out.heap (B9.block _ (range_lt HV.out.1 (Nat.succ_pos _))); have HV : Hid (Vr w10 w1.heap.size (rv 1 0 (.slice s1 16 sc) 0 (.slice o3 32 c3) z4)) := HV.out.below B9 (range_lt HV.out.1 (Nat.succ_pos _)); have YD : Hid (Byt w10 (.slice do9 96 dc9) DD) := YD.out.below B9; have Y8 : Hid (Byt w10 v8 K3) := Y8.out.below B9; have NB_HW : Hid (NoB w10 w5.heap.size) := NB_HW.out.heap (B9.block _ (range_lt HW.out.1 (Nat.succ_pos _))); have HW : Hid (Vr w10 w5.heap.size (rv 1 0 (.slice so' 16 sc') 0 v8 z4)) := HW.out.below B9 (range_lt HW.out.1 (Nat.succ_pos _)); have YB : Hid (Byt w10 (.slice bo 624 bc) XS) := YB.out.below B9; have RX : Hid (Rb w10 a c ss K3 T) := RX.out.below B9; have Z1 : Hid (Byt w10 (.slice p1 32 q1) K1) := Z1.out.below B9; have Z2 : Hid (Byt w10 (.slice p2 32 q2) K2) := Z2.out.below B9; have HX : Hid (Vr w10 w9.heap.size rv0) := X9; have NB_HX : Hid (NoB w10 w9.heap.size) := N9; have BB : Hid (Below w.heap.size w w10) := BB.out.trans (B9.mono BB.out.size); clear X9 N9 B9; clear t12; have t13 : (1 : Nat) = 1 := rfl)
    | (have q11 := t11; go_at_call 23; refine (SO.out w8 _ BB.out YB.out).mono ?_; rintro e9 w9 ⟨a, c, T, p1, q1, p2, q2, rfl, r8, d8, y1, y2, B9⟩; have YS : Hid (Byt w9 (.slice s1 16 sc) ss) := YS.out.below B9; have YC : Hid (Byt w9 (.slice o3 32 c3) K3) := YC.out.below B9; have YK : Hid (Byt w9 (.slice o2 32 c2) K2) := YK.out.below B9; have NB_HV : Hid (NoB w9 w1.heap.size) := NB_HV.out.heap (B9.block _ (range_lt HV.out.1 (Nat.succ_pos _))); have HV : Hid (Vr w9 w1.heap.size (rv 1 0 (.slice s1 16 sc) 0 (.slice o3 32 c3) z4)) := HV.out.below B9 (range_lt HV.out.1 (Nat.succ_pos _)); have YD : Hid (Byt w9 (.slice do9 96 dc9) DD) := YD.out.below B9; have Y8 : Hid (Byt w9 v8 K3) := Y8.out.below B9; have NB_HW : Hid (NoB w9 w5.heap.size) := NB_HW.out.heap (B9.block _ (range_lt HW.out.1 (Nat.succ_pos _))); have HW : Hid (Vr w9 w5.heap.size (rv 1 0 (.slice so' 16 sc') 0 v8 z4)) := HW.out.below B9 (range_lt HW.out.1 (Nat.succ_pos _)); have YB : Hid (Byt w9 (.slice bo 624 bc) XS) := YB.out.below B9; have RX : Hid (Rb w9 a c ss K3 T) := r8; have HD : Hid (∀ k, k < 4 → (T k).d = (z4 k).d) := d8; have Z1 : Hid (Byt w9 (.slice p1 32 q1) K1) := y1; have Z2 : Hid (Byt w9 (.slice p2 32 q2) K2) := y2; have BB : Hid (Below w.heap.size w w9) := BB.out.trans (B9.mono BB.out.size); clear B9 r8 d8 y1 y2; clear t11; have t12 : (1 : Nat) = 1 := rfl)
    | (have q10 := t10; go_at_call 9; refine (SB.out w7 _ _ _ BB.out YS.out YC.out YK.out).mono ?_; rintro e9 w8 ⟨bo, bc, rfl, y9, B9⟩; have YS : Hid (Byt w8 (.slice s1 16 sc) ss) := YS.out.below B9; have YC : Hid (Byt w8 (.slice o3 32 c3) K3) := YC.out.below B9; have YK : Hid (Byt w8 (.slice o2 32 c2) K2) := YK.out.below B9; have NB_HV : Hid (NoB w8 w1.heap.size) := NB_HV.out.heap (B9.block _ (range_lt HV.out.1 (Nat.succ_pos _))); have HV : Hid (Vr w8 w1.heap.size (rv 1 0 (.slice s1 16 sc) 0 (.slice o3 32 c3) z4)) := HV.out.below B9 (range_lt HV.out.1 (Nat.succ_pos _)); have YD : Hid (Byt w8 (.slice do9 96 dc9) DD) := YD.out.below B9; have Y8 : Hid (Byt w8 v8 K3) := Y8.out.below B9; have NB_HW : Hid (NoB w8 w5.heap.size) := NB_HW.out.heap (B9.block _ (range_lt HW.out.1 (Nat.succ_pos _))); have HW : Hid (Vr w8 w5.heap.size (rv 1 0 (.slice so' 16 sc') 0 v8 z4)) := HW.out.below B9 (range_lt HW.out.1 (Nat.succ_pos _)); have YB : Hid (Byt w8 (.slice bo 624 bc) XS) := y9; have BB : Hid (Below w.heap.size w w8) := BB.out.trans (B9.mono BB.out.size); clear B9 y9; clear t10; have t11 : (1 : Nat) = 1 := rfl)
    | (have q9 := t9; refine load_lawC _ rfl (rv 1 0 (.slice s1 16 sc) 0 (.slice o3 32 c3) z4) w1.heap.size 0 rfl HV.out.1 rowy_record ?_; clear t9; have t10 : (1 : Nat) = 1 := rfl)
    | (have q8 := t8; (with_reducible refine at_store ?_); refine store_lawC _ (rv 1 0 (.slice so' 16 sc') 0 v8 z4) w5.heap.size 0 rfl rfl HW.out.2 rowy_rrecord.2 (rv_one (slc_sl _ _ _) S8.out slc_z4) ?_; intro w7 E9 R9 T9 B9; have K9 : ∀ k, k ≠ w5.heap.size → w7.heap[k]? = w6.heap[k]? := (by rw [E9.out]; exact fun k hk => heap_cells _ _ _ _ k hk); have YS : Hid (Byt w7 (.slice s1 16 sc) ss) := byt_nob YS.out NB_HW.out K9; have YC : Hid (Byt w7 (.slice o3 32 c3) K3) := byt_nob YC.out NB_HW.out K9; have YK : Hid (Byt w7 (.slice o2 32 c2) K2) := byt_nob YK.out NB_HW.out K9; have NB_HV : Hid (NoB w7 w1.heap.size) := NB_HV.out.heap (K9 _ (Nat.ne_of_lt LT_HV_HW.out)); have HV : Hid (Vr w7 w1.heap.size (rv 1 0 (.slice s1 16 sc) 0 (.slice o3 32 c3) z4)) := HV.out.heap (K9 _ (Nat.ne_of_lt LT_HV_HW.out)); have YD : Hid (Byt w7 (.slice do9 96 dc9) DD) := byt_nob YD.out NB_HW.out K9; have Y8 : Hid (Byt w7 v8 K3) := byt_nob Y8.out NB_HW.out K9; have NB_HW : Hid (NoB w7 w5.heap.size) := (by rw [E9.out]; exact NB_HW.out.set HW.out rfl (rv_nob (slc_sl _ _ _) S8.out slc_z4)); have HW : Hid (Vr w7 w5.heap.size (rv 1 0 (.slice so' 16 sc') 0 v8 z4)) := ⟨R9, T9⟩; have BB : Hid (Below w.heap.size w w7) := BB.out.trans (B9.mono LE_HW.out); clear E9 R9 T9 B9 K9; clear t8; have t9 : (1 : Nat) = 1 := rfl)
    | (have q7 := t7; (with_reducible refine at_alloc ?_); refine new_lawN _ rv0 zero_rrecord rv0_nob ?_; intro w6 X9 N9 B9; have LT_HV_HW : Hid (w1.heap.size < w5.heap.size) := range_lt HV.out.1 (Nat.succ_pos _); have LE_HW : Hid (w.heap.size ≤ w5.heap.size) := BB.out.size; have YS : Hid (Byt w6 (.slice s1 16 sc) ss) := YS.out.below B9; have YC : Hid (Byt w6 (.slice o3 32 c3) K3) := YC.out.below B9; have YK : Hid (Byt w6 (.slice o2 32 c2) K2) := YK.out.below B9; have NB_HV : Hid (NoB w6 w1.heap.size) := NB_HV.out.heap (B9.block _ (range_lt HV.out.1 (Nat.succ_pos _))); have HV : Hid (Vr w6 w1.heap.size (rv 1 0 (.slice s1 16 sc) 0 (.slice o3 32 c3) z4)) := HV.out.below B9 (range_lt HV.out.1 (Nat.succ_pos _)); have YD : Hid (Byt w6 (.slice do9 96 dc9) DD) := YD.out.below B9; have Y8 : Hid (Byt w6 v8 K3) := Y8.out.below B9; have HW : Hid (Vr w6 w5.heap.size rv0) := X9; have NB_HW : Hid (NoB w6 w5.heap.size) := N9; have BB : Hid (Below w.heap.size w w6) := BB.out.trans (B9.mono BB.out.size); clear X9 N9 B9; clear t7; have t8 : (1 : Nat) = 1 := rfl)
    | (have q6 := t6; refine build_lawV _ rfl 39 _ rfl #[(0, .int .u64 1), (2, .slice so' 16 sc'), (4, v8)] (by kernel_rfl) (.agg (rv 1 0 (.slice so' 16 sc') 0 v8 z4).toArray) (run_brec3 _ _ _ (slc_sl _ _ _) S8.out) ?_; clear t6; have t7 : (1 : Nat) = 1 := rfl)
    | (have q5 := t5; refine cut_from _ rfl (.tmp 67) (.const (.int .i64 64)) rfl _ DD _ 64 rfl rfl rfl (by rw [HLD.out]; omega) YD.out ?_; intro v8 y8; rw [DK.out.2.2] at y8; have Y8 : Hid (Byt w5 v8 K3) := y8; have S8 : Hid (Slc v8) := slc_byt y8; clear y8; clear t5; have t6 : (1 : Nat) = 1 := rfl)
    | (have q4 := t4; go_at_call 25; refine (SK.out w4 BB.out).mono ?_; rintro e9 w5 ⟨do9, dc9, rfl, y9, B9⟩; have YS : Hid (Byt w5 (.slice s1 16 sc) ss) := YS.out.below B9; have YC : Hid (Byt w5 (.slice o3 32 c3) K3) := YC.out.below B9; have YK : Hid (Byt w5 (.slice o2 32 c2) K2) := YK.out.below B9; have NB_HV : Hid (NoB w5 w1.heap.size) := NB_HV.out.heap (B9.block _ (range_lt HV.out.1 (Nat.succ_pos _))); have HV : Hid (Vr w5 w1.heap.size (rv 1 0 (.slice s1 16 sc) 0 (.slice o3 32 c3) z4)) := HV.out.below B9 (range_lt HV.out.1 (Nat.succ_pos _)); have YD : Hid (Byt w5 (.slice do9 96 dc9) DD) := y9; have BB : Hid (Below w.heap.size w w5) := BB.out.trans (B9.mono BB.out.size); clear B9 y9; clear t4; have t5 : (1 : Nat) = 1 := rfl)
    | (have q3 := t3; go_at_call 24; refine (SG.out w3 BB.out).mono ?_; rintro e9 w4 ⟨rfl, B9⟩; have YS : Hid (Byt w4 (.slice s1 16 sc) ss) := YS.out.below B9; have YC : Hid (Byt w4 (.slice o3 32 c3) K3) := YC.out.below B9; have YK : Hid (Byt w4 (.slice o2 32 c2) K2) := YK.out.below B9; have NB_HV : Hid (NoB w4 w1.heap.size) := NB_HV.out.heap (B9.block _ (range_lt HV.out.1 (Nat.succ_pos _))); have HV : Hid (Vr w4 w1.heap.size (rv 1 0 (.slice s1 16 sc) 0 (.slice o3 32 c3) z4)) := HV.out.below B9 (range_lt HV.out.1 (Nat.succ_pos _)); have BB : Hid (Below w.heap.size w w4) := BB.out.trans (B9.mono BB.out.size); clear B9; clear t3; have t4 : (1 : Nat) = 1 := rfl)
    | (have q2 := t2; (with_reducible refine at_store ?_); refine store_lawC _ (rv 1 0 (.slice s1 16 sc) 0 (.slice o3 32 c3) z4) w1.heap.size 0 rfl rfl HV.out.2 rowy_record.2 (rv_one (slc_sl _ _ _) (slc_sl _ _ _) slc_z4) ?_; intro w3 E9 R9 T9 B9; have K9 : ∀ k, k ≠ w1.heap.size → w3.heap[k]? = w2.heap[k]? := (by rw [E9.out]; exact fun k hk => heap_cells _ _ _ _ k hk); have YS : Hid (Byt w3 (.slice s1 16 sc) ss) := byt_nob YS.out NB_HV.out K9; have YC : Hid (Byt w3 (.slice o3 32 c3) K3) := byt_nob YC.out NB_HV.out K9; have YK : Hid (Byt w3 (.slice o2 32 c2) K2) := byt_nob YK.out NB_HV.out K9; have NB_HV : Hid (NoB w3 w1.heap.size) := (by rw [E9.out]; exact NB_HV.out.set HV.out rfl (rv_nob (slc_sl _ _ _) (slc_sl _ _ _) slc_z4)); have HV : Hid (Vr w3 w1.heap.size (rv 1 0 (.slice s1 16 sc) 0 (.slice o3 32 c3) z4)) := ⟨R9, T9⟩; have BB : Hid (Below w.heap.size w w3) := BB.out.trans (B9.mono LE_HV.out); clear E9 R9 T9 B9 K9; clear t2; have t3 : (1 : Nat) = 1 := rfl)
    | (have q1 := t1; (with_reducible refine at_alloc ?_); refine new_lawN _ rv0 zero_record rv0_nob ?_; intro w2 X9 N9 B9; have LE_HV : Hid (w.heap.size ≤ w1.heap.size) := BB.out.size; have YS : Hid (Byt w2 (.slice s1 16 sc) ss) := YS.out.below B9; have YC : Hid (Byt w2 (.slice o3 32 c3) K3) := YC.out.below B9; have YK : Hid (Byt w2 (.slice o2 32 c2) K2) := YK.out.below B9; have HV : Hid (Vr w2 w1.heap.size rv0) := X9; have NB_HV : Hid (NoB w2 w1.heap.size) := N9; have BB : Hid (Below w.heap.size w w2) := BB.out.trans (B9.mono BB.out.size); clear X9 N9 B9; clear t1; have t2 : (1 : Nat) = 1 := rfl)
    | (have q0 := t0; go_at_call 26; refine (SF.out w (Below.refl _ _)).mono ?_; rintro e9 w1 ⟨s1, sc, o3, c3, o2, c2, rfl, y1, y2, y3, B9⟩; have YS : Hid (Byt w1 (.slice s1 16 sc) ss) := y1; have YC : Hid (Byt w1 (.slice o3 32 c3) K3) := y2; have YK : Hid (Byt w1 (.slice o2 32 c2) K2) := y3; have BB : Hid (Below w.heap.size w w1) := B9; clear B9 y1 y2 y3; clear t0; have t1 : (1 : Nat) = 1 := rfl))
  refine wp_region_held_drew (S := fun w' => Below w11.heap.size w11 w') (by kernel_rfl) (Below.refl _ _).drew (fun hS => ?_)
  obtain ⟨yy1, hx0⟩ : ∃ x, x = w11.drew := ⟨_, rfl⟩
  rw [← hx0] at hS  ⊢
  clear hx0
  refine take_lawH 0 (some 85) (.int .i64 0) rfl rfl (by kernel_rfl) (by kernel_rfl) (by kernel_rfl) (fun _ _ _ h => h) (Or.inl ⟨by rfl, fun w' hw' => by rfl⟩) hS ?_
  simp only [Act.put, List.setIfInBounds_toArray, List.set_cons_zero, List.set_cons_succ]
  refine take_lawH 1 (some 86) (.bool true) rfl rfl (by kernel_rfl) (by kernel_rfl) (by kernel_rfl) (fun _ _ _ h => h) (Or.inl ⟨by rfl, fun w' hw' => by rfl⟩) hS ?_
  simp only [Act.put, List.setIfInBounds_toArray, List.set_cons_zero, List.set_cons_succ]
  refine take_lawH 2 (some 87) (.bool true) rfl rfl (by kernel_rfl) (by kernel_rfl) (by kernel_rfl) (fun _ _ _ h => h) (Or.inl ⟨by rfl, fun w' hw' => by rfl⟩) hS ?_
  simp only [Act.put, List.setIfInBounds_toArray, List.set_cons_zero, List.set_cons_succ]
  refine take_lawH 3 (some 88) (.agg (rv 1 0 (.slice s1 16 sc) 0 (.slice o3 32 c3) z4).toArray) rfl rfl (by kernel_rfl) (by kernel_rfl) (by kernel_rfl) (fun _ _ _ h => h) (Or.inl ⟨by rfl, fun w' hw' => by exact exec_loadN 28 (.tmp 7) rfl _ rfl _ _ (load_cells rowy_record (HV.out.below hw' (range_lt HV.out.1 (Nat.succ_pos _))).1)⟩) hS ?_
  simp only [Act.put, List.setIfInBounds_toArray, List.set_cons_zero, List.set_cons_succ]
  refine take_lawH 5 (some 90) (.agg (rv 1 0 (.slice so' 16 sc') 0 v8 z4).toArray) rfl rfl (by kernel_rfl) (by kernel_rfl) (by kernel_rfl) (fun _ _ _ h => h) (Or.inl ⟨by rfl, fun w' hw' => by exact exec_loadN 39 (.tmp 11) rfl _ rfl _ _ (load_cells rowy_rrecord (HW.out.below hw' (range_lt HW.out.1 (Nat.succ_pos _))).1)⟩) hS ?_
  simp only [Act.put, List.setIfInBounds_toArray, List.set_cons_zero, List.set_cons_succ]
  refine wpAnyH_ready (rs := [4]) (by kernel_rfl) (by simp) ?_
  refine AllReadyH.cons rfl (fun K hK => ?_) AllReadyH.nil
  refine he.step_callW _ (by rfl) (some 89) rfl 13 #[.tmp 88] #[28] rfl (fun q w' => by rfl) #[.agg (rv 1 0 (.slice s1 16 sc) 0 (.slice o3 32 c3) z4).toArray] (by simp only [List.map_toArray, List.map_cons, List.map_nil]; rfl) (fun z9 w' => z9 = .agg (rv 1 0 (.slice s1 16 sc) 0 (.slice o3 32 c3) z4).toArray ∧ Below yy1.heap.size yy1 w') ?_ ?_
  · exact (of_rb 1 0 0 _ _ ss K3 z4 yy1 (⟨YS.out.below hS, YC.out.below hS, fun _ _ => Byt.nil yy1⟩ : Rb yy1 _ _ ss K3 z4)).mono fun e w' ⟨h1, h2⟩ => ⟨_, h1, rfl, h2⟩
  rintro _ yy2 ⟨rfl, hb⟩
  have hS : Below w11.heap.size w11 yy2 := hS.trans (hb.mono hS.size)
  clear hb
  refine hK.out _ _ hS (fun _ => ?_)
  simp only [Act.put, List.setIfInBounds_toArray, List.set_cons_zero, List.set_cons_succ]
  clear hK K
  refine wpAnyH_ready (rs := [6]) (by kernel_rfl) (by simp) ?_
  refine AllReadyH.cons rfl (fun K hK => ?_) AllReadyH.nil
  refine he.step_callW _ (by rfl) (some 91) rfl 14 #[.tmp 89, .tmp 90] #[39, 39] rfl (fun q w' => by rfl) #[.agg (rv 1 0 (.slice s1 16 sc) 0 (.slice o3 32 c3) z4).toArray, .agg (rv 1 0 (.slice so' 16 sc') 0 v8 z4).toArray] (by simp only [List.map_toArray, List.map_cons, List.map_nil]; rfl) (fun z9 w' => z9 = .bool true ∧ Below yy2.heap.size yy2 w') ?_ ?_
  · exact (rsame_rb 1 0 0 _ _ _ _ ss K3 z4 z4 yy2 (⟨YS.out.below hS, YC.out.below hS, fun _ _ => Byt.nil yy2⟩ : Rb yy2 _ _ ss K3 z4) (⟨HS0.out.below (BB.out.trans (hS.mono BB.out.size)), Y8.out.below hS, fun _ _ => Byt.nil yy2⟩ : Rb yy2 _ _ ss K3 z4) (fun _ _ => rfl)).mono fun e w' ⟨h1, h2⟩ => ⟨_, h1, rfl, h2⟩
  rintro _ yy3 ⟨rfl, hb⟩
  have hS : Below w11.heap.size w11 yy3 := hS.trans (hb.mono hS.size)
  clear hb
  refine hK.out _ _ hS (fun _ => ?_)
  simp only [Act.put, List.setIfInBounds_toArray, List.set_cons_zero, List.set_cons_succ]
  clear hK K
  refine take_lawH 7 (some 92) (.bool true) rfl rfl (by kernel_rfl) (by kernel_rfl) (by kernel_rfl) (fun _ _ _ h => h) (Or.inl ⟨by rfl, fun w' hw' => by rfl⟩) hS ?_
  simp only [Act.put, List.setIfInBounds_toArray, List.set_cons_zero, List.set_cons_succ]
  refine take_lawH 8 (some 93) (.bool true) rfl rfl (by kernel_rfl) (by kernel_rfl) (by kernel_rfl) (fun _ _ _ h => h) (Or.inl ⟨by rfl, fun w' hw' => by rfl⟩) hS ?_
  simp only [Act.put, List.setIfInBounds_toArray, List.set_cons_zero, List.set_cons_succ]
  refine take_lawH 9 (some 94) (.slice o2 32 c2) rfl rfl (by kernel_rfl) (by kernel_rfl) (by kernel_rfl) (fun _ _ _ h => h) (Or.inl ⟨by rfl, fun w' hw' => by rfl⟩) hS ?_
  simp only [Act.put, List.setIfInBounds_toArray, List.set_cons_zero, List.set_cons_succ]
  refine take_lawH 10 (some 95) (.slice do9 96 dc9) rfl rfl (by kernel_rfl) (by kernel_rfl) (by kernel_rfl) (fun _ _ _ h => h) (Or.inl ⟨by rfl, fun w' hw' => by rfl⟩) hS ?_
  simp only [Act.put, List.setIfInBounds_toArray, List.set_cons_zero, List.set_cons_succ]
  refine take_lawH 11 (some 96) (sl (.slice do9 96 dc9) 32 64) rfl rfl (by kernel_rfl) (by kernel_rfl) (by kernel_rfl) (fun _ _ _ h => h) (Or.inl ⟨by rfl, fun w' hw' => by exact exec_part (.tmp 95) (.const (.int .i64 32)) (.const (.int .i64 64)) rfl _ DD _ YD.out 32 64 rfl rfl rfl (by omega) (by rw [HLD.out]; omega) _⟩) hS ?_
  simp only [Act.put, List.setIfInBounds_toArray, List.set_cons_zero, List.set_cons_succ]
  refine wpAnyH_ready (rs := [12]) (by kernel_rfl) (by simp) ?_
  refine AllReadyH.cons rfl (fun K hK => ?_) AllReadyH.nil
  refine he.step_callW _ (by rfl) (some 97) rfl 18 #[.tmp 94, .tmp 96] #[23, 23] rfl (fun q w' => by rfl) #[.slice o2 32 c2, sl (.slice do9 96 dc9) 32 64] (by simp only [List.map_toArray, List.map_cons, List.map_nil]; rfl) (fun z9 w' => z9 = .bool true ∧ Below yy3.heap.size yy3 w') ?_ ?_
  · exact (so.same_yes yy3 _ _ K2 (YK.out.below hS) (by have z := sl_byt (YD.out.below hS) 32 64 (by omega) (by rw [HLD.out]; omega); rwa [DK.out.2.1] at z)).mono fun e w' ⟨h1, h2⟩ => ⟨_, h1, rfl, h2⟩
  rintro _ yy4 ⟨rfl, hb⟩
  have hS : Below w11.heap.size w11 yy4 := hS.trans (hb.mono hS.size)
  clear hb
  refine hK.out _ _ hS (fun _ => ?_)
  simp only [Act.put, List.setIfInBounds_toArray, List.set_cons_zero, List.set_cons_succ]
  clear hK K
  refine take_lawH 13 (some 98) (.bool true) rfl rfl (by kernel_rfl) (by kernel_rfl) (by kernel_rfl) (fun _ _ _ h => h) (Or.inl ⟨by rfl, fun w' hw' => by rfl⟩) hS ?_
  simp only [Act.put, List.setIfInBounds_toArray, List.set_cons_zero, List.set_cons_succ]
  refine take_lawH 14 (some 99) (.bool true) rfl rfl (by kernel_rfl) (by kernel_rfl) (by kernel_rfl) (fun _ _ _ h => h) (Or.inl ⟨by rfl, fun w' hw' => by rfl⟩) hS ?_
  simp only [Act.put, List.setIfInBounds_toArray, List.set_cons_zero, List.set_cons_succ]
  refine take_lawH 15 (some 100) (.int .i64 0) rfl rfl (by kernel_rfl) (by kernel_rfl) (by kernel_rfl) (fun _ _ _ h => h) (Or.inl ⟨by rfl, fun w' hw' => by rfl⟩) hS ?_
  simp only [Act.put, List.setIfInBounds_toArray, List.set_cons_zero, List.set_cons_succ]
  refine take_lawH 16 (some 101) (.bool true) rfl rfl (by kernel_rfl) (by kernel_rfl) (by kernel_rfl) (fun _ _ _ h => h) (Or.inl ⟨by rfl, fun w' hw' => by rfl⟩) hS ?_
  simp only [Act.put, List.setIfInBounds_toArray, List.set_cons_zero, List.set_cons_succ]
  refine take_lawH 17 (some 102) (.bool true) rfl rfl (by kernel_rfl) (by kernel_rfl) (by kernel_rfl) (fun _ _ _ h => h) (Or.inl ⟨by rfl, fun w' hw' => by rfl⟩) hS ?_
  simp only [Act.put, List.setIfInBounds_toArray, List.set_cons_zero, List.set_cons_succ]
  refine take_lawH 18 (some 103) (.bool true) rfl rfl (by kernel_rfl) (by kernel_rfl) (by kernel_rfl) (fun _ _ _ h => h) (Or.inl ⟨by rfl, fun w' hw' => by rfl⟩) hS ?_
  simp only [Act.put, List.setIfInBounds_toArray, List.set_cons_zero, List.set_cons_succ]
  refine take_lawH 19 (some 104) (.int .i64 0) rfl rfl (by kernel_rfl) (by kernel_rfl) (by kernel_rfl) (fun _ _ _ h => h) (Or.inl ⟨by rfl, fun w' hw' => by rfl⟩) hS ?_
  simp only [Act.put, List.setIfInBounds_toArray, List.set_cons_zero, List.set_cons_succ]
  refine take_lawH 20 (some 105) (.bool true) rfl rfl (by kernel_rfl) (by kernel_rfl) (by kernel_rfl) (fun _ _ _ h => h) (Or.inl ⟨by rfl, fun w' hw' => by rfl⟩) hS ?_
  simp only [Act.put, List.setIfInBounds_toArray, List.set_cons_zero, List.set_cons_succ]
  refine take_lawH 21 (some 106) (.bool true) rfl rfl (by kernel_rfl) (by kernel_rfl) (by kernel_rfl) (fun _ _ _ h => h) (Or.inl ⟨by rfl, fun w' hw' => by rfl⟩) hS ?_
  simp only [Act.put, List.setIfInBounds_toArray, List.set_cons_zero, List.set_cons_succ]
  refine take_lawH 22 (some 107) (.bool true) rfl rfl (by kernel_rfl) (by kernel_rfl) (by kernel_rfl) (fun _ _ _ h => h) (Or.inl ⟨by rfl, fun w' hw' => by rfl⟩) hS ?_
  simp only [Act.put, List.setIfInBounds_toArray, List.set_cons_zero, List.set_cons_succ]
  refine take_lawH 23 (some 108) (.agg (rv 1 0 a 0 c T).toArray) rfl rfl (by kernel_rfl) (by kernel_rfl) (by kernel_rfl) (fun _ _ _ h => h) (Or.inl ⟨by rfl, fun w' hw' => by exact exec_loadN 28 (.tmp 14) rfl _ rfl _ _ (load_cells rowy_record (HX.out.below hw' (range_lt HX.out.1 (Nat.succ_pos _))).1)⟩) hS ?_
  simp only [Act.put, List.setIfInBounds_toArray, List.set_cons_zero, List.set_cons_succ]
  refine take_lawH 25 (some 110) (.agg (rv 1 0 (.slice so' 16 sc') 0 v8 z4).toArray) rfl rfl (by kernel_rfl) (by kernel_rfl) (by kernel_rfl) (fun _ _ _ h => h) (Or.inl ⟨by rfl, fun w' hw' => by exact exec_loadN 39 (.tmp 11) rfl _ rfl _ _ (load_cells rowy_rrecord (HW.out.below hw' (range_lt HW.out.1 (Nat.succ_pos _))).1)⟩) hS ?_
  simp only [Act.put, List.setIfInBounds_toArray, List.set_cons_zero, List.set_cons_succ]
  refine wpAnyH_ready (rs := [24]) (by kernel_rfl) (by simp) ?_
  refine AllReadyH.cons rfl (fun K hK => ?_) AllReadyH.nil
  refine he.step_callW _ (by rfl) (some 109) rfl 13 #[.tmp 108] #[28] rfl (fun q w' => by rfl) #[.agg (rv 1 0 a 0 c T).toArray] (by simp only [List.map_toArray, List.map_cons, List.map_nil]; rfl) (fun z9 w' => z9 = .agg (rv 1 0 a 0 c T).toArray ∧ Below yy4.heap.size yy4 w') ?_ ?_
  · exact (of_rb 1 0 0 a c ss K3 T yy4 (RX.out.below hS)).mono fun e w' ⟨h1, h2⟩ => ⟨_, h1, rfl, h2⟩
  rintro _ yy5 ⟨rfl, hb⟩
  have hS : Below w11.heap.size w11 yy5 := hS.trans (hb.mono hS.size)
  clear hb
  refine hK.out _ _ hS (fun _ => ?_)
  simp only [Act.put, List.setIfInBounds_toArray, List.set_cons_zero, List.set_cons_succ]
  clear hK K
  refine wpAnyH_ready (rs := [26]) (by kernel_rfl) (by simp) ?_
  refine AllReadyH.cons rfl (fun K hK => ?_) AllReadyH.nil
  refine he.step_callW _ (by rfl) (some 111) rfl 14 #[.tmp 109, .tmp 110] #[39, 39] rfl (fun q w' => by rfl) #[.agg (rv 1 0 a 0 c T).toArray, .agg (rv 1 0 (.slice so' 16 sc') 0 v8 z4).toArray] (by simp only [List.map_toArray, List.map_cons, List.map_nil]; rfl) (fun z9 w' => z9 = .bool true ∧ Below yy5.heap.size yy5 w') ?_ ?_
  · exact (rsame_rb 1 0 0 _ _ _ _ ss K3 T z4 yy5 (RX.out.below hS) (⟨HS0.out.below (BB.out.trans (hS.mono BB.out.size)), Y8.out.below hS, fun _ _ => Byt.nil yy5⟩ : Rb yy5 _ _ ss K3 z4) HD.out).mono fun e w' ⟨h1, h2⟩ => ⟨_, h1, rfl, h2⟩
  rintro _ yy6 ⟨rfl, hb⟩
  have hS : Below w11.heap.size w11 yy6 := hS.trans (hb.mono hS.size)
  clear hb
  refine hK.out _ _ hS (fun _ => ?_)
  simp only [Act.put, List.setIfInBounds_toArray, List.set_cons_zero, List.set_cons_succ]
  clear hK K
  refine take_lawH 27 (some 112) (.bool true) rfl rfl (by kernel_rfl) (by kernel_rfl) (by kernel_rfl) (fun _ _ _ h => h) (Or.inl ⟨by rfl, fun w' hw' => by rfl⟩) hS ?_
  simp only [Act.put, List.setIfInBounds_toArray, List.set_cons_zero, List.set_cons_succ]
  refine take_lawH 28 (some 113) (.bool true) rfl rfl (by kernel_rfl) (by kernel_rfl) (by kernel_rfl) (fun _ _ _ h => h) (Or.inl ⟨by rfl, fun w' hw' => by rfl⟩) hS ?_
  simp only [Act.put, List.setIfInBounds_toArray, List.set_cons_zero, List.set_cons_succ]
  refine take_lawH 29 (some 114) (.slice p1 32 q1) rfl rfl (by kernel_rfl) (by kernel_rfl) (by kernel_rfl) (fun _ _ _ h => h) (Or.inl ⟨by rfl, fun w' hw' => by rfl⟩) hS ?_
  simp only [Act.put, List.setIfInBounds_toArray, List.set_cons_zero, List.set_cons_succ]
  refine take_lawH 30 (some 115) (.slice do9 96 dc9) rfl rfl (by kernel_rfl) (by kernel_rfl) (by kernel_rfl) (fun _ _ _ h => h) (Or.inl ⟨by rfl, fun w' hw' => by rfl⟩) hS ?_
  simp only [Act.put, List.setIfInBounds_toArray, List.set_cons_zero, List.set_cons_succ]
  refine take_lawH 31 (some 116) (sl (.slice do9 96 dc9) 0 32) rfl rfl (by kernel_rfl) (by kernel_rfl) (by kernel_rfl) (fun _ _ _ h => h) (Or.inl ⟨by rfl, fun w' hw' => by exact exec_to (.tmp 115) (.const (.int .i64 32)) rfl _ DD _ YD.out 32 rfl rfl (by rw [HLD.out]; omega) _⟩) hS ?_
  simp only [Act.put, List.setIfInBounds_toArray, List.set_cons_zero, List.set_cons_succ]
  refine wpAnyH_ready (rs := [32]) (by kernel_rfl) (by simp) ?_
  refine AllReadyH.cons rfl (fun K hK => ?_) AllReadyH.nil
  refine he.step_callW _ (by rfl) (some 117) rfl 18 #[.tmp 114, .tmp 116] #[23, 23] rfl (fun q w' => by rfl) #[.slice p1 32 q1, sl (.slice do9 96 dc9) 0 32] (by simp only [List.map_toArray, List.map_cons, List.map_nil]; rfl) (fun z9 w' => z9 = .bool true ∧ Below yy6.heap.size yy6 w') ?_ ?_
  · exact (so.same_yes yy6 _ _ K1 (Z1.out.below hS) (by have z := sl_to (YD.out.below hS) 32 (by rw [HLD.out]; omega); rwa [DK.out.1] at z)).mono fun e w' ⟨h1, h2⟩ => ⟨_, h1, rfl, h2⟩
  rintro _ yy7 ⟨rfl, hb⟩
  have hS : Below w11.heap.size w11 yy7 := hS.trans (hb.mono hS.size)
  clear hb
  refine hK.out _ _ hS (fun _ => ?_)
  simp only [Act.put, List.setIfInBounds_toArray, List.set_cons_zero, List.set_cons_succ]
  clear hK K
  refine take_lawH 33 (some 118) (.bool true) rfl rfl (by kernel_rfl) (by kernel_rfl) (by kernel_rfl) (fun _ _ _ h => h) (Or.inl ⟨by rfl, fun w' hw' => by rfl⟩) hS ?_
  simp only [Act.put, List.setIfInBounds_toArray, List.set_cons_zero, List.set_cons_succ]
  refine take_lawH 34 (some 119) (.bool true) rfl rfl (by kernel_rfl) (by kernel_rfl) (by kernel_rfl) (fun _ _ _ h => h) (Or.inl ⟨by rfl, fun w' hw' => by rfl⟩) hS ?_
  simp only [Act.put, List.setIfInBounds_toArray, List.set_cons_zero, List.set_cons_succ]
  refine take_lawH 35 (some 120) (.slice p2 32 q2) rfl rfl (by kernel_rfl) (by kernel_rfl) (by kernel_rfl) (fun _ _ _ h => h) (Or.inl ⟨by rfl, fun w' hw' => by rfl⟩) hS ?_
  simp only [Act.put, List.setIfInBounds_toArray, List.set_cons_zero, List.set_cons_succ]
  refine take_lawH 36 (some 121) (.slice o2 32 c2) rfl rfl (by kernel_rfl) (by kernel_rfl) (by kernel_rfl) (fun _ _ _ h => h) (Or.inl ⟨by rfl, fun w' hw' => by rfl⟩) hS ?_
  simp only [Act.put, List.setIfInBounds_toArray, List.set_cons_zero, List.set_cons_succ]
  refine wpAnyH_ready (rs := [37]) (by kernel_rfl) (by simp) ?_
  refine AllReadyH.cons rfl (fun K hK => ?_) AllReadyH.nil
  refine he.step_callW _ (by rfl) (some 122) rfl 18 #[.tmp 120, .tmp 121] #[23, 23] rfl (fun q w' => by rfl) #[.slice p2 32 q2, .slice o2 32 c2] (by simp only [List.map_toArray, List.map_cons, List.map_nil]; rfl) (fun z9 w' => z9 = .bool true ∧ Below yy7.heap.size yy7 w') ?_ ?_
  · exact (so.same_yes yy7 _ _ K2 (Z2.out.below hS) (YK.out.below hS)).mono fun e w' ⟨h1, h2⟩ => ⟨_, h1, rfl, h2⟩
  rintro _ yy8 ⟨rfl, hb⟩
  have hS : Below w11.heap.size w11 yy8 := hS.trans (hb.mono hS.size)
  clear hb
  refine hK.out _ _ hS (fun _ => ?_)
  simp only [Act.put, List.setIfInBounds_toArray, List.set_cons_zero, List.set_cons_succ]
  clear hK K
  refine take_lawH 38 (some 123) (.bool true) rfl rfl (by kernel_rfl) (by kernel_rfl) (by kernel_rfl) (fun _ _ _ h => h) (Or.inl ⟨by rfl, fun w' hw' => by rfl⟩) hS ?_
  simp only [Act.put, List.setIfInBounds_toArray, List.set_cons_zero, List.set_cons_succ]
  refine take_lawH 39 (some 124) (.bool true) rfl rfl (by kernel_rfl) (by kernel_rfl) (by kernel_rfl) (fun _ _ _ h => h) (Or.inl ⟨by rfl, fun w' hw' => by rfl⟩) hS ?_
  simp only [Act.put, List.setIfInBounds_toArray, List.set_cons_zero, List.set_cons_succ]
  refine wpAnyH_ready (rs := [40]) (by kernel_rfl) (by simp) ?_
  refine AllReadyH.cons rfl (fun K hK => ?_) AllReadyH.nil
  refine he.step_callW _ (by rfl) (some 125) rfl 8 #[] #[] rfl (fun q w' => by rfl) #[] (by simp only [List.map_toArray, List.map_nil]) (fun z9 w' => z9 = .bool true ∧ Below yy8.heap.size yy8 w') ?_ ?_
  · exact (SW.out yy8 (BB.out.trans (hS.mono BB.out.size))).mono fun e w' ⟨h1, h2⟩ => ⟨_, h1, rfl, h2⟩
  rintro _ yy9 ⟨rfl, hb⟩
  have hS : Below w11.heap.size w11 yy9 := hS.trans (hb.mono hS.size)
  clear hb
  refine hK.out _ _ hS (fun _ => ?_)
  simp only [Act.put, List.setIfInBounds_toArray, List.set_cons_zero, List.set_cons_succ]
  clear hK K
  refine take_lawH 41 (some 126) (.bool true) rfl rfl (by kernel_rfl) (by kernel_rfl) (by kernel_rfl) (fun _ _ _ h => h) (Or.inl ⟨by rfl, fun w' hw' => by rfl⟩) hS ?_
  simp only [Act.put, List.setIfInBounds_toArray, List.set_cons_zero, List.set_cons_succ]
  refine take_lawH 42 (some 6) (.bool true) rfl rfl (by kernel_rfl) (by kernel_rfl) (by kernel_rfl) (fun _ _ _ h => h) (Or.inl ⟨by rfl, fun w' hw' => by rfl⟩) hS ?_
  simp only [Act.put, List.setIfInBounds_toArray, List.set_cons_zero, List.set_cons_succ]
  refine wpAnyH_done (by kernel_rfl) ?_ _
  have BZ : Hid (Below w.heap.size w _) := BB.out.trans (hS.mono BB.out.size)
  clear hS
  go_wp2
  go_ret
  exact ⟨rfl, BZ.out⟩

theorem walk (pv : Value) (ps : List Int) (sv : Value) (ss : List Int) (n : Int) (w : World) (hp : Byt w pv ps) (hs : Byt w sv ss) (_hn : -9223372036854775808 ≤ n ∧ n ≤ 9223372036854775807) (hT : Tbl w ∧ Tb2 w) :
    Calls Tryd.prog 6 #[pv, sv, .int .i64 n] w fun x w' => x = .returned (.bool true) ∧ Below w.heap.size w w' := by
  by_cases h1 : n > 4
  · by_cases h2 : n ≤ 1000
    · exact walk_many pv sv ps ss n w hp hs hT h1 h2
    · by_cases h3 : (ss.length : Int) > 100
      · exact walk_salt_l pv sv ps ss n w hp hs hT h1 h2 h3
      · by_cases h4 : (ps.length : Int) > 100
        · exact walk_pass_l pv sv ps ss n w hp hs hT h1 h2 h3 h4
        · by_cases h : ss.length = 16
          · exact walk_shape_l pv sv ps ss n w hp hs hT h1 h2 h3 h4 h (by omega)
          · exact walk_len_l pv sv ps ss n w hp hs hT h1 h2 h3 h4 h
  · by_cases h3 : (ss.length : Int) > 100
    · exact walk_salt_s pv sv ps ss n w hp hs hT h1 h3
    · by_cases h4 : (ps.length : Int) > 100
      · exact walk_pass_s pv sv ps ss n w hp hs hT h1 h3 h4
      · by_cases h : ss.length = 16
        · by_cases hr : ps.length ≤ 64 ∧ 1 ≤ n ∧ n ≤ 1000
          · obtain ⟨m, rfl⟩ : ∃ m : Nat, n = (m : Int) := ⟨n.toNat, by omega⟩
            exact walk_first pv sv ps ss m w hp hs hT (by omega) h hr.1 (by omega)
          · exact walk_shape_s pv sv ps ss n w hp hs hT h1 h3 h4 h hr
        · exact walk_len_s pv sv ps ss n w hp hs hT h1 h3 h4 h

theorem params : ∀ t ∈ Tryd.f6.params.toList, Tryd.prog.readableRec t = true ∧ t < Tryd.prog.types.size := by
  rw [Tryd.params6]
  intro t ht
  simp at ht
  rcases ht with rfl | rfl
  · exact ⟨by kernel_rfl, of_decide_eq_true (by kernel_rfl)⟩
  · exact ⟨by kernel_rfl, of_decide_eq_true (by kernel_rfl)⟩

theorem contract (H : Type) (enc : TypeId × Value → H) (W : World) (base : Nat) (args : Array Value) (ds gs : List (DataW H)) (before : List MemPlace)
    (hval : ∀ (j : Nat) t v, Tryd.f6.params[j]? = some t → args[j]? = some v → Value.okWide Tryd.prog W .any base t v)
    (hW : DataW.Whole enc Tryd.prog Tryd.f6.params.toList Rows.recordFirstsSpec.vars false W args.toList ds gs before) (hL : laidMetH Tryd.prog Rows.recordFirstsRow.laid W) :
    Calls Tryd.prog 6 args W fun e W' => ∃ v, e = .returned v ∧ Rows.recordFirstsSpec.post enc Tryd.prog Tryd.f6 false true false false W args v W' := by
  have hW' := hW
  obtain ⟨p, q, hA0, hV, rfl, hfz, hnd⟩ := hW
  have hA : DataW.TrodAll enc Tryd.prog W 0 (fun _ => true) true Tryd.f6.params.toList args.toList ds p := hA0
  rw [Tryd.params6] at hA hval
  obtain ⟨v0, v1, v2, d0, d1, d2, p0, p1, p2, rfl, rfl, rfl, h0, h1, h2⟩ := trodAll_three hA
  obtain ⟨rfl, rfl⟩ := trodVars_none hV
  obtain ⟨xs0, b0⟩ := byt_open (hval 0 23 v0 rfl rfl) h0
  obtain ⟨xs1, b1⟩ := byt_open (hval 1 23 v1 rfl rfl) h1
  obtain ⟨x2, rfl, rfl, rfl, w2⟩ := open_int Tryd.underlying3 (hval 2 3 v2 rfl rfl) h2
  clear hA0
  refine (walk v0 xs0 v1 xs1 x2 W b0 b1 (bounds_i64 w2) (re.tables hL)).mono fun e W' ⟨he, hg⟩ => ?_
  subst he
  exact ⟨_, rfl, post_law rfl (by kernel_rfl) params rfl rfl rfl hW' hg⟩

theorem laid_met (os : Os) : laidMet Tryd.prog Rows.recordFirstsRow.laid (({ World.holding Tryd.prog os ⟨#[], #[], []⟩ with heap := ((World.holding Tryd.prog os ⟨#[], #[], []⟩).heap.modify 0 fun | .cells _ t frozen => .cells #[.int .i64 1, .int .i64 3, .int .i64 4, .int .i64 8, .int .i64 8] t frozen | o => o).modify 1 fun | .cells _ t frozen => .cells #[.int .i64 8, .int .i64 8, .int .i64 16, .int .i64 8, .int .i64 8, .int .i64 32] t frozen | o => o } : World).forCall (fun _ _ => 0) ⟨#[], #[.slice none 0 0, .slice none 0 0, .int .i64 0], []⟩).memory :=
  laidMet_of_run' 8 (by kernel_rfl) (by kernel_rfl)
theorem reads (os : Os) {H : Type} (enc : TypeId × Value → H) : ∃ places, DataW.whole enc Tryd.prog (({ World.holding Tryd.prog os ⟨#[], #[], []⟩ with heap := ((World.holding Tryd.prog os ⟨#[], #[], []⟩).heap.modify 0 fun | .cells _ t frozen => .cells #[.int .i64 1, .int .i64 3, .int .i64 4, .int .i64 8, .int .i64 8] t frozen | o => o).modify 1 fun | .cells _ t frozen => .cells #[.int .i64 8, .int .i64 8, .int .i64 16, .int .i64 8, .int .i64 8, .int .i64 32] t frozen | o => o } : World).forCall (fun _ _ => 0) ⟨#[], #[.slice none 0 0, .slice none 0 0, .int .i64 0], []⟩).memory Tryd.f6.params.toList Rows.recordFirstsSpec.vars false #[Value.slice none 0 0, Value.slice none 0 0, Value.int .i64 0].toList 8 = some ([.nil, .nil, .lit (.int .i64 0)], [], places) :=
  ⟨[], by kernel_rfl⟩

set_option maxRecDepth 100000 in
theorem lifted (os : Os) (started : os.Started) (H : Type) (enc : TypeId × Value → H) (F : Stop.Interp) :
    ReturnsInHanded {} Tryd.checked os 6 .any ((OpenSpec.ofChange Rows.recordFirstsSpec).preRow enc Tryd.prog Tryd.f6 Rows.recordFirstsRow.domain false Rows.recordFirstsRow.laid) (((OpenSpec.ofChange Rows.recordFirstsSpec).at F).post enc Tryd.prog Tryd.f6 false true false false) := by
  obtain ⟨places, hx⟩ := reads os enc
  refine returnsInHanded_of_row (C := Tryd.checked) (s := OpenSpec.ofChange Rows.recordFirstsSpec) own started (by kernel_rfl) Tryd.func6
    (witness_row_at (enc := enc) (C := Tryd.checked) false ({ World.holding Tryd.prog os ⟨#[], #[], []⟩ with heap := ((World.holding Tryd.prog os ⟨#[], #[], []⟩).heap.modify 0 fun | .cells _ t frozen => .cells #[.int .i64 1, .int .i64 3, .int .i64 4, .int .i64 8, .int .i64 8] t frozen | o => o).modify 1 fun | .cells _ t frozen => .cells #[.int .i64 8, .int .i64 8, .int .i64 16, .int .i64 8, .int .i64 8, .int .i64 32] t frozen | o => o } : World) #[.slice none 0 0, .slice none 0 0, .int .i64 0] rfl (by kernel_rfl) (by kernel_rfl) (by kernel_rfl)
      (OpenSpec.preRow_of_cond 8 hx (by kernel_rfl) (fun k hk => by cases hk) (by kernel_rfl) (laid_met os))) ?_
  intro W base args ds gs before hval hW _ _ _ hL _ _
  exact contract H enc W base args ds gs before hval hW hL

theorem said : Rows.RecordFirstsSaid :=
  OpenClaim.holds_of_cond 6 Tryd.f6 rfl rfl rfl rfl rfl rfl rfl ⟨rfl, rfl, rfl, rfl, rfl⟩ rfl rfl rfl rfl rfl (by kernel_rfl) Tryd.func6 (by kernel_rfl)
    (of_decide_eq_true (by kernel_rfl)) (by unfold Func.isWrapper; first | (rw [if_pos (by decide +kernel)]; kernel_rfl) | (rw [if_neg (by decide +kernel)]; exact ⟨rfl, rfl⟩))
    (fun os started H enc _ F => by rw [OpenClaim.pre_eq_preRow]; exact lifted os started H enc F)

theorem plain (f : FuncId) (fn : Func) (hf : Tryd.pinned.checked.prog.funcNamed "nepenthe/nepenthelaw18.RecordFirsts" = some f) (hfn : Tryd.pinned.checked.prog.funcs[f]? = some fn) :
    false = Tryd.pinned.checked.prog.looks [] ∧ ∀ (j : Nat) t, fn.params[j]? = some t → Tryd.pinned.checked.prog.wantsStandIn t = false := by
  obtain rfl : f = 6 := Option.some.inj ((show Tryd.prog.funcNamed "nepenthe/nepenthelaw18.RecordFirsts" = some 6 by kernel_rfl).symm.trans hf) |>.symm
  obtain rfl : fn = Tryd.f6 := (Option.some.inj (Tryd.func6.symm.trans hfn)).symm
  refine ⟨by kernel_rfl, fun j t ht => ?_⟩
  rw [Tryd.params6] at ht
  have hm := Array.mem_of_getElem? ht
  simp at hm
  rcases hm with rfl | rfl
  · exact (show Tryd.prog.wantsStandIn 23 = false by kernel_rfl)
  · exact (show Tryd.prog.wantsStandIn 3 = false by kernel_rfl)
end Go.Proofs.YtmbfccclghnaeaaDoor.recordFirsts

namespace Go.Proofs.YtmbfccclghnaeaaDoor
theorem recordFirsts_card : Rows.RecordFirstsCardSaid :=
  Claim7.holds_tied_plain_at .later [] _ _ _ _ recordFirsts.said (fun _ h => by cases h) (by kernel_rfl) (fun _ h => by cases h) recordFirsts_row_tie rfl ⟨rfl, rfl⟩ (by kernel_rfl) rfl recordFirsts.plain (by kernel_rfl)
#print axioms recordFirsts_card
end Go.Proofs.YtmbfccclghnaeaaDoor
