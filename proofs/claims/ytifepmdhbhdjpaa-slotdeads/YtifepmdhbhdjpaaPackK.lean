/- Texts put together (a claim holds few files). No claim of its own. -/
import Derived.Test.YtifepmdhbhdjpaaPackE
import Derived.Test.YtifepmdhbhdjpaaPackJ
import Derived.Test.YtifepmdhbhdjpaaPackH
import Derived.Test.YtifepmdhbhdjpaaPackB
/- What slot's Make answers. No claim of its own. -/
namespace Go.Proofs.Ytifepmdhbhdjpaa.so
open Go.RowKit Go.Proofs.Ytifepmdhbhdjpaa.fa Go.Proofs.Ytifepmdhbhdjpaa.he Go.Proofs.Ytifepmdhbhdjpaa.wr
set_option maxRecDepth 20000

set_option maxHeartbeats 4000000 in
theorem make_size (kv bv : Value) (ks bs : List Int) (n k n' c l e t : Int) (w : World) (hk : Byt w kv ks) (hb : Byt w bv bs) (hs : ¬ (1 ≤ n ∧ n ≤ 65535)) :
    Calls Try.prog 6 #[kv, .int .i64 n, .agg (he.hv k n' c l e t).toArray, bv] w fun x w' => x = .returned (.tuple #[.agg (sv false 0 0 0 (.slice none 0 0)).toArray, .int .i64 2]) ∧ Below w.heap.size w w' := by
  have SZ : Hid (∀ w0, Calls Try.prog 18 #[.int .i64 n] w0 fun x w' => x = .returned (.bool false) ∧ Below w0.heap.size w0 w') := fun w0 => (size_any n w0 false ((decide_eq_false hs).symm)).mono fun _ _ ⟨h1, h2⟩ => ⟨h1, by rw [h2]; exact Below.refl _ _⟩
  obtain ⟨ko, kc, rfl⟩ := form hk
  obtain ⟨bo, bc, rfl⟩ := form hb
  clear hk hb hs
  have t0 : (0 : Nat) = 0 := rfl
  go_enter Try.func6, Try.ntmps6
  go_wp2_with (first
    | (have q4 := t4; (with_reducible refine at_store ?_); refine store_lawC _ (sv false 0 0 0 (.slice none 0 0)) w1.heap.size 0 rfl rfl HR.out.2 rowy_slot.2 (sv_one _ _ _ _ rfl) ?_; intro w4 E9 R9 T9 B9; have K9 : ∀ k, k ≠ w1.heap.size → w4.heap[k]? = w3.heap[k]? := (by rw [E9.out]; exact fun k hk => heap_cells _ _ _ _ k hk); have HB0 : Hid (Vr w4 w.heap.size (he.hv k n' c l e t)) := HB0.out.heap (K9 _ (Nat.ne_of_lt LT_HB0_HR.out)); have NB_HR : Hid (NoB w4 w1.heap.size) := (by rw [E9.out]; exact NB_HR.out.set HR.out rfl (sv_nob _ _ _ _ _ _ _)); have HR : Hid (Vr w4 w1.heap.size (sv false 0 0 0 (.slice none 0 0))) := ⟨R9, T9⟩; have BB : Hid (Below w.heap.size w w4) := BB.out.trans (B9.mono LE_HR.out); clear hb0_0 hb0_1 hb0_2 hb0_3 hb0_4 hb0_5; have hb0_0 := HB0.out.cell 0 _ rfl; have hb0_1 := HB0.out.cell 1 _ rfl; have hb0_2 := HB0.out.cell 2 _ rfl; have hb0_3 := HB0.out.cell 3 _ rfl; have hb0_4 := HB0.out.cell 4 _ rfl; have hb0_5 := HB0.out.cell 5 _ rfl; clear E9 R9 T9 B9 K9; clear t4; have t5 : (1 : Nat) = 1 := rfl)
    | (have q3 := t3; refine build_law _ rfl 29 _ rfl (.agg (sv false 0 0 0 (.slice none 0 0)).toArray) (by kernel_rfl) ?_; clear t3; have t4 : (1 : Nat) = 1 := rfl)
    | (have q2 := t2; go_at_call 18; refine (SZ.out w2).mono ?_; rintro e9 w3 ⟨rfl, B9⟩; have HB0 : Hid (Vr w3 w.heap.size (he.hv k n' c l e t)) := HB0.out.below B9 (range_lt HB0.out.1 (Nat.succ_pos _)); have NB_HR : Hid (NoB w3 w1.heap.size) := NB_HR.out.heap (B9.block _ (range_lt HR.out.1 (Nat.succ_pos _))); have HR : Hid (Vr w3 w1.heap.size (sv false 0 0 0 (.slice none 0 0))) := HR.out.below B9 (range_lt HR.out.1 (Nat.succ_pos _)); have BB : Hid (Below w.heap.size w w3) := BB.out.trans (B9.mono BB.out.size); clear hb0_0 hb0_1 hb0_2 hb0_3 hb0_4 hb0_5; have hb0_0 := HB0.out.cell 0 _ rfl; have hb0_1 := HB0.out.cell 1 _ rfl; have hb0_2 := HB0.out.cell 2 _ rfl; have hb0_3 := HB0.out.cell 3 _ rfl; have hb0_4 := HB0.out.cell 4 _ rfl; have hb0_5 := HB0.out.cell 5 _ rfl; clear B9; clear t2; have t3 : (1 : Nat) = 1 := rfl)
    | (have q1 := t1; (with_reducible refine at_alloc ?_); refine new_lawN _ (sv false 0 0 0 (.slice none 0 0)) zero_slot (sv_nob _ _ _ _ _ _ _) ?_; intro w2 X9 N9 B9; have LT_HB0_HR : Hid (w.heap.size < w1.heap.size) := range_lt HB0.out.1 (Nat.succ_pos _); have LE_HR : Hid (w.heap.size ≤ w1.heap.size) := BB.out.size; have HB0 : Hid (Vr w2 w.heap.size (he.hv k n' c l e t)) := HB0.out.below B9 (range_lt HB0.out.1 (Nat.succ_pos _)); have HR : Hid (Vr w2 w1.heap.size (sv false 0 0 0 (.slice none 0 0))) := X9; have NB_HR : Hid (NoB w2 w1.heap.size) := N9; have BB : Hid (Below w.heap.size w w2) := BB.out.trans (B9.mono BB.out.size); clear hb0_0 hb0_1 hb0_2 hb0_3 hb0_4 hb0_5; have hb0_0 := HB0.out.cell 0 _ rfl; have hb0_1 := HB0.out.cell 1 _ rfl; have hb0_2 := HB0.out.cell 2 _ rfl; have hb0_3 := HB0.out.cell 3 _ rfl; have hb0_4 := HB0.out.cell 4 _ rfl; have hb0_5 := HB0.out.cell 5 _ rfl; clear X9 N9 B9; clear t1; have t2 : (1 : Nat) = 1 := rfl)
    | (have q0 := t0; refine box_lawC _ (he.hv k n' c l e t) rfl ?_; intro w1 X9 B9 l9; have HB0 : Hid (Vr w1 w.heap.size (he.hv k n' c l e t)) := X9; have BB : Hid (Below w.heap.size w w1) := B9; have hb0_0 := HB0.out.cell 0 _ rfl; have hb0_1 := HB0.out.cell 1 _ rfl; have hb0_2 := HB0.out.cell 2 _ rfl; have hb0_3 := HB0.out.cell 3 _ rfl; have hb0_4 := HB0.out.cell 4 _ rfl; have hb0_5 := HB0.out.cell 5 _ rfl; clear X9 B9 l9; clear t0; have t1 : (1 : Nat) = 1 := rfl))
  exact bodyPost_ret (v := .tuple #[.agg (sv false 0 0 0 (.slice none 0 0)).toArray, .int .i64 2]) (results_cv rfl _ _ w1.heap.size _ _ rowy_slot rfl rfl HR.out.1) rfl ⟨rfl, BB.out⟩

set_option maxHeartbeats 4000000 in
theorem make_len (kv bv : Value) (ks bs : List Int) (n k n' c l e t : Int) (w : World) (hk : Byt w kv ks) (hb : Byt w bv bs) (hs : 1 ≤ n ∧ n ≤ 65535) (hl : bs.length ≠ 96) :
    Calls Try.prog 6 #[kv, .int .i64 n, .agg (he.hv k n' c l e t).toArray, bv] w fun x w' => x = .returned (.tuple #[.agg (sv false 0 0 0 (.slice none 0 0)).toArray, .int .i64 2]) ∧ Below w.heap.size w w' := by
  have SZ : Hid (∀ w0, Calls Try.prog 18 #[.int .i64 n] w0 fun x w' => x = .returned (.bool true) ∧ Below w0.heap.size w0 w') := fun w0 => (size_any n w0 true ((decide_eq_true hs).symm)).mono fun _ _ ⟨h1, h2⟩ => ⟨h1, by rw [h2]; exact Below.refl _ _⟩
  obtain ⟨ko, kc, rfl⟩ := form hk
  obtain ⟨bo, bc, rfl⟩ := form hb
  have n96 : ((bs.length : Int) != 96) = true := bne_iff_ne.2 (by omega)
  clear hk hb hs hl
  have t0 : (0 : Nat) = 0 := rfl
  go_enter Try.func6, Try.ntmps6
  go_wp2_with (first
    | (have q4 := t4; (with_reducible refine at_store ?_); refine store_lawC _ (sv false 0 0 0 (.slice none 0 0)) w1.heap.size 0 rfl rfl HR.out.2 rowy_slot.2 (sv_one _ _ _ _ rfl) ?_; intro w4 E9 R9 T9 B9; have K9 : ∀ k, k ≠ w1.heap.size → w4.heap[k]? = w3.heap[k]? := (by rw [E9.out]; exact fun k hk => heap_cells _ _ _ _ k hk); have HB0 : Hid (Vr w4 w.heap.size (he.hv k n' c l e t)) := HB0.out.heap (K9 _ (Nat.ne_of_lt LT_HB0_HR.out)); have NB_HR : Hid (NoB w4 w1.heap.size) := (by rw [E9.out]; exact NB_HR.out.set HR.out rfl (sv_nob _ _ _ _ _ _ _)); have HR : Hid (Vr w4 w1.heap.size (sv false 0 0 0 (.slice none 0 0))) := ⟨R9, T9⟩; have BB : Hid (Below w.heap.size w w4) := BB.out.trans (B9.mono LE_HR.out); clear hb0_0 hb0_1 hb0_2 hb0_3 hb0_4 hb0_5; have hb0_0 := HB0.out.cell 0 _ rfl; have hb0_1 := HB0.out.cell 1 _ rfl; have hb0_2 := HB0.out.cell 2 _ rfl; have hb0_3 := HB0.out.cell 3 _ rfl; have hb0_4 := HB0.out.cell 4 _ rfl; have hb0_5 := HB0.out.cell 5 _ rfl; clear E9 R9 T9 B9 K9; clear t4; have t5 : (1 : Nat) = 1 := rfl)
    | (have q3 := t3; refine build_law _ rfl 29 _ rfl (.agg (sv false 0 0 0 (.slice none 0 0)).toArray) (by kernel_rfl) ?_; clear t3; have t4 : (1 : Nat) = 1 := rfl)
    | (have q2 := t2; go_at_call 18; refine (SZ.out w2).mono ?_; rintro e9 w3 ⟨rfl, B9⟩; have HB0 : Hid (Vr w3 w.heap.size (he.hv k n' c l e t)) := HB0.out.below B9 (range_lt HB0.out.1 (Nat.succ_pos _)); have NB_HR : Hid (NoB w3 w1.heap.size) := NB_HR.out.heap (B9.block _ (range_lt HR.out.1 (Nat.succ_pos _))); have HR : Hid (Vr w3 w1.heap.size (sv false 0 0 0 (.slice none 0 0))) := HR.out.below B9 (range_lt HR.out.1 (Nat.succ_pos _)); have BB : Hid (Below w.heap.size w w3) := BB.out.trans (B9.mono BB.out.size); clear hb0_0 hb0_1 hb0_2 hb0_3 hb0_4 hb0_5; have hb0_0 := HB0.out.cell 0 _ rfl; have hb0_1 := HB0.out.cell 1 _ rfl; have hb0_2 := HB0.out.cell 2 _ rfl; have hb0_3 := HB0.out.cell 3 _ rfl; have hb0_4 := HB0.out.cell 4 _ rfl; have hb0_5 := HB0.out.cell 5 _ rfl; clear B9; clear t2; have t3 : (1 : Nat) = 1 := rfl)
    | (have q1 := t1; (with_reducible refine at_alloc ?_); refine new_lawN _ (sv false 0 0 0 (.slice none 0 0)) zero_slot (sv_nob _ _ _ _ _ _ _) ?_; intro w2 X9 N9 B9; have LT_HB0_HR : Hid (w.heap.size < w1.heap.size) := range_lt HB0.out.1 (Nat.succ_pos _); have LE_HR : Hid (w.heap.size ≤ w1.heap.size) := BB.out.size; have HB0 : Hid (Vr w2 w.heap.size (he.hv k n' c l e t)) := HB0.out.below B9 (range_lt HB0.out.1 (Nat.succ_pos _)); have HR : Hid (Vr w2 w1.heap.size (sv false 0 0 0 (.slice none 0 0))) := X9; have NB_HR : Hid (NoB w2 w1.heap.size) := N9; have BB : Hid (Below w.heap.size w w2) := BB.out.trans (B9.mono BB.out.size); clear hb0_0 hb0_1 hb0_2 hb0_3 hb0_4 hb0_5; have hb0_0 := HB0.out.cell 0 _ rfl; have hb0_1 := HB0.out.cell 1 _ rfl; have hb0_2 := HB0.out.cell 2 _ rfl; have hb0_3 := HB0.out.cell 3 _ rfl; have hb0_4 := HB0.out.cell 4 _ rfl; have hb0_5 := HB0.out.cell 5 _ rfl; clear X9 N9 B9; clear t1; have t2 : (1 : Nat) = 1 := rfl)
    | (have q0 := t0; refine box_lawC _ (he.hv k n' c l e t) rfl ?_; intro w1 X9 B9 l9; have HB0 : Hid (Vr w1 w.heap.size (he.hv k n' c l e t)) := X9; have BB : Hid (Below w.heap.size w w1) := B9; have hb0_0 := HB0.out.cell 0 _ rfl; have hb0_1 := HB0.out.cell 1 _ rfl; have hb0_2 := HB0.out.cell 2 _ rfl; have hb0_3 := HB0.out.cell 3 _ rfl; have hb0_4 := HB0.out.cell 4 _ rfl; have hb0_5 := HB0.out.cell 5 _ rfl; clear X9 B9 l9; clear t0; have t1 : (1 : Nat) = 1 := rfl))
  exact bodyPost_ret (v := .tuple #[.agg (sv false 0 0 0 (.slice none 0 0)).toArray, .int .i64 2]) (results_cv rfl _ _ w1.heap.size _ _ rowy_slot rfl rfl HR.out.1) rfl ⟨rfl, BB.out⟩

set_option maxHeartbeats 4000000 in
theorem make_kek (kv bv : Value) (ks bs : List Int) (n k n' c l e t : Int) (w : World) (hk : Byt w kv ks) (hb : Byt w bv bs) (hs : 1 ≤ n ∧ n ≤ 65535) (hl : bs.length = 96) (hq : ks.length ≠ 32) :
    Calls Try.prog 6 #[kv, .int .i64 n, .agg (he.hv k n' c l e t).toArray, bv] w fun x w' => x = .returned (.tuple #[.agg (sv false 0 0 0 (.slice none 0 0)).toArray, .int .i64 2]) ∧ Below w.heap.size w w' := by
  have SZ : Hid (∀ w0, Calls Try.prog 18 #[.int .i64 n] w0 fun x w' => x = .returned (.bool true) ∧ Below w0.heap.size w0 w') := fun w0 => (size_any n w0 true ((decide_eq_true hs).symm)).mono fun _ _ ⟨h1, h2⟩ => ⟨h1, by rw [h2]; exact Below.refl _ _⟩
  have SW : Hid (∀ w0, Below w.heap.size w w0 → Calls Try.prog 19 #[kv, bv] w0 fun x w' => x = .returned (.tuple #[.slice none 0 0, .int .i64 2]) ∧ Below w0.heap.size w0 w') := fun w0 q => wrap_no kv bv ks bs w0 (hk.below q) (hb.below q) fun z => hq z.1
  obtain ⟨ko, kc, rfl⟩ := form hk
  obtain ⟨bo, bc, rfl⟩ := byt_form hb hl
  clear hk hb hs hl hq
  have t0 : (0 : Nat) = 0 := rfl
  go_enter Try.func6, Try.ntmps6
  go_wp2_with (first
    | (have q5 := t5; (with_reducible refine at_store ?_); refine store_lawC _ (sv false 0 0 0 (.slice none 0 0)) w1.heap.size 0 rfl rfl HR.out.2 rowy_slot.2 (sv_one _ _ _ _ rfl) ?_; intro w5 E9 R9 T9 B9; have K9 : ∀ k, k ≠ w1.heap.size → w5.heap[k]? = w4.heap[k]? := (by rw [E9.out]; exact fun k hk => heap_cells _ _ _ _ k hk); have HB0 : Hid (Vr w5 w.heap.size (he.hv k n' c l e t)) := HB0.out.heap (K9 _ (Nat.ne_of_lt LT_HB0_HR.out)); have NB_HR : Hid (NoB w5 w1.heap.size) := (by rw [E9.out]; exact NB_HR.out.set HR.out rfl (sv_nob _ _ _ _ _ _ _)); have HR : Hid (Vr w5 w1.heap.size (sv false 0 0 0 (.slice none 0 0))) := ⟨R9, T9⟩; have BB : Hid (Below w.heap.size w w5) := BB.out.trans (B9.mono LE_HR.out); clear hb0_0 hb0_1 hb0_2 hb0_3 hb0_4 hb0_5; have hb0_0 := HB0.out.cell 0 _ rfl; have hb0_1 := HB0.out.cell 1 _ rfl; have hb0_2 := HB0.out.cell 2 _ rfl; have hb0_3 := HB0.out.cell 3 _ rfl; have hb0_4 := HB0.out.cell 4 _ rfl; have hb0_5 := HB0.out.cell 5 _ rfl; clear E9 R9 T9 B9 K9; clear t5; have t6 : (1 : Nat) = 1 := rfl)
    | (have q4 := t4; refine build_law _ rfl 29 _ rfl (.agg (sv false 0 0 0 (.slice none 0 0)).toArray) (by kernel_rfl) ?_; clear t4; have t5 : (1 : Nat) = 1 := rfl)
    | (have q3 := t3; go_at_call 19; refine (SW.out w3 BB.out).mono ?_; rintro e9 w4 ⟨rfl, B9⟩; have HB0 : Hid (Vr w4 w.heap.size (he.hv k n' c l e t)) := HB0.out.below B9 (range_lt HB0.out.1 (Nat.succ_pos _)); have NB_HR : Hid (NoB w4 w1.heap.size) := NB_HR.out.heap (B9.block _ (range_lt HR.out.1 (Nat.succ_pos _))); have HR : Hid (Vr w4 w1.heap.size (sv false 0 0 0 (.slice none 0 0))) := HR.out.below B9 (range_lt HR.out.1 (Nat.succ_pos _)); have BB : Hid (Below w.heap.size w w4) := BB.out.trans (B9.mono BB.out.size); clear hb0_0 hb0_1 hb0_2 hb0_3 hb0_4 hb0_5; have hb0_0 := HB0.out.cell 0 _ rfl; have hb0_1 := HB0.out.cell 1 _ rfl; have hb0_2 := HB0.out.cell 2 _ rfl; have hb0_3 := HB0.out.cell 3 _ rfl; have hb0_4 := HB0.out.cell 4 _ rfl; have hb0_5 := HB0.out.cell 5 _ rfl; clear B9; clear t3; have t4 : (1 : Nat) = 1 := rfl)
    | (have q2 := t2; go_at_call 18; refine (SZ.out w2).mono ?_; rintro e9 w3 ⟨rfl, B9⟩; have HB0 : Hid (Vr w3 w.heap.size (he.hv k n' c l e t)) := HB0.out.below B9 (range_lt HB0.out.1 (Nat.succ_pos _)); have NB_HR : Hid (NoB w3 w1.heap.size) := NB_HR.out.heap (B9.block _ (range_lt HR.out.1 (Nat.succ_pos _))); have HR : Hid (Vr w3 w1.heap.size (sv false 0 0 0 (.slice none 0 0))) := HR.out.below B9 (range_lt HR.out.1 (Nat.succ_pos _)); have BB : Hid (Below w.heap.size w w3) := BB.out.trans (B9.mono BB.out.size); clear hb0_0 hb0_1 hb0_2 hb0_3 hb0_4 hb0_5; have hb0_0 := HB0.out.cell 0 _ rfl; have hb0_1 := HB0.out.cell 1 _ rfl; have hb0_2 := HB0.out.cell 2 _ rfl; have hb0_3 := HB0.out.cell 3 _ rfl; have hb0_4 := HB0.out.cell 4 _ rfl; have hb0_5 := HB0.out.cell 5 _ rfl; clear B9; clear t2; have t3 : (1 : Nat) = 1 := rfl)
    | (have q1 := t1; (with_reducible refine at_alloc ?_); refine new_lawN _ (sv false 0 0 0 (.slice none 0 0)) zero_slot (sv_nob _ _ _ _ _ _ _) ?_; intro w2 X9 N9 B9; have LT_HB0_HR : Hid (w.heap.size < w1.heap.size) := range_lt HB0.out.1 (Nat.succ_pos _); have LE_HR : Hid (w.heap.size ≤ w1.heap.size) := BB.out.size; have HB0 : Hid (Vr w2 w.heap.size (he.hv k n' c l e t)) := HB0.out.below B9 (range_lt HB0.out.1 (Nat.succ_pos _)); have HR : Hid (Vr w2 w1.heap.size (sv false 0 0 0 (.slice none 0 0))) := X9; have NB_HR : Hid (NoB w2 w1.heap.size) := N9; have BB : Hid (Below w.heap.size w w2) := BB.out.trans (B9.mono BB.out.size); clear hb0_0 hb0_1 hb0_2 hb0_3 hb0_4 hb0_5; have hb0_0 := HB0.out.cell 0 _ rfl; have hb0_1 := HB0.out.cell 1 _ rfl; have hb0_2 := HB0.out.cell 2 _ rfl; have hb0_3 := HB0.out.cell 3 _ rfl; have hb0_4 := HB0.out.cell 4 _ rfl; have hb0_5 := HB0.out.cell 5 _ rfl; clear X9 N9 B9; clear t1; have t2 : (1 : Nat) = 1 := rfl)
    | (have q0 := t0; refine box_lawC _ (he.hv k n' c l e t) rfl ?_; intro w1 X9 B9 l9; have HB0 : Hid (Vr w1 w.heap.size (he.hv k n' c l e t)) := X9; have BB : Hid (Below w.heap.size w w1) := B9; have hb0_0 := HB0.out.cell 0 _ rfl; have hb0_1 := HB0.out.cell 1 _ rfl; have hb0_2 := HB0.out.cell 2 _ rfl; have hb0_3 := HB0.out.cell 3 _ rfl; have hb0_4 := HB0.out.cell 4 _ rfl; have hb0_5 := HB0.out.cell 5 _ rfl; clear X9 B9 l9; clear t0; have t1 : (1 : Nat) = 1 := rfl))
  exact bodyPost_ret (v := .tuple #[.agg (sv false 0 0 0 (.slice none 0 0)).toArray, .int .i64 2]) (results_cv rfl _ _ w1.heap.size _ _ rowy_slot rfl rfl HR.out.1) rfl ⟨rfl, BB.out⟩

/-- what can't be made -/
theorem make_no (kv bv : Value) (ks bs : List Int) (n k n' c l e t : Int) (w : World) (hk : Byt w kv ks) (hb : Byt w bv bs) (h : ¬ (1 ≤ n ∧ n ≤ 65535 ∧ bs.length = 96 ∧ ks.length = 32)) :
    Calls Try.prog 6 #[kv, .int .i64 n, .agg (he.hv k n' c l e t).toArray, bv] w fun x w' => x = .returned (.tuple #[.agg (sv false 0 0 0 (.slice none 0 0)).toArray, .int .i64 2]) ∧ Below w.heap.size w w' := by
  by_cases h1 : 1 ≤ n ∧ n ≤ 65535
  · by_cases h2 : bs.length = 96
    · exact make_kek kv bv ks bs n k n' c l e t w hk hb h1 h2 fun q => h ⟨h1.1, h1.2, h2, q⟩
    · exact make_len kv bv ks bs n k n' c l e t w hk hb h1 h2
  · exact make_size kv bv ks bs n k n' c l e t w hk hb h1

set_option maxHeartbeats 4000000 in
theorem make_yes (kv bv : Value) (ks bs : List Int) (n k n' c l e t : Int) (w : World) (hk : Byt w kv ks) (hb : Byt w bv bs) (hs : 1 ≤ n ∧ n ≤ 65535) (hl : bs.length = 96) (hq : ks.length = 32) :
    Calls Try.prog 6 #[kv, .int .i64 n, .agg (he.hv k n' c l e t).toArray, bv] w fun x w' => ∃ wo wc, x = .returned (.tuple #[.agg (sv true n e t (.slice wo 104 wc)).toArray, .int .i64 0]) ∧ Byt w' (.slice wo 104 wc) (wrapped ks bs 12) ∧ Below w.heap.size w w' := by
  have SZ : Hid (∀ w0, Calls Try.prog 18 #[.int .i64 n] w0 fun x w' => x = .returned (.bool true) ∧ Below w0.heap.size w0 w') := fun w0 => (size_any n w0 true ((decide_eq_true hs).symm)).mono fun _ _ ⟨h1, h2⟩ => ⟨h1, by rw [h2]; exact Below.refl _ _⟩
  have SW : Hid (∀ w0, Below w.heap.size w w0 → Calls Try.prog 19 #[kv, bv] w0 fun x w' => ∃ wo wc, x = .returned (.tuple #[.slice wo 104 wc, .int .i64 0]) ∧ Byt w' (.slice wo 104 wc) (wrapped ks bs 12) ∧ Below w0.heap.size w0 w') := fun w0 q => (wrap_any kv bv ks bs 12 w0 (hk.below q) hq (hb.below q) hl (by omega) (by omega)).mono fun _ _ ⟨v, h1, h2, h3⟩ => by
    obtain ⟨wo, wc, rfl⟩ := byt_form h2 (wrapped_fit ks hq hk.all bs 12 (by omega) hl hb.all).1
    exact ⟨wo, wc, h1, h2, h3⟩
  obtain ⟨bo, bc, rfl⟩ := byt_form hb hl
  obtain ⟨ko, kc, rfl⟩ := byt_form hk hq
  generalize wrapped ks bs 12 = X at SW ⊢
  clear hk hb hs hl hq
  have t0 : (0 : Nat) = 0 := rfl
  go_enter Try.func6, Try.ntmps6
  go_wp2_with (first
    | (have q4 := t4; (with_reducible refine at_store ?_); refine store_lawC _ (sv true n e t (.slice wo 104 wc)) w1.heap.size 0 rfl rfl HR.out.2 rowy_slot.2 (sv_one _ _ _ _ rfl) ?_; intro w5 E9 R9 T9 B9; have K9 : ∀ k, k ≠ w1.heap.size → w5.heap[k]? = w4.heap[k]? := (by rw [E9.out]; exact fun k hk => heap_cells _ _ _ _ k hk); have HB0 : Hid (Vr w5 w.heap.size (he.hv k n' c l e t)) := HB0.out.heap (K9 _ (Nat.ne_of_lt LT_HB0_HR.out)); have HW : Hid (Byt w5 (.slice wo 104 wc) X) := byt_nob HW.out NB_HR.out K9; have NB_HR : Hid (NoB w5 w1.heap.size) := (by rw [E9.out]; exact NB_HR.out.set HR.out rfl (sv_nob _ _ _ _ _ _ _)); have HR : Hid (Vr w5 w1.heap.size (sv true n e t (.slice wo 104 wc))) := ⟨R9, T9⟩; have BB : Hid (Below w.heap.size w w5) := BB.out.trans (B9.mono LE_HR.out); clear hb0_0 hb0_1 hb0_2 hb0_3 hb0_4 hb0_5; have hb0_0 := HB0.out.cell 0 _ rfl; have hb0_1 := HB0.out.cell 1 _ rfl; have hb0_2 := HB0.out.cell 2 _ rfl; have hb0_3 := HB0.out.cell 3 _ rfl; have hb0_4 := HB0.out.cell 4 _ rfl; have hb0_5 := HB0.out.cell 5 _ rfl; clear E9 R9 T9 B9 K9; clear t4; have t5 : (1 : Nat) = 1 := rfl)
    | (have q3 := t3; go_at_call 19; refine (SW.out w3 BB.out).mono ?_; rintro e9 w4 ⟨wo, wc, rfl, Y9, B9⟩; have HB0 : Hid (Vr w4 w.heap.size (he.hv k n' c l e t)) := HB0.out.below B9 (range_lt HB0.out.1 (Nat.succ_pos _)); have NB_HR : Hid (NoB w4 w1.heap.size) := NB_HR.out.heap (B9.block _ (range_lt HR.out.1 (Nat.succ_pos _))); have HR : Hid (Vr w4 w1.heap.size (sv false 0 0 0 (.slice none 0 0))) := HR.out.below B9 (range_lt HR.out.1 (Nat.succ_pos _)); have HW : Hid (Byt w4 (.slice wo 104 wc) X) := Y9; have BB : Hid (Below w.heap.size w w4) := BB.out.trans (B9.mono BB.out.size); clear hb0_0 hb0_1 hb0_2 hb0_3 hb0_4 hb0_5; have hb0_0 := HB0.out.cell 0 _ rfl; have hb0_1 := HB0.out.cell 1 _ rfl; have hb0_2 := HB0.out.cell 2 _ rfl; have hb0_3 := HB0.out.cell 3 _ rfl; have hb0_4 := HB0.out.cell 4 _ rfl; have hb0_5 := HB0.out.cell 5 _ rfl; clear B9 Y9; clear t3; have t4 : (1 : Nat) = 1 := rfl)
    | (have q2 := t2; go_at_call 18; refine (SZ.out w2).mono ?_; rintro e9 w3 ⟨rfl, B9⟩; have HB0 : Hid (Vr w3 w.heap.size (he.hv k n' c l e t)) := HB0.out.below B9 (range_lt HB0.out.1 (Nat.succ_pos _)); have NB_HR : Hid (NoB w3 w1.heap.size) := NB_HR.out.heap (B9.block _ (range_lt HR.out.1 (Nat.succ_pos _))); have HR : Hid (Vr w3 w1.heap.size (sv false 0 0 0 (.slice none 0 0))) := HR.out.below B9 (range_lt HR.out.1 (Nat.succ_pos _)); have BB : Hid (Below w.heap.size w w3) := BB.out.trans (B9.mono BB.out.size); clear hb0_0 hb0_1 hb0_2 hb0_3 hb0_4 hb0_5; have hb0_0 := HB0.out.cell 0 _ rfl; have hb0_1 := HB0.out.cell 1 _ rfl; have hb0_2 := HB0.out.cell 2 _ rfl; have hb0_3 := HB0.out.cell 3 _ rfl; have hb0_4 := HB0.out.cell 4 _ rfl; have hb0_5 := HB0.out.cell 5 _ rfl; clear B9; clear t2; have t3 : (1 : Nat) = 1 := rfl)
    | (have q1 := t1; (with_reducible refine at_alloc ?_); refine new_lawN _ (sv false 0 0 0 (.slice none 0 0)) zero_slot (sv_nob _ _ _ _ _ _ _) ?_; intro w2 X9 N9 B9; have LT_HB0_HR : Hid (w.heap.size < w1.heap.size) := range_lt HB0.out.1 (Nat.succ_pos _); have LE_HR : Hid (w.heap.size ≤ w1.heap.size) := BB.out.size; have HB0 : Hid (Vr w2 w.heap.size (he.hv k n' c l e t)) := HB0.out.below B9 (range_lt HB0.out.1 (Nat.succ_pos _)); have HR : Hid (Vr w2 w1.heap.size (sv false 0 0 0 (.slice none 0 0))) := X9; have NB_HR : Hid (NoB w2 w1.heap.size) := N9; have BB : Hid (Below w.heap.size w w2) := BB.out.trans (B9.mono BB.out.size); clear hb0_0 hb0_1 hb0_2 hb0_3 hb0_4 hb0_5; have hb0_0 := HB0.out.cell 0 _ rfl; have hb0_1 := HB0.out.cell 1 _ rfl; have hb0_2 := HB0.out.cell 2 _ rfl; have hb0_3 := HB0.out.cell 3 _ rfl; have hb0_4 := HB0.out.cell 4 _ rfl; have hb0_5 := HB0.out.cell 5 _ rfl; clear X9 N9 B9; clear t1; have t2 : (1 : Nat) = 1 := rfl)
    | (have q0 := t0; refine box_lawC _ (he.hv k n' c l e t) rfl ?_; intro w1 X9 B9 l9; have HB0 : Hid (Vr w1 w.heap.size (he.hv k n' c l e t)) := X9; have BB : Hid (Below w.heap.size w w1) := B9; have hb0_0 := HB0.out.cell 0 _ rfl; have hb0_1 := HB0.out.cell 1 _ rfl; have hb0_2 := HB0.out.cell 2 _ rfl; have hb0_3 := HB0.out.cell 3 _ rfl; have hb0_4 := HB0.out.cell 4 _ rfl; have hb0_5 := HB0.out.cell 5 _ rfl; clear X9 B9 l9; clear t0; have t1 : (1 : Nat) = 1 := rfl))
  exact bodyPost_ret (v := .tuple #[.agg (sv true n e t (.slice wo 104 wc)).toArray, .int .i64 0]) (results_cv rfl _ _ w1.heap.size _ _ rowy_slot rfl rfl HR.out.1) rfl ⟨_, _, rfl, HW.out, BB.out⟩
end Go.Proofs.Ytifepmdhbhdjpaa.so

/- What the reference's Right and Same answer; a slot as the reference's. No claim of its own. -/
namespace Go.Proofs.Ytifepmdhbhdjpaa.so
open Go.RowKit Go.Proofs.Ytifepmdhbhdjpaa.fa Go.Proofs.Ytifepmdhbhdjpaa.he
set_option maxRecDepth 20000

set_option maxHeartbeats 2000000 in
theorem of_any (u : Bool) (n e t : Int) (v : Value) (xs : List Int) (w : World) (hv : Byt w v xs) :
    Calls Try.prog 8 #[.agg (sv u n e t v).toArray] w fun x w' => x = .returned (.agg (sv u n e t v).toArray) ∧ Below w.heap.size w w' := by
  obtain ⟨ao, cap, rfl⟩ := form hv
  clear hv
  have t0 : (0 : Nat) = 0 := rfl
  go_enter Try.func8, Try.ntmps8
  go_wp2_with (first
    | (have q2 := t2; (with_reducible refine at_store ?_); refine store_lawC _ (sv u n e t (.slice ao xs.length cap)) w1.heap.size 0 rfl rfl HR.out.2 rowy_rslot.2 (sv_one _ _ _ _ rfl) ?_; intro w3 E9 R9 T9 B9; have K9 : ∀ k, k ≠ w1.heap.size → w3.heap[k]? = w2.heap[k]? := (by rw [E9.out]; exact fun k hk => heap_cells _ _ _ _ k hk); have HB0 : Hid (Vr w3 w.heap.size (sv u n e t (.slice ao xs.length cap))) := HB0.out.heap (K9 _ (Nat.ne_of_lt LT_HB0_HR.out)); have NB_HR : Hid (NoB w3 w1.heap.size) := (by rw [E9.out]; exact NB_HR.out.set HR.out rfl (sv_nob _ _ _ _ _ _ _)); have HR : Hid (Vr w3 w1.heap.size (sv u n e t (.slice ao xs.length cap))) := ⟨R9, T9⟩; have BB : Hid (Below w.heap.size w w3) := BB.out.trans (B9.mono LE_HR.out); clear hb0_0 hb0_1 hb0_2 hb0_3 hb0_4; have hb0_0 := HB0.out.cell 0 _ rfl; have hb0_1 := HB0.out.cell 1 _ rfl; have hb0_2 := HB0.out.cell 2 _ rfl; have hb0_3 := HB0.out.cell 3 _ rfl; have hb0_4 := HB0.out.cell 4 _ rfl; clear E9 R9 T9 B9 K9; clear t2; have t3 : (1 : Nat) = 1 := rfl)
    | (have q1 := t1; (with_reducible refine at_alloc ?_); refine new_lawN _ (sv false 0 0 0 (.slice none 0 0)) zero_rslot (sv_nob _ _ _ _ _ _ _) ?_; intro w2 X9 N9 B9; have LT_HB0_HR : Hid (w.heap.size < w1.heap.size) := range_lt HB0.out.1 (Nat.succ_pos _); have LE_HR : Hid (w.heap.size ≤ w1.heap.size) := BB.out.size; have HB0 : Hid (Vr w2 w.heap.size (sv u n e t (.slice ao xs.length cap))) := HB0.out.below B9 (range_lt HB0.out.1 (Nat.succ_pos _)); have HR : Hid (Vr w2 w1.heap.size (sv false 0 0 0 (.slice none 0 0))) := X9; have NB_HR : Hid (NoB w2 w1.heap.size) := N9; have BB : Hid (Below w.heap.size w w2) := BB.out.trans (B9.mono BB.out.size); clear hb0_0 hb0_1 hb0_2 hb0_3 hb0_4; have hb0_0 := HB0.out.cell 0 _ rfl; have hb0_1 := HB0.out.cell 1 _ rfl; have hb0_2 := HB0.out.cell 2 _ rfl; have hb0_3 := HB0.out.cell 3 _ rfl; have hb0_4 := HB0.out.cell 4 _ rfl; clear X9 N9 B9; clear t1; have t2 : (1 : Nat) = 1 := rfl)
    | (have q0 := t0; refine box_lawC _ (sv u n e t (.slice ao xs.length cap)) rfl ?_; intro w1 X9 B9 l9; have HB0 : Hid (Vr w1 w.heap.size (sv u n e t (.slice ao xs.length cap))) := X9; have BB : Hid (Below w.heap.size w w1) := B9; have hb0_0 := HB0.out.cell 0 _ rfl; have hb0_1 := HB0.out.cell 1 _ rfl; have hb0_2 := HB0.out.cell 2 _ rfl; have hb0_3 := HB0.out.cell 3 _ rfl; have hb0_4 := HB0.out.cell 4 _ rfl; clear X9 B9 l9; clear t0; have t1 : (1 : Nat) = 1 := rfl))
  exact bodyPost_ret (v := .agg (sv u n e t (.slice ao xs.length cap)).toArray) (results_c rfl _ _ w1.heap.size _ rowy_rslot rfl HR.out.1) rfl ⟨rfl, BB.out⟩

set_option maxHeartbeats 4000000 in
theorem rright_used (n e t : Int) (v : Value) (xs : List Int) (w : World) (hv : Byt w v xs) (b : Bool) (hb : b = decide (1 ≤ n ∧ n ≤ 65535 ∧ xs.length = 104)) :
    Calls Try.prog 14 #[.agg (sv true n e t v).toArray] w fun x w' => x = .returned (.bool b) ∧ Below w.heap.size w w' := by
  have HB : Hid (b = decide (1 ≤ n ∧ n ≤ 65535 ∧ xs.length = 104)) := hb
  obtain ⟨ao, cap, rfl⟩ := form hv
  clear hb hv
  by_cases a0 : n ≥ 1
  · by_cases a1 : n ≤ 65535
    · by_cases a2 : (xs.length : Int) = 104
      · have ba2 : (((xs.length : Int) : Int) == 104) = true := beq_iff_eq.2 a2
        have t0 : (0 : Nat) = 0 := rfl
        go_enter Try.func14, Try.ntmps14
        go_wp2_with (first
          | (have q0 := t0; refine box_lawC _ (sv true n e t (.slice ao xs.length cap)) rfl ?_; intro w1 X9 B9 l9; have HB0 : Hid (Vr w1 w.heap.size (sv true n e t (.slice ao xs.length cap))) := X9; have BB : Hid (Below w.heap.size w w1) := B9; have hb0_0 := HB0.out.cell 0 _ rfl; have hb0_1 := HB0.out.cell 1 _ rfl; have hb0_2 := HB0.out.cell 2 _ rfl; have hb0_3 := HB0.out.cell 3 _ rfl; have hb0_4 := HB0.out.cell 4 _ rfl; clear X9 B9 l9; clear t0; have t1 : (1 : Nat) = 1 := rfl))
        go_ret
        exact ⟨ret_bool (by rw [HB.out]; first | exact (decide_eq_true (by omega)).symm | exact (decide_eq_false (by omega)).symm | (simp; omega)), BB.out⟩
      · have ba2 : (((xs.length : Int) : Int) == 104) = false := beq_eq_false_iff_ne.2 a2
        have t0 : (0 : Nat) = 0 := rfl
        go_enter Try.func14, Try.ntmps14
        go_wp2_with (first
          | (have q0 := t0; refine box_lawC _ (sv true n e t (.slice ao xs.length cap)) rfl ?_; intro w1 X9 B9 l9; have HB0 : Hid (Vr w1 w.heap.size (sv true n e t (.slice ao xs.length cap))) := X9; have BB : Hid (Below w.heap.size w w1) := B9; have hb0_0 := HB0.out.cell 0 _ rfl; have hb0_1 := HB0.out.cell 1 _ rfl; have hb0_2 := HB0.out.cell 2 _ rfl; have hb0_3 := HB0.out.cell 3 _ rfl; have hb0_4 := HB0.out.cell 4 _ rfl; clear X9 B9 l9; clear t0; have t1 : (1 : Nat) = 1 := rfl))
        go_ret
        exact ⟨ret_bool (by rw [HB.out]; first | exact (decide_eq_true (by omega)).symm | exact (decide_eq_false (by omega)).symm | (simp; omega)), BB.out⟩
    · have t0 : (0 : Nat) = 0 := rfl
      go_enter Try.func14, Try.ntmps14
      go_wp2_with (first
        | (have q0 := t0; refine box_lawC _ (sv true n e t (.slice ao xs.length cap)) rfl ?_; intro w1 X9 B9 l9; have HB0 : Hid (Vr w1 w.heap.size (sv true n e t (.slice ao xs.length cap))) := X9; have BB : Hid (Below w.heap.size w w1) := B9; have hb0_0 := HB0.out.cell 0 _ rfl; have hb0_1 := HB0.out.cell 1 _ rfl; have hb0_2 := HB0.out.cell 2 _ rfl; have hb0_3 := HB0.out.cell 3 _ rfl; have hb0_4 := HB0.out.cell 4 _ rfl; clear X9 B9 l9; clear t0; have t1 : (1 : Nat) = 1 := rfl))
      go_ret
      exact ⟨ret_bool (by rw [HB.out]; first | exact (decide_eq_true (by omega)).symm | exact (decide_eq_false (by omega)).symm | (simp; omega)), BB.out⟩
  · have t0 : (0 : Nat) = 0 := rfl
    go_enter Try.func14, Try.ntmps14
    go_wp2_with (first
      | (have q0 := t0; refine box_lawC _ (sv true n e t (.slice ao xs.length cap)) rfl ?_; intro w1 X9 B9 l9; have HB0 : Hid (Vr w1 w.heap.size (sv true n e t (.slice ao xs.length cap))) := X9; have BB : Hid (Below w.heap.size w w1) := B9; have hb0_0 := HB0.out.cell 0 _ rfl; have hb0_1 := HB0.out.cell 1 _ rfl; have hb0_2 := HB0.out.cell 2 _ rfl; have hb0_3 := HB0.out.cell 3 _ rfl; have hb0_4 := HB0.out.cell 4 _ rfl; clear X9 B9 l9; clear t0; have t1 : (1 : Nat) = 1 := rfl))
    go_ret
    exact ⟨ret_bool (by rw [HB.out]; first | exact (decide_eq_true (by omega)).symm | exact (decide_eq_false (by omega)).symm | (simp; omega)), BB.out⟩

set_option maxHeartbeats 4000000 in
theorem rright_free (n e t : Int) (v : Value) (xs : List Int) (w : World) (hv : Byt w v xs) (b : Bool) (hb : b = decide (n = 0 ∧ e = 0 ∧ t = 0 ∧ xs.length = 0)) :
    Calls Try.prog 14 #[.agg (sv false n e t v).toArray] w fun x w' => x = .returned (.bool b) ∧ Below w.heap.size w w' := by
  have HB : Hid (b = decide (n = 0 ∧ e = 0 ∧ t = 0 ∧ xs.length = 0)) := hb
  obtain ⟨ao, cap, rfl⟩ := form hv
  clear hb hv
  by_cases a0 : n = 0
  · have ba0 : ((n : Int) == 0) = true := beq_iff_eq.2 a0
    by_cases a1 : e = 0
    · have ba1 : ((e : Int) == 0) = true := beq_iff_eq.2 a1
      by_cases a2 : t = 0
      · have ba2 : ((t : Int) == 0) = true := beq_iff_eq.2 a2
        by_cases a3 : (xs.length : Int) = 0
        · have ba3 : (((xs.length : Int) : Int) == 0) = true := beq_iff_eq.2 a3
          have t0 : (0 : Nat) = 0 := rfl
          go_enter Try.func14, Try.ntmps14
          go_wp2_with (first
            | (have q0 := t0; refine box_lawC _ (sv false n e t (.slice ao xs.length cap)) rfl ?_; intro w1 X9 B9 l9; have HB0 : Hid (Vr w1 w.heap.size (sv false n e t (.slice ao xs.length cap))) := X9; have BB : Hid (Below w.heap.size w w1) := B9; have hb0_0 := HB0.out.cell 0 _ rfl; have hb0_1 := HB0.out.cell 1 _ rfl; have hb0_2 := HB0.out.cell 2 _ rfl; have hb0_3 := HB0.out.cell 3 _ rfl; have hb0_4 := HB0.out.cell 4 _ rfl; clear X9 B9 l9; clear t0; have t1 : (1 : Nat) = 1 := rfl))
          go_ret
          exact ⟨ret_bool (by rw [HB.out]; first | exact (decide_eq_true (by omega)).symm | exact (decide_eq_false (by omega)).symm | (simp; omega)), BB.out⟩
        · have ba3 : (((xs.length : Int) : Int) == 0) = false := beq_eq_false_iff_ne.2 a3
          have t0 : (0 : Nat) = 0 := rfl
          go_enter Try.func14, Try.ntmps14
          go_wp2_with (first
            | (have q0 := t0; refine box_lawC _ (sv false n e t (.slice ao xs.length cap)) rfl ?_; intro w1 X9 B9 l9; have HB0 : Hid (Vr w1 w.heap.size (sv false n e t (.slice ao xs.length cap))) := X9; have BB : Hid (Below w.heap.size w w1) := B9; have hb0_0 := HB0.out.cell 0 _ rfl; have hb0_1 := HB0.out.cell 1 _ rfl; have hb0_2 := HB0.out.cell 2 _ rfl; have hb0_3 := HB0.out.cell 3 _ rfl; have hb0_4 := HB0.out.cell 4 _ rfl; clear X9 B9 l9; clear t0; have t1 : (1 : Nat) = 1 := rfl))
          go_ret
          exact ⟨ret_bool (by rw [HB.out]; first | exact (decide_eq_true (by omega)).symm | exact (decide_eq_false (by omega)).symm | (simp; omega)), BB.out⟩
      · have ba2 : ((t : Int) == 0) = false := beq_eq_false_iff_ne.2 a2
        have t0 : (0 : Nat) = 0 := rfl
        go_enter Try.func14, Try.ntmps14
        go_wp2_with (first
          | (have q0 := t0; refine box_lawC _ (sv false n e t (.slice ao xs.length cap)) rfl ?_; intro w1 X9 B9 l9; have HB0 : Hid (Vr w1 w.heap.size (sv false n e t (.slice ao xs.length cap))) := X9; have BB : Hid (Below w.heap.size w w1) := B9; have hb0_0 := HB0.out.cell 0 _ rfl; have hb0_1 := HB0.out.cell 1 _ rfl; have hb0_2 := HB0.out.cell 2 _ rfl; have hb0_3 := HB0.out.cell 3 _ rfl; have hb0_4 := HB0.out.cell 4 _ rfl; clear X9 B9 l9; clear t0; have t1 : (1 : Nat) = 1 := rfl))
        go_ret
        exact ⟨ret_bool (by rw [HB.out]; first | exact (decide_eq_true (by omega)).symm | exact (decide_eq_false (by omega)).symm | (simp; omega)), BB.out⟩
    · have ba1 : ((e : Int) == 0) = false := beq_eq_false_iff_ne.2 a1
      have t0 : (0 : Nat) = 0 := rfl
      go_enter Try.func14, Try.ntmps14
      go_wp2_with (first
        | (have q0 := t0; refine box_lawC _ (sv false n e t (.slice ao xs.length cap)) rfl ?_; intro w1 X9 B9 l9; have HB0 : Hid (Vr w1 w.heap.size (sv false n e t (.slice ao xs.length cap))) := X9; have BB : Hid (Below w.heap.size w w1) := B9; have hb0_0 := HB0.out.cell 0 _ rfl; have hb0_1 := HB0.out.cell 1 _ rfl; have hb0_2 := HB0.out.cell 2 _ rfl; have hb0_3 := HB0.out.cell 3 _ rfl; have hb0_4 := HB0.out.cell 4 _ rfl; clear X9 B9 l9; clear t0; have t1 : (1 : Nat) = 1 := rfl))
      go_ret
      exact ⟨ret_bool (by rw [HB.out]; first | exact (decide_eq_true (by omega)).symm | exact (decide_eq_false (by omega)).symm | (simp; omega)), BB.out⟩
  · have ba0 : ((n : Int) == 0) = false := beq_eq_false_iff_ne.2 a0
    have t0 : (0 : Nat) = 0 := rfl
    go_enter Try.func14, Try.ntmps14
    go_wp2_with (first
      | (have q0 := t0; refine box_lawC _ (sv false n e t (.slice ao xs.length cap)) rfl ?_; intro w1 X9 B9 l9; have HB0 : Hid (Vr w1 w.heap.size (sv false n e t (.slice ao xs.length cap))) := X9; have BB : Hid (Below w.heap.size w w1) := B9; have hb0_0 := HB0.out.cell 0 _ rfl; have hb0_1 := HB0.out.cell 1 _ rfl; have hb0_2 := HB0.out.cell 2 _ rfl; have hb0_3 := HB0.out.cell 3 _ rfl; have hb0_4 := HB0.out.cell 4 _ rfl; clear X9 B9 l9; clear t0; have t1 : (1 : Nat) = 1 := rfl))
    go_ret
    exact ⟨ret_bool (by rw [HB.out]; first | exact (decide_eq_true (by omega)).symm | exact (decide_eq_false (by omega)).symm | (simp; omega)), BB.out⟩

theorem rright_yes (u : Bool) (n e t : Int) (v : Value) (xs : List Int) (w : World) (hv : Byt w v xs) (h : Rs u n e t xs) :
    Calls Try.prog 14 #[.agg (sv u n e t v).toArray] w fun x w' => x = .returned (.bool true) ∧ Below w.heap.size w w' := by
  cases u
  · exact rright_free n e t v xs w hv true (decide_eq_true (show n = 0 ∧ e = 0 ∧ t = 0 ∧ xs.length = 0 from h)).symm
  · exact rright_used n e t v xs w hv true (decide_eq_true (show 1 ≤ n ∧ n ≤ 65535 ∧ xs.length = 104 from h)).symm
theorem rright_no (u : Bool) (n e t : Int) (v : Value) (xs : List Int) (w : World) (hv : Byt w v xs) (h : ¬ Rs u n e t xs) :
    Calls Try.prog 14 #[.agg (sv u n e t v).toArray] w fun x w' => x = .returned (.bool false) ∧ Below w.heap.size w w' := by
  cases u
  · exact rright_free n e t v xs w hv false (decide_eq_false (show ¬ (n = 0 ∧ e = 0 ∧ t = 0 ∧ xs.length = 0) from h)).symm
  · exact rright_used n e t v xs w hv false (decide_eq_false (show ¬ (1 ≤ n ∧ n ≤ 65535 ∧ xs.length = 104) from h)).symm

set_option maxHeartbeats 4000000 in
theorem rsame_yes (u : Bool) (n e t : Int) (va vb : Value) (xs : List Int) (w : World) (ha : Byt w va xs) (hb : Byt w vb xs) :
    Calls Try.prog 7 #[.agg (sv u n e t va).toArray, .agg (sv u n e t vb).toArray] w fun x w' => x = .returned (.bool true) ∧ Below w.heap.size w w' := by
  have SS : Hid (∀ w0, Below w.heap.size w w0 → Calls Try.prog 13 #[va, vb] w0 fun x w' => x = .returned (.bool true) ∧ Below w0.heap.size w0 w') := fun w0 q => same_yes w0 va vb xs (ha.below q) (hb.below q)
  obtain ⟨ao, c1, rfl⟩ := form ha
  obtain ⟨bo, c2, rfl⟩ := form hb
  clear ha hb
  have t0 : (0 : Nat) = 0 := rfl
  cases u
  · go_enter Try.func7, Try.ntmps7
    go_wp2_with (first
      | (have q2 := t2; go_at_call 13; refine (SS.out w2 BB.out).mono ?_; rintro e9 w3 ⟨rfl, B9⟩; have HB0 : Hid (Vr w3 w.heap.size (sv false n e t (.slice ao xs.length c1))) := HB0.out.below B9 (range_lt HB0.out.1 (Nat.succ_pos _)); have HB1 : Hid (Vr w3 w1.heap.size (sv false n e t (.slice bo xs.length c2))) := HB1.out.below B9 (range_lt HB1.out.1 (Nat.succ_pos _)); have BB : Hid (Below w.heap.size w w3) := BB.out.trans (B9.mono BB.out.size); clear hb0_0 hb0_1 hb0_2 hb0_3 hb0_4 hb1_0 hb1_1 hb1_2 hb1_3 hb1_4; have hb0_0 := HB0.out.cell 0 _ rfl; have hb0_1 := HB0.out.cell 1 _ rfl; have hb0_2 := HB0.out.cell 2 _ rfl; have hb0_3 := HB0.out.cell 3 _ rfl; have hb0_4 := HB0.out.cell 4 _ rfl; have hb1_0 := HB1.out.cell 0 _ rfl; have hb1_1 := HB1.out.cell 1 _ rfl; have hb1_2 := HB1.out.cell 2 _ rfl; have hb1_3 := HB1.out.cell 3 _ rfl; have hb1_4 := HB1.out.cell 4 _ rfl; clear B9; clear t2; have t3 : (1 : Nat) = 1 := rfl)
      | (have q1 := t1; refine box_lawC _ (sv false n e t (.slice bo xs.length c2)) rfl ?_; intro w2 X9 B9 l9; have HB0 : Hid (Vr w2 w.heap.size (sv false n e t (.slice ao xs.length c1))) := HB0.out.below B9 (range_lt HB0.out.1 (Nat.succ_pos _)); have HB1 : Hid (Vr w2 w1.heap.size (sv false n e t (.slice bo xs.length c2))) := X9; have BB : Hid (Below w.heap.size w w2) := BB.out.trans (B9.mono BB.out.size); have hb0_0 := HB0.out.cell 0 _ rfl; have hb0_1 := HB0.out.cell 1 _ rfl; have hb0_2 := HB0.out.cell 2 _ rfl; have hb0_3 := HB0.out.cell 3 _ rfl; have hb0_4 := HB0.out.cell 4 _ rfl; have hb1_0 := HB1.out.cell 0 _ rfl; have hb1_1 := HB1.out.cell 1 _ rfl; have hb1_2 := HB1.out.cell 2 _ rfl; have hb1_3 := HB1.out.cell 3 _ rfl; have hb1_4 := HB1.out.cell 4 _ rfl; clear X9 B9 l9; clear t1; have t2 : (1 : Nat) = 1 := rfl)
      | (have q0 := t0; refine box_lawC _ (sv false n e t (.slice ao xs.length c1)) rfl ?_; intro w1 X9 B9 l9; have HB0 : Hid (Vr w1 w.heap.size (sv false n e t (.slice ao xs.length c1))) := X9; have BB : Hid (Below w.heap.size w w1) := B9; clear X9 B9 l9; clear t0; have t1 : (1 : Nat) = 1 := rfl))
    go_ret
    exact ⟨rfl, BB.out⟩
  · go_enter Try.func7, Try.ntmps7
    go_wp2_with (first
      | (have q2 := t2; go_at_call 13; refine (SS.out w2 BB.out).mono ?_; rintro e9 w3 ⟨rfl, B9⟩; have HB0 : Hid (Vr w3 w.heap.size (sv true n e t (.slice ao xs.length c1))) := HB0.out.below B9 (range_lt HB0.out.1 (Nat.succ_pos _)); have HB1 : Hid (Vr w3 w1.heap.size (sv true n e t (.slice bo xs.length c2))) := HB1.out.below B9 (range_lt HB1.out.1 (Nat.succ_pos _)); have BB : Hid (Below w.heap.size w w3) := BB.out.trans (B9.mono BB.out.size); clear hb0_0 hb0_1 hb0_2 hb0_3 hb0_4 hb1_0 hb1_1 hb1_2 hb1_3 hb1_4; have hb0_0 := HB0.out.cell 0 _ rfl; have hb0_1 := HB0.out.cell 1 _ rfl; have hb0_2 := HB0.out.cell 2 _ rfl; have hb0_3 := HB0.out.cell 3 _ rfl; have hb0_4 := HB0.out.cell 4 _ rfl; have hb1_0 := HB1.out.cell 0 _ rfl; have hb1_1 := HB1.out.cell 1 _ rfl; have hb1_2 := HB1.out.cell 2 _ rfl; have hb1_3 := HB1.out.cell 3 _ rfl; have hb1_4 := HB1.out.cell 4 _ rfl; clear B9; clear t2; have t3 : (1 : Nat) = 1 := rfl)
      | (have q1 := t1; refine box_lawC _ (sv true n e t (.slice bo xs.length c2)) rfl ?_; intro w2 X9 B9 l9; have HB0 : Hid (Vr w2 w.heap.size (sv true n e t (.slice ao xs.length c1))) := HB0.out.below B9 (range_lt HB0.out.1 (Nat.succ_pos _)); have HB1 : Hid (Vr w2 w1.heap.size (sv true n e t (.slice bo xs.length c2))) := X9; have BB : Hid (Below w.heap.size w w2) := BB.out.trans (B9.mono BB.out.size); have hb0_0 := HB0.out.cell 0 _ rfl; have hb0_1 := HB0.out.cell 1 _ rfl; have hb0_2 := HB0.out.cell 2 _ rfl; have hb0_3 := HB0.out.cell 3 _ rfl; have hb0_4 := HB0.out.cell 4 _ rfl; have hb1_0 := HB1.out.cell 0 _ rfl; have hb1_1 := HB1.out.cell 1 _ rfl; have hb1_2 := HB1.out.cell 2 _ rfl; have hb1_3 := HB1.out.cell 3 _ rfl; have hb1_4 := HB1.out.cell 4 _ rfl; clear X9 B9 l9; clear t1; have t2 : (1 : Nat) = 1 := rfl)
      | (have q0 := t0; refine box_lawC _ (sv true n e t (.slice ao xs.length c1)) rfl ?_; intro w1 X9 B9 l9; have HB0 : Hid (Vr w1 w.heap.size (sv true n e t (.slice ao xs.length c1))) := X9; have BB : Hid (Below w.heap.size w w1) := B9; clear X9 B9 l9; clear t0; have t1 : (1 : Nat) = 1 := rfl))
    go_ret
    exact ⟨rfl, BB.out⟩
end Go.Proofs.Ytifepmdhbhdjpaa.so

/- What the reference's Sub answers. No claim of its own. -/
namespace Go.Proofs.Ytifepmdhbhdjpaa
open Go.RowKit
set_option maxRecDepth 20000

set_option maxHeartbeats 1000000 in
theorem rsbit_any (n i : Nat) (w : World) (hn : n < 256) (hi : i < 16) :
    Calls Try.prog 41 #[.int .u8 n, .int .i64 i] w fun e w' => e = .returned (.int .i64 (b8 n i)) ∧ w' = w := by
  have HB : Hid (b8 n i = hv n (i % 8) % 2) := rfl
  obtain ⟨m, hm⟩ : ∃ m, m = i % 8 := ⟨_, rfl⟩
  rw [← hm] at HB
  have hm8 : m < 8 := by omega
  have r1 : ((i : Int)).tmod 8 = (m : Int) := by rw [Int.tmod_eq_emod_of_nonneg (by omega)]; omega
  have r2 : (i : Int) % 8 = (m : Int) := by omega
  generalize b8 n i = q at *
  clear hm
  go_enter Try.func41, Try.ntmps41
  go_wp2
  go_loop [5, 6] (fun x j => ∃ k : Nat, k ≤ m ∧ j = .int .i64 k ∧ x = .int .i64 (hv n k)) (fun _ j => m - (intOf j).toNat)
  case atStart => exact ⟨0, Nat.zero_le _, rfl, by simp [hv]⟩
  case round =>
    obtain ⟨k, hk, rfl, rfl⟩ := hrel
    have h1 := hv_le n k
    have h2 := hv_succ n k
    by_cases hlt : k < m
    · have H2 : Hid (hv n k / 2 = hv n (k + 1)) := h2
      clear h2
      go_wp2
      go_round
      case rel => exact ⟨k + 1, by omega, by go_num, by rw [← H2.out]; simp⟩
      case measure => simp [intOf]; omega
    · have hks : k = m := by omega
      subst hks
      clear h2
      go_wp2
      go_ret
      exact ⟨ret_int (by rw [HB.out]; simp), rfl⟩

set_option maxHeartbeats 4000000 in
theorem rsub_any (a : Nat) (w : World) (ha : a < 256) :
    Calls Try.prog 23 #[.int .u8 a] w fun e w' => e = .returned (.int .u8 (sb a)) ∧ w' = w := by
  have HI : Hid (∀ w, Calls Try.prog 40 #[.int .u8 a] w fun e w' => e = .returned (.int .u8 (iv a)) ∧ w' = w) := fun w => rinv_any a w ha
  have HE : Hid (so (iv a) 8 = sb a ∧ sb a < 256) := ⟨so_iv a ha, sb_lt a ha⟩
  have HV : Hid (iv a < 256) := iv_lt a
  generalize sb a = s at *
  generalize iv a = v at *
  clear ha
  go_enter Try.func23, Try.ntmps23
  go_wp2_with (go_at_call 40; refine (HI.out _).mono ?_; rintro e w' ⟨rfl, hw⟩; obtain rfl := hw.symm)
  go_loop [4, 5, 6] (fun o p i => ∃ k q : Nat, k ≤ 8 ∧ i = .int .i64 k ∧ p = .int .i64 q ∧ q = 2 ^ k ∧ o = .int .i64 (so v k)) (fun _ _ i => 8 - (intOf i).toNat)
  case atStart => exact ⟨0, 1, Nat.zero_le _, rfl, rfl, rfl, rfl⟩
  case round =>
    obtain ⟨k, q, hk, rfl, rfl, hq, rfl⟩ := hrel
    have hq2 : q ≤ 256 := by rw [hq]; exact (show 2 ^ k ≤ 2 ^ 8 from Nat.pow_le_pow_right (by omega) (by omega))
    have ho := so_lt v k
    rw [← hq] at ho
    have HQ : Hid (q = 2 ^ k) := hq
    clear hq
    by_cases hlt : k < 8
    · have C0 : Hid (∀ w, Calls Try.prog 41 #[.int .u8 v, .int .i64 k] w fun e w' => e = .returned (.int .i64 (b8 v k)) ∧ w' = w) := fun w => rsbit_any v k w HV.out (by omega)
      obtain ⟨k4, hk4⟩ : ∃ m : Nat, k + 4 = m := ⟨_, rfl⟩
      have hi4 : (k : Int) + 4 = (k4 : Int) := by omega
      have C4 : Hid (∀ w, Calls Try.prog 41 #[.int .u8 v, .int .i64 k4] w fun e w' => e = .returned (.int .i64 (b8 v (k + 4))) ∧ w' = w) := by
        rw [hk4]; exact fun w => rsbit_any v k4 w HV.out (by omega)
      obtain ⟨k5, hk5⟩ : ∃ m : Nat, k + 5 = m := ⟨_, rfl⟩
      have hi5 : (k : Int) + 5 = (k5 : Int) := by omega
      have C5 : Hid (∀ w, Calls Try.prog 41 #[.int .u8 v, .int .i64 k5] w fun e w' => e = .returned (.int .i64 (b8 v (k + 5))) ∧ w' = w) := by
        rw [hk5]; exact fun w => rsbit_any v k5 w HV.out (by omega)
      obtain ⟨k6, hk6⟩ : ∃ m : Nat, k + 6 = m := ⟨_, rfl⟩
      have hi6 : (k : Int) + 6 = (k6 : Int) := by omega
      have C6 : Hid (∀ w, Calls Try.prog 41 #[.int .u8 v, .int .i64 k6] w fun e w' => e = .returned (.int .i64 (b8 v (k + 6))) ∧ w' = w) := by
        rw [hk6]; exact fun w => rsbit_any v k6 w HV.out (by omega)
      obtain ⟨k7, hk7⟩ : ∃ m : Nat, k + 7 = m := ⟨_, rfl⟩
      have hi7 : (k : Int) + 7 = (k7 : Int) := by omega
      have C7 : Hid (∀ w, Calls Try.prog 41 #[.int .u8 v, .int .i64 k7] w fun e w' => e = .returned (.int .i64 (b8 v (k + 7))) ∧ w' = w) := by
        rw [hk7]; exact fun w => rsbit_any v k7 w HV.out (by omega)
      have C9 : Hid (∀ w, Calls Try.prog 41 #[.int .u8 99, .int .i64 k] w fun e w' => e = .returned (.int .i64 (b8 99 k)) ∧ w' = w) := fun w => rsbit_any 99 k w (by omega) (by omega)
      have hS : so v (k + 1) = so v k + 2 ^ k * sbt v k := rfl
      rw [← HQ.out] at hS
      have l0 := b8_lt v k
      have l4 := b8_lt v (k + 4)
      have l5 := b8_lt v (k + 5)
      have l6 := b8_lt v (k + 6)
      have l7 := b8_lt v (k + 7)
      have l9 := b8_lt 99 k
      have HD : Hid (sbt v k = b8 v k ^^^ b8 v (k + 4) ^^^ b8 v (k + 5) ^^^ b8 v (k + 6) ^^^ b8 v (k + 7) ^^^ b8 99 k) := rfl
      generalize b8 v k = e0 at *
      generalize b8 v (k + 4) = e4 at *
      generalize b8 v (k + 5) = e5 at *
      generalize b8 v (k + 6) = e6 at *
      generalize b8 v (k + 7) = e7 at *
      generalize b8 99 k = e9 at *
      have x4 := i64_xor_nat e0 e4 (by omega) (by omega)
      have y4 := xor2 e0 e4 l0 l4
      obtain ⟨f4, hf4⟩ : ∃ f, f = e0 ^^^ e4 := ⟨_, rfl⟩
      rw [← hf4] at x4 y4 HD
      have x5 := i64_xor_nat f4 e5 (by omega) (by omega)
      have y5 := xor2 f4 e5 y4 l5
      obtain ⟨f5, hf5⟩ : ∃ f, f = f4 ^^^ e5 := ⟨_, rfl⟩
      rw [← hf5] at x5 y5 HD
      have x6 := i64_xor_nat f5 e6 (by omega) (by omega)
      have y6 := xor2 f5 e6 y5 l6
      obtain ⟨f6, hf6⟩ : ∃ f, f = f5 ^^^ e6 := ⟨_, rfl⟩
      rw [← hf6] at x6 y6 HD
      have x7 := i64_xor_nat f6 e7 (by omega) (by omega)
      have y7 := xor2 f6 e7 y6 l7
      obtain ⟨f7, hf7⟩ : ∃ f, f = f6 ^^^ e7 := ⟨_, rfl⟩
      rw [← hf7] at x7 y7 HD
      have x9 := i64_xor_nat f7 e9 (by omega) (by omega)
      have y9 := xor2 f7 e9 y7 l9
      obtain ⟨f9, hf9⟩ : ∃ f, f = f7 ^^^ e9 := ⟨_, rfl⟩
      rw [← hf9] at x9 y9 HD
      rw [HD.out] at hS
      have HS : Hid (so v (k + 1) = so v k + q * f9) := hS
      have hm : 0 ≤ (q : Int) * (f9 : Int) ∧ (q : Int) * (f9 : Int) ≤ 256 := by
        rw [← Int.natCast_mul]
        have : q * f9 ≤ q * 1 := Nat.mul_le_mul_left _ (by omega)
        omega
      clear hk4 hk5 hk6 hk7 hS HD hf4 hf5 hf6 hf7 hf9 l0 l4 l5 l6 l7 l9 y4 y5 y6 y7 y9
      generalize so v k = o at *
      go_wp2_with (first
        | (go_at_call_of 41 (Value.int IntKind.u8 (v : Int)); go_at_call_of 41 (Value.int IntKind.i64 (k : Int)); refine (C0.out _).mono ?_; rintro e w' ⟨rfl, hw⟩; obtain rfl := hw.symm)
        | (go_at_call_of 41 (Value.int IntKind.i64 (k7 : Int)); refine (C7.out _).mono ?_; rintro e w' ⟨rfl, hw⟩; obtain rfl := hw.symm)
        | (go_at_call_of 41 (Value.int IntKind.i64 (k6 : Int)); refine (C6.out _).mono ?_; rintro e w' ⟨rfl, hw⟩; obtain rfl := hw.symm)
        | (go_at_call_of 41 (Value.int IntKind.i64 (k5 : Int)); refine (C5.out _).mono ?_; rintro e w' ⟨rfl, hw⟩; obtain rfl := hw.symm)
        | (go_at_call_of 41 (Value.int IntKind.i64 (k4 : Int)); refine (C4.out _).mono ?_; rintro e w' ⟨rfl, hw⟩; obtain rfl := hw.symm)
        | (go_at_call_of 41 (Value.int IntKind.i64 (k : Int)); refine (C9.out _).mono ?_; rintro e w' ⟨rfl, hw⟩; obtain rfl := hw.symm))
      go_round
      case rel => exact ⟨k + 1, q * 2, by omega, by go_num, by go_num, by rw [HQ.out, Nat.pow_succ], by rw [HS.out]; simp⟩
      case measure => simp [intOf]; omega
    · have hk8 : k = 8 := by omega
      subst hk8
      rw [HE.out.1]
      have hs := HE.out.2
      clear HE ho
      go_wp2
      go_ret
      exact ⟨ret_int (by omega), rfl⟩
end Go.Proofs.Ytifepmdhbhdjpaa

/- What the reference's Table, Turned and put answer. No claim of its own. -/
namespace Go.Proofs.Ytifepmdhbhdjpaa
open Go.RowKit
set_option maxRecDepth 20000

set_option maxRecDepth 20000 in
set_option maxHeartbeats 2000000 in
theorem rtable_any (w : World) :
    Calls Try.prog 12 #[] w fun e w' => ∃ v, e = .returned v ∧ Byt w' v ptab ∧ Below w.heap.size w w' := by
  have HG : Hid (∀ a, a < 256 → gb ptab a = (sb a : Int)) := gb_p
  have HL : Hid (ptab.length = 256) := ptab_len
  have HA : Hid (AllB ptab) := pAll
  have HS : Hid (∀ k, k < 256 → ptab.take (k + 1) = ptab.take k ++ [(sb k : Int)]) := fun k hk => by
    rw [take_snoc_gb ptab k (by rw [ptab_len]; exact hk), gb_p k hk]
  generalize ptab = tb at *
  go_enter Try.func12, Try.ntmps12
  go_wp2
  go_loopw [1, 2] (fun v i wr => ∃ k : Nat, k ≤ 256 ∧ i = .int .i64 k ∧ Own w.heap.size wr v (tb.take k) ∧ Below w.heap.size w wr) (fun _ i _ => 256 - (intOf i).toNat)
  case atStart => exact ⟨0, Nat.zero_le _, rfl, Own.empty w (Nat.le_refl _), (Below.refl _ _).alloc (Nat.le_refl _) _⟩
  case round =>
    obtain ⟨k, hk, rfl, hown, hbel⟩ := hrel
    have hsz := hbel.size
    have k0 : (0 : Int) ≤ (k : Int) := by omega
    by_cases hlt : k < 256
    · have k1 : (k : Int) < 256 := by omega
      have uw : IntKind.u8.wrap (k : Int) = (k : Int) := by rw [IntKind.wrap_u8']; omega
      have R1 : Hid (∀ w0, Calls Try.prog 23 #[.int .u8 k] w0 fun e w' => e = .returned (.int .u8 (sb k)) ∧ w' = w0) := fun w0 => rsub_any k w0 hlt
      have SN : Hid (tb.take (k + 1) = tb.take k ++ [(sb k : Int)]) := HS.out k hlt
      have LN : Hid ((tb.take k).length ≤ 1099511627776) := by show _ ≤ _; rw [List.length_take, HL.out]; omega
      have HO : Hid (Own w.heap.size wr u1 (tb.take k)) := hown
      clear hown
      generalize sb k = y at *
      go_wp2_with (first
        | (go_at_call 23; refine (R1.out _).mono ?_; rintro e w2 ⟨rfl, hw⟩; obtain rfl := hw.symm)
        | (at_builtin; refine push_law wr rfl (.tmp 8) (.tmp 12) rfl w.heap.size (by omega) _ _ (y : Int) rfl rfl HO.out LN.out ?_; intro v' w1 hown' hbel'))
      rw [← SN.out] at hown'
      go_roundw
      case rel => exact ⟨k + 1, by omega, by go_num, hown', hbel.trans hbel'⟩
      case measure => simp [intOf]; omega
    · have hk256 : k = 256 := by omega
      subst hk256
      rw [List.take_of_length_le (by rw [HL.out]; omega)] at hown
      go_wp2
      go_ret
      exact ⟨_, rfl, hown.byt HA.out, hbel⟩

/-- as far as the first k bytes are put back -/
def prb (k : Nat) : List Int := (List.range 256).map fun t => if sk t < k then (sk t : Int) else 0
theorem prb_len (k : Nat) : (prb k).length = 256 := by simp [prb]
theorem gb_prb (k t : Nat) (h : t < 256) : gb (prb k) t = if sk t < k then (sk t : Int) else 0 := range_gb _ _ _ h
theorem prb_zero : prb 0 = List.replicate 256 0 := ext_gb (by rw [prb_len, List.length_replicate]) fun t ht => by
  rw [prb_len] at ht
  rw [gb_prb _ _ ht, if_neg (by omega)]
  unfold gb
  rw [List.getD_eq_getElem?_getD, List.getElem?_replicate, if_pos ht]; rfl
theorem prb_end : prb 256 = btab := ext_gb (by rw [prb_len, btab_len]) fun t ht => by
  rw [prb_len] at ht
  rw [gb_prb _ _ ht, if_pos (sk_lt t ht), gb_b t ht]
theorem prb_set (k : Nat) (h : k < 256) : (prb k).set (sb k) (k : Int) = prb (k + 1) := ext_gb (by simp [prb]) fun t ht => by
  rw [List.length_set, prb_len] at ht
  rw [gb_set _ _ _ _ (by rw [prb_len]; exact ht), gb_prb _ _ ht, gb_prb _ _ ht]
  by_cases e : sb k = t
  · have : sk t = k := by rw [← e, sk_sb k h]
    rw [if_pos e, this, if_pos (by omega)]
  · rw [if_neg e]
    have : sk t ≠ k := fun h' => e (by rw [← h', sb_sk t ht])
    by_cases h1 : sk t < k
    · rw [if_pos h1, if_pos (by omega)]
    · rw [if_neg h1, if_neg (by omega)]

set_option maxRecDepth 20000 in
set_option maxHeartbeats 2000000 in
theorem rturnedT_any (v : Value) (w : World) (hv : Byt w v ptab) :
    Calls Try.prog 43 #[v] w fun e w' => ∃ v', e = .returned v' ∧ Byt w' v' btab ∧ Below w.heap.size w w' := by
  obtain ⟨ao, ca, rfl, ha1, ha2, ha3, -, ha5⟩ := hv
  rw [ptab_len] at ha1 ha5 ⊢
  obtain ⟨bb, bo, rfl, hcell⟩ := ha5 (by omega)
  have HC : Hid (∀ t, t < 256 → w.cell? ⟨bb, bo + t, none⟩ = some (.int .u8 (sb t : Int))) := fun t ht => by
    rw [hcell t ht, gb_p t ht]
  have hbw : bb < w.heap.size := World.block_lt_of_cell? w _ (hcell 0 (by omega))
  have HE : Hid (prb 256 = btab) := prb_end
  have HA : Hid (AllB btab ∧ btab.length = 256) := ⟨bAll, btab_len⟩
  generalize btab = tb at *
  clear hcell ha5 ha3
  go_enter Try.func43, Try.ntmps43
  go_wp2_with (at_make; refine make_law _ rfl _ _ rfl w.heap.size (Nat.le_refl _) 256 256 rfl rfl rfl (by omega) ?_; intro w1 hown B1 s1; have HO1 : Hid (Ar w1 w.heap.size 0 .u8 (List.replicate 256 0)) := hown.arG; clear hown)
  generalize hg0 : w.heap.size = g0 at *
  go_loopw [4] (fun i wr => ∃ k : Nat, k ≤ 256 ∧ i = .int .i64 k ∧ Ar wr g0 0 .u8 (prb k) ∧ Below g0 w wr) (fun i _ => 256 - (intOf i).toNat)
  case atStart => exact ⟨0, Nat.zero_le _, rfl, by rw [prb_zero]; exact HO1.out, B1⟩
  case round =>
    obtain ⟨k, hk, rfl, hA, hB⟩ := hrel
    have k0 : (0 : Int) ≤ (k : Int) := by omega
    by_cases hlt : k < 256
    · have k1 : (k : Int) < 256 := by omega
      have u1 : IntKind.u8.wrap (k : Int) = (k : Int) := by rw [IntKind.wrap_u8']; omega
      have s1 := sb_lt k hlt
      have s2 : (0 : Int) ≤ (sb k : Int) := by omega
      have s3 : (sb k : Int) < 256 := by omega
      have c1 : wr.cell? ⟨bb, bo + k, none⟩ = some (.int .u8 (sb k : Int)) := (hB.cell hbw).trans (HC.out k hlt)
      have c3 := hA.cell0 (sb k) (by rw [prb_len]; exact s1)
      have c4 := hA.free0 (sb k) (by rw [prb_len]; exact s1)
      have hA2 : Hid (Ar (wr.setCell ⟨g0, sb k, none⟩ (.int .u8 (k : Int))) g0 0 .u8 (prb (k + 1))) := by
        have h := hA.set0 (sb k) (by rw [prb_len]; exact s1) (k : Int)
        rw [prb_set k hlt] at h
        exact h
      have hB2 : Hid (Below g0 w (wr.setCell ⟨g0, sb k, none⟩ (.int .u8 (k : Int)))) := hB.setCell (Nat.le_refl _) _
      clear hA
      generalize sb k = y at *
      go_wp2
      go_roundw
      case rel => exact ⟨k + 1, by omega, by go_num, hA2.out, hB2.out⟩
      case measure => simp [intOf]; omega
    · have hk256 : k = 256 := by omega
      subst hk256
      rw [HE.out] at hA
      go_wp2
      go_ret
      exact ⟨_, rfl, hA.bytG HA.out.1 256 256 HA.out.2 (by omega) (by omega), by rw [hg0]; exact hB⟩

set_option maxRecDepth 20000 in
set_option maxHeartbeats 2000000 in
theorem rput_any (v tv : Value) (xs tab : List Int) (w : World) (hv : Byt w v xs) (ht : Byt w tv tab) (hl : tab.length = 256) (hmax : xs.length ≤ 1048576) :
    Calls Try.prog 47 #[v, tv] w fun e w' => ∃ v', e = .returned v' ∧ Byt w' v' (looked tab xs) ∧ Below w.heap.size w w' := by
  obtain ⟨ao, ca, rfl, ha1, ha2, ha3, -, ha5⟩ := hv
  obtain ⟨to_, ta, rfl, ht1, ht2, ht3, -, ht5⟩ := ht
  rw [hl] at ht1 ht5 ⊢
  obtain ⟨tb, tf, rfl, htc⟩ := ht5 (by omega)
  have HA5 : Hid (0 < xs.length → ∃ b off, ao = some ⟨b, off, none⟩ ∧ ∀ t, t < xs.length → w.cell? ⟨b, off + t, none⟩ = some (.int .u8 (gb xs t))) := ha5
  have HA : Hid (AllB xs) := ha3
  have HT : Hid (∀ t, t < 256 → w.cell? ⟨tb, tf + t, none⟩ = some (.int .u8 (gb tab t))) := htc
  have htw : tb < w.heap.size := World.block_lt_of_cell? w _ (htc 0 (by omega))
  have HZ : Hid ((looked tab xs).length = xs.length) := looked_len tab xs
  have HG : Hid (∀ k, k < xs.length → (looked tab xs).take (k + 1) = (looked tab xs).take k ++ [gb tab (gb xs k).toNat]) := fun k hk => by
    rw [take_snoc_gb _ k (by rw [looked_len]; exact hk), looked_gb tab xs k hk]
  have HZA : Hid (AllB (looked tab xs)) := looked_all tab xs ht3
  generalize looked tab xs = zs at *
  clear ha5 ha3 ht3 ht5 htc hl
  go_enter Try.func47, Try.ntmps47
  go_wp2
  go_loopw [5, 6] (fun v i wr => ∃ k : Nat, k ≤ xs.length ∧ i = .int .i64 k ∧ Own w.heap.size wr v (zs.take k) ∧ Below w.heap.size w wr) (fun _ i _ => xs.length - (intOf i).toNat)
  case atStart => exact ⟨0, Nat.zero_le _, rfl, Own.empty w (Nat.le_refl _), (Below.refl _ _).alloc (Nat.le_refl _) _⟩
  case round =>
    obtain ⟨k, hk, rfl, hown, hbel⟩ := hrel
    have hsz := hbel.size
    have k0 : (0 : Int) ≤ (k : Int) := by omega
    by_cases hlt : k < xs.length
    · obtain ⟨b, off, rfl, hca⟩ := HA5.out (by omega)
      have n1 := World.block_lt_of_cell? w _ (hca k hlt)
      have c1 : wr.cell? ⟨b, off + k, none⟩ = some (.int .u8 (gb xs k)) := (hbel.cell n1).trans (hca k hlt)
      obtain ⟨x, hx⟩ : ∃ x : Nat, gb xs k = (x : Int) := ⟨(gb xs k).toNat, by have := HA.out k; omega⟩
      have hx8 : x < 256 := by have := HA.out k; omega
      rw [hx] at c1
      have c2 : wr.cell? ⟨tb, tf + x, none⟩ = some (.int .u8 (gb tab x)) := (hbel.cell htw).trans (HT.out x hx8)
      have SN : Hid (zs.take (k + 1) = zs.take k ++ [gb tab x]) := by
        have := HG.out k hlt
        rw [hx, Int.toNat_natCast] at this
        exact this
      have lk : (k : Int) < (xs.length : Int) := by omega
      have x0 : (0 : Int) ≤ (x : Int) := by omega
      have x1 : (x : Int) < 256 := by omega
      have LN : Hid ((zs.take k).length ≤ 1099511627776) := by show _ ≤ _; rw [List.length_take, HZ.out]; omega
      have HO : Hid (Own w.heap.size wr u5 (zs.take k)) := hown
      clear hca hx hx8 hown
      generalize gb tab x = y at *
      go_wp2_with (at_builtin; refine push_law wr rfl (.tmp 14) (.tmp 22) rfl w.heap.size (by omega) _ _ y rfl rfl HO.out LN.out ?_; intro v' w1 hown' hbel')
      rw [← SN.out] at hown'
      go_roundw
      case rel => exact ⟨k + 1, by omega, by go_num, hown', hbel.trans hbel'⟩
      case measure => simp [intOf]; omega
    · have hks : k = xs.length := by omega
      rw [List.take_of_length_le (by rw [HZ.out]; omega)] at hown
      go_wp2
      go_ret
      exact ⟨_, rfl, hown.byt HZA.out, hbel⟩
end Go.Proofs.Ytifepmdhbhdjpaa

