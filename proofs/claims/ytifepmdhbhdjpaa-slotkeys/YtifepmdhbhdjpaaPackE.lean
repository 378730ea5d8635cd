/- Texts put together (a claim holds few files). No claim of its own. -/
import Derived.Test.YtifepmdhbhdjpaaPackD
import Derived.Test.YtifepmdhbhdjpaaPackA
import Derived.Laws.BitsAllLaws
import Derived.Deep.RegionWith
/- What slot's isSize, numbersOf and Right answer. No claim of its own. -/
namespace Go.Proofs.Ytifepmdhbhdjpaa.so
open Go.RowKit Go.Proofs.Ytifepmdhbhdjpaa.fa Go.Proofs.Ytifepmdhbhdjpaa.he
set_option maxRecDepth 20000

theorem ret_bool {a b : Bool} (h : a = b) : Ending.returned (.bool a) = .returned (.bool b) := by rw [h]

set_option maxHeartbeats 1000000 in
theorem size_any (n : Int) (w : World) (b : Bool) (hb : b = decide (1 ≤ n ∧ n ≤ 65535)) :
    Calls Try.prog 18 #[.int .i64 n] w fun x w' => x = .returned (.bool b) ∧ w' = w := by
  have HB : Hid (b = decide (1 ≤ n ∧ n ≤ 65535)) := hb
  clear hb
  by_cases a0 : n ≥ 1
  · by_cases a1 : n ≤ 65535
    · go_enter Try.func18, Try.ntmps18
      go_wp2
      go_ret
      exact ⟨ret_bool (by rw [HB.out]; simp; omega), rfl⟩
    · go_enter Try.func18, Try.ntmps18
      go_wp2
      go_ret
      exact ⟨ret_bool (by rw [HB.out]; simp; omega), rfl⟩
  · go_enter Try.func18, Try.ntmps18
    go_wp2
    go_ret
    exact ⟨ret_bool (by rw [HB.out]; simp; omega), rfl⟩

set_option maxHeartbeats 4000000 in
theorem nums_used (n e t N : Int) (v : Value) (w : World) (hN : IntKind.u64.wrap n = N) :
    Calls Try.prog 34 #[.agg (sv true n e t v).toArray] w fun x w' => x = .returned (.agg (nv [1, 0, N, e, t]).toArray) ∧ Below w.heap.size w w' := by
  have t0 : (0 : Nat) = 0 := rfl
  go_enter Try.func34, Try.ntmps34
  go_wp2_with (first
    | (have q6 := t6; (with_reducible refine at_store ?_); refine store_lawC _ (nv [1, 0, N, e, t]) w1.heap.size 0 rfl rfl HR.out.2 rowy_nums.2 (nv_one _) ?_; intro w6 E9 R9 T9 B9; have K9 : ∀ k, k ≠ w1.heap.size → w6.heap[k]? = w5.heap[k]? := (by rw [E9.out]; exact fun k hk => heap_cells _ _ _ _ k hk); have HB0 : Hid (Vr w6 w.heap.size (sv true n e t v)) := HB0.out.heap (K9 _ (Nat.ne_of_lt LT_HB0_HR.out)); have NB_HG : Hid (NoB w6 w2.heap.size) := NB_HG.out.heap (K9 _ (Nat.ne_of_gt LT_HR_HG.out)); have HG : Hid (Vr w6 w2.heap.size (nv [1, 0, N, e, t])) := HG.out.heap (K9 _ (Nat.ne_of_gt LT_HR_HG.out)); have NB_HR : Hid (NoB w6 w1.heap.size) := (by rw [E9.out]; exact NB_HR.out.set HR.out rfl (nv_nob _)); have HR : Hid (Vr w6 w1.heap.size (nv [1, 0, N, e, t])) := ⟨R9, T9⟩; have BB : Hid (Below w.heap.size w w6) := BB.out.trans (B9.mono LE_HR.out); clear hb0_0 hb0_1 hb0_2 hb0_3 hb0_4; have hb0_0 := HB0.out.cell 0 _ rfl; have hb0_1 := HB0.out.cell 1 _ rfl; have hb0_2 := HB0.out.cell 2 _ rfl; have hb0_3 := HB0.out.cell 3 _ rfl; have hb0_4 := HB0.out.cell 4 _ rfl; clear E9 R9 T9 B9 K9; clear t6; have t7 : (1 : Nat) = 1 := rfl)
    | (have q5 := t5; refine load_lawC _ rfl (nv [1, 0, N, e, t]) w2.heap.size 0 rfl HG.out.1 rowy_nums ?_; clear t5; have t6 : (1 : Nat) = 1 := rfl)
    | (have q4 := t4; (with_reducible refine at_store ?_); refine set_lawC _ (nv [0, 0, N, e, t]) w2.heap.size 0 (.int .u64 1) rfl rfl HG.out NB_HG.out (show (0 : Nat) < 5 by decide) rfl rfl (fun y q => by cases q) size_u64 ?_; have NBo := NB_HG; intro w5 R9 N9 B9 K9; have HB0 : Hid (Vr w5 w.heap.size (sv true n e t v)) := HB0.out.heap (K9 _ (Nat.ne_of_lt LT_HB0_HG.out)); have NB_HR : Hid (NoB w5 w1.heap.size) := NB_HR.out.heap (K9 _ (Nat.ne_of_lt LT_HR_HG.out)); have HR : Hid (Vr w5 w1.heap.size (nv [0, 0, 0, 0, 0])) := HR.out.heap (K9 _ (Nat.ne_of_lt LT_HR_HG.out)); have NB_HG : Hid (NoB w5 w2.heap.size) := N9; have HG : Hid (Vr w5 w2.heap.size (nv [1, 0, N, e, t])) := R9; have BB : Hid (Below w.heap.size w w5) := BB.out.trans (B9.mono LE_HG.out); clear hb0_0 hb0_1 hb0_2 hb0_3 hb0_4; have hb0_0 := HB0.out.cell 0 _ rfl; have hb0_1 := HB0.out.cell 1 _ rfl; have hb0_2 := HB0.out.cell 2 _ rfl; have hb0_3 := HB0.out.cell 3 _ rfl; have hb0_4 := HB0.out.cell 4 _ rfl; clear R9 N9 B9 K9 NBo; clear t4; have t5 : (1 : Nat) = 1 := rfl)
    | (have q3 := t3; (with_reducible refine at_store ?_); refine store_lawC _ (nv [0, 0, N, e, t]) w2.heap.size 0 rfl rfl HG.out.2 rowy_nums.2 (nv_one _) ?_; intro w4 E9 R9 T9 B9; have K9 : ∀ k, k ≠ w2.heap.size → w4.heap[k]? = w3.heap[k]? := (by rw [E9.out]; exact fun k hk => heap_cells _ _ _ _ k hk); have HB0 : Hid (Vr w4 w.heap.size (sv true n e t v)) := HB0.out.heap (K9 _ (Nat.ne_of_lt LT_HB0_HG.out)); have NB_HR : Hid (NoB w4 w1.heap.size) := NB_HR.out.heap (K9 _ (Nat.ne_of_lt LT_HR_HG.out)); have HR : Hid (Vr w4 w1.heap.size (nv [0, 0, 0, 0, 0])) := HR.out.heap (K9 _ (Nat.ne_of_lt LT_HR_HG.out)); have NB_HG : Hid (NoB w4 w2.heap.size) := (by rw [E9.out]; exact NB_HG.out.set HG.out rfl (nv_nob _)); have HG : Hid (Vr w4 w2.heap.size (nv [0, 0, N, e, t])) := ⟨R9, T9⟩; have BB : Hid (Below w.heap.size w w4) := BB.out.trans (B9.mono LE_HG.out); clear hb0_0 hb0_1 hb0_2 hb0_3 hb0_4; have hb0_0 := HB0.out.cell 0 _ rfl; have hb0_1 := HB0.out.cell 1 _ rfl; have hb0_2 := HB0.out.cell 2 _ rfl; have hb0_3 := HB0.out.cell 3 _ rfl; have hb0_4 := HB0.out.cell 4 _ rfl; clear E9 R9 T9 B9 K9; clear t3; have t4 : (1 : Nat) = 1 := rfl)
    | (have q2 := t2; (with_reducible refine at_alloc ?_); refine new_lawN _ (nv [0, 0, 0, 0, 0]) zero_nums (nv_nob _) ?_; intro w3 X9 N9 B9; have LT_HB0_HG : Hid (w.heap.size < w2.heap.size) := range_lt HB0.out.1 (Nat.succ_pos _); have LT_HR_HG : Hid (w1.heap.size < w2.heap.size) := range_lt HR.out.1 (Nat.succ_pos _); have LE_HG : Hid (w.heap.size ≤ w2.heap.size) := BB.out.size; have HB0 : Hid (Vr w3 w.heap.size (sv true n e t v)) := HB0.out.below B9 (range_lt HB0.out.1 (Nat.succ_pos _)); have NB_HR : Hid (NoB w3 w1.heap.size) := NB_HR.out.heap (B9.block _ (range_lt HR.out.1 (Nat.succ_pos _))); have HR : Hid (Vr w3 w1.heap.size (nv [0, 0, 0, 0, 0])) := HR.out.below B9 (range_lt HR.out.1 (Nat.succ_pos _)); have HG : Hid (Vr w3 w2.heap.size (nv [0, 0, 0, 0, 0])) := X9; have NB_HG : Hid (NoB w3 w2.heap.size) := N9; have BB : Hid (Below w.heap.size w w3) := BB.out.trans (B9.mono BB.out.size); clear hb0_0 hb0_1 hb0_2 hb0_3 hb0_4; have hb0_0 := HB0.out.cell 0 _ rfl; have hb0_1 := HB0.out.cell 1 _ rfl; have hb0_2 := HB0.out.cell 2 _ rfl; have hb0_3 := HB0.out.cell 3 _ rfl; have hb0_4 := HB0.out.cell 4 _ rfl; clear X9 N9 B9; clear t2; have t3 : (1 : Nat) = 1 := rfl)
    | (have q1 := t1; (with_reducible refine at_alloc ?_); refine new_lawN _ (nv [0, 0, 0, 0, 0]) zero_nums (nv_nob _) ?_; intro w2 X9 N9 B9; have LT_HB0_HR : Hid (w.heap.size < w1.heap.size) := range_lt HB0.out.1 (Nat.succ_pos _); have LE_HR : Hid (w.heap.size ≤ w1.heap.size) := BB.out.size; have HB0 : Hid (Vr w2 w.heap.size (sv true n e t v)) := HB0.out.below B9 (range_lt HB0.out.1 (Nat.succ_pos _)); have HR : Hid (Vr w2 w1.heap.size (nv [0, 0, 0, 0, 0])) := X9; have NB_HR : Hid (NoB w2 w1.heap.size) := N9; have BB : Hid (Below w.heap.size w w2) := BB.out.trans (B9.mono BB.out.size); clear hb0_0 hb0_1 hb0_2 hb0_3 hb0_4; have hb0_0 := HB0.out.cell 0 _ rfl; have hb0_1 := HB0.out.cell 1 _ rfl; have hb0_2 := HB0.out.cell 2 _ rfl; have hb0_3 := HB0.out.cell 3 _ rfl; have hb0_4 := HB0.out.cell 4 _ rfl; clear X9 N9 B9; clear t1; have t2 : (1 : Nat) = 1 := rfl)
    | (have q0 := t0; refine box_lawC _ (sv true n e t v) rfl ?_; intro w1 X9 B9 l9; have HB0 : Hid (Vr w1 w.heap.size (sv true n e t v)) := X9; have BB : Hid (Below w.heap.size w w1) := B9; have hb0_0 := HB0.out.cell 0 _ rfl; have hb0_1 := HB0.out.cell 1 _ rfl; have hb0_2 := HB0.out.cell 2 _ rfl; have hb0_3 := HB0.out.cell 3 _ rfl; have hb0_4 := HB0.out.cell 4 _ rfl; clear X9 B9 l9; clear t0; have t1 : (1 : Nat) = 1 := rfl))
  exact bodyPost_ret (v := .agg (nv [1, 0, N, e, t]).toArray) (results_c rfl _ _ w1.heap.size _ rowy_nums rfl HR.out.1) rfl ⟨rfl, BB.out⟩

set_option maxHeartbeats 4000000 in
theorem nums_free (n e t N : Int) (v : Value) (w : World) (hN : IntKind.u64.wrap n = N) :
    Calls Try.prog 34 #[.agg (sv false n e t v).toArray] w fun x w' => x = .returned (.agg (nv [0, 0, N, e, t]).toArray) ∧ Below w.heap.size w w' := by
  have t0 : (0 : Nat) = 0 := rfl
  go_enter Try.func34, Try.ntmps34
  go_wp2_with (first
    | (have q5 := t5; (with_reducible refine at_store ?_); refine store_lawC _ (nv [0, 0, N, e, t]) w1.heap.size 0 rfl rfl HR.out.2 rowy_nums.2 (nv_one _) ?_; intro w5 E9 R9 T9 B9; have K9 : ∀ k, k ≠ w1.heap.size → w5.heap[k]? = w4.heap[k]? := (by rw [E9.out]; exact fun k hk => heap_cells _ _ _ _ k hk); have HB0 : Hid (Vr w5 w.heap.size (sv false n e t v)) := HB0.out.heap (K9 _ (Nat.ne_of_lt LT_HB0_HR.out)); have NB_HG : Hid (NoB w5 w2.heap.size) := NB_HG.out.heap (K9 _ (Nat.ne_of_gt LT_HR_HG.out)); have HG : Hid (Vr w5 w2.heap.size (nv [0, 0, N, e, t])) := HG.out.heap (K9 _ (Nat.ne_of_gt LT_HR_HG.out)); have NB_HR : Hid (NoB w5 w1.heap.size) := (by rw [E9.out]; exact NB_HR.out.set HR.out rfl (nv_nob _)); have HR : Hid (Vr w5 w1.heap.size (nv [0, 0, N, e, t])) := ⟨R9, T9⟩; have BB : Hid (Below w.heap.size w w5) := BB.out.trans (B9.mono LE_HR.out); clear hb0_0 hb0_1 hb0_2 hb0_3 hb0_4; have hb0_0 := HB0.out.cell 0 _ rfl; have hb0_1 := HB0.out.cell 1 _ rfl; have hb0_2 := HB0.out.cell 2 _ rfl; have hb0_3 := HB0.out.cell 3 _ rfl; have hb0_4 := HB0.out.cell 4 _ rfl; clear E9 R9 T9 B9 K9; clear t5; have t6 : (1 : Nat) = 1 := rfl)
    | (have q4 := t4; refine load_lawC _ rfl (nv [0, 0, N, e, t]) w2.heap.size 0 rfl HG.out.1 rowy_nums ?_; clear t4; have t5 : (1 : Nat) = 1 := rfl)
    | (have q3 := t3; (with_reducible refine at_store ?_); refine store_lawC _ (nv [0, 0, N, e, t]) w2.heap.size 0 rfl rfl HG.out.2 rowy_nums.2 (nv_one _) ?_; intro w4 E9 R9 T9 B9; have K9 : ∀ k, k ≠ w2.heap.size → w4.heap[k]? = w3.heap[k]? := (by rw [E9.out]; exact fun k hk => heap_cells _ _ _ _ k hk); have HB0 : Hid (Vr w4 w.heap.size (sv false n e t v)) := HB0.out.heap (K9 _ (Nat.ne_of_lt LT_HB0_HG.out)); have NB_HR : Hid (NoB w4 w1.heap.size) := NB_HR.out.heap (K9 _ (Nat.ne_of_lt LT_HR_HG.out)); have HR : Hid (Vr w4 w1.heap.size (nv [0, 0, 0, 0, 0])) := HR.out.heap (K9 _ (Nat.ne_of_lt LT_HR_HG.out)); have NB_HG : Hid (NoB w4 w2.heap.size) := (by rw [E9.out]; exact NB_HG.out.set HG.out rfl (nv_nob _)); have HG : Hid (Vr w4 w2.heap.size (nv [0, 0, N, e, t])) := ⟨R9, T9⟩; have BB : Hid (Below w.heap.size w w4) := BB.out.trans (B9.mono LE_HG.out); clear hb0_0 hb0_1 hb0_2 hb0_3 hb0_4; have hb0_0 := HB0.out.cell 0 _ rfl; have hb0_1 := HB0.out.cell 1 _ rfl; have hb0_2 := HB0.out.cell 2 _ rfl; have hb0_3 := HB0.out.cell 3 _ rfl; have hb0_4 := HB0.out.cell 4 _ rfl; clear E9 R9 T9 B9 K9; clear t3; have t4 : (1 : Nat) = 1 := rfl)
    | (have q2 := t2; (with_reducible refine at_alloc ?_); refine new_lawN _ (nv [0, 0, 0, 0, 0]) zero_nums (nv_nob _) ?_; intro w3 X9 N9 B9; have LT_HB0_HG : Hid (w.heap.size < w2.heap.size) := range_lt HB0.out.1 (Nat.succ_pos _); have LT_HR_HG : Hid (w1.heap.size < w2.heap.size) := range_lt HR.out.1 (Nat.succ_pos _); have LE_HG : Hid (w.heap.size ≤ w2.heap.size) := BB.out.size; have HB0 : Hid (Vr w3 w.heap.size (sv false n e t v)) := HB0.out.below B9 (range_lt HB0.out.1 (Nat.succ_pos _)); have NB_HR : Hid (NoB w3 w1.heap.size) := NB_HR.out.heap (B9.block _ (range_lt HR.out.1 (Nat.succ_pos _))); have HR : Hid (Vr w3 w1.heap.size (nv [0, 0, 0, 0, 0])) := HR.out.below B9 (range_lt HR.out.1 (Nat.succ_pos _)); have HG : Hid (Vr w3 w2.heap.size (nv [0, 0, 0, 0, 0])) := X9; have NB_HG : Hid (NoB w3 w2.heap.size) := N9; have BB : Hid (Below w.heap.size w w3) := BB.out.trans (B9.mono BB.out.size); clear hb0_0 hb0_1 hb0_2 hb0_3 hb0_4; have hb0_0 := HB0.out.cell 0 _ rfl; have hb0_1 := HB0.out.cell 1 _ rfl; have hb0_2 := HB0.out.cell 2 _ rfl; have hb0_3 := HB0.out.cell 3 _ rfl; have hb0_4 := HB0.out.cell 4 _ rfl; clear X9 N9 B9; clear t2; have t3 : (1 : Nat) = 1 := rfl)
    | (have q1 := t1; (with_reducible refine at_alloc ?_); refine new_lawN _ (nv [0, 0, 0, 0, 0]) zero_nums (nv_nob _) ?_; intro w2 X9 N9 B9; have LT_HB0_HR : Hid (w.heap.size < w1.heap.size) := range_lt HB0.out.1 (Nat.succ_pos _); have LE_HR : Hid (w.heap.size ≤ w1.heap.size) := BB.out.size; have HB0 : Hid (Vr w2 w.heap.size (sv false n e t v)) := HB0.out.below B9 (range_lt HB0.out.1 (Nat.succ_pos _)); have HR : Hid (Vr w2 w1.heap.size (nv [0, 0, 0, 0, 0])) := X9; have NB_HR : Hid (NoB w2 w1.heap.size) := N9; have BB : Hid (Below w.heap.size w w2) := BB.out.trans (B9.mono BB.out.size); clear hb0_0 hb0_1 hb0_2 hb0_3 hb0_4; have hb0_0 := HB0.out.cell 0 _ rfl; have hb0_1 := HB0.out.cell 1 _ rfl; have hb0_2 := HB0.out.cell 2 _ rfl; have hb0_3 := HB0.out.cell 3 _ rfl; have hb0_4 := HB0.out.cell 4 _ rfl; clear X9 N9 B9; clear t1; have t2 : (1 : Nat) = 1 := rfl)
    | (have q0 := t0; refine box_lawC _ (sv false n e t v) rfl ?_; intro w1 X9 B9 l9; have HB0 : Hid (Vr w1 w.heap.size (sv false n e t v)) := X9; have BB : Hid (Below w.heap.size w w1) := B9; have hb0_0 := HB0.out.cell 0 _ rfl; have hb0_1 := HB0.out.cell 1 _ rfl; have hb0_2 := HB0.out.cell 2 _ rfl; have hb0_3 := HB0.out.cell 3 _ rfl; have hb0_4 := HB0.out.cell 4 _ rfl; clear X9 B9 l9; clear t0; have t1 : (1 : Nat) = 1 := rfl))
  exact bodyPost_ret (v := .agg (nv [0, 0, N, e, t]).toArray) (results_c rfl _ _ w1.heap.size _ rowy_nums rfl HR.out.1) rfl ⟨rfl, BB.out⟩

set_option maxHeartbeats 4000000 in
theorem right_size (n e t : Int) (v : Value) (xs : List Int) (w : World) (hv : Byt w v xs) (hs : ¬ (1 ≤ n ∧ n ≤ 65535)) :
    Calls Try.prog 20 #[.agg (sv true n e t v).toArray] w fun x w' => x = .returned (.bool false) ∧ Below w.heap.size w w' := by
  obtain ⟨ao, cap, rfl⟩ := form hv
  have SZ : Hid (∀ w0, Calls Try.prog 18 #[.int .i64 n] w0 fun x w' => x = .returned (.bool false) ∧ Below w0.heap.size w0 w') := fun w0 => (size_any n w0 false ((decide_eq_false hs).symm)).mono fun _ _ ⟨h1, h2⟩ => ⟨h1, by rw [h2]; exact Below.refl _ _⟩
  clear hs
  clear hv
  have t0 : (0 : Nat) = 0 := rfl
  go_enter Try.func20, Try.ntmps20
  go_wp2_with (first
    | (have q1 := t1; go_at_call 18; refine (SZ.out w1).mono ?_; rintro e9 w2 ⟨rfl, B9⟩; have HB0 : Hid (Vr w2 w.heap.size (sv true n e t (.slice ao xs.length cap))) := HB0.out.below B9 (range_lt HB0.out.1 (Nat.succ_pos _)); have BB : Hid (Below w.heap.size w w2) := BB.out.trans (B9.mono BB.out.size); clear hb0_0 hb0_1 hb0_2 hb0_3 hb0_4; have hb0_0 := HB0.out.cell 0 _ rfl; have hb0_1 := HB0.out.cell 1 _ rfl; have hb0_2 := HB0.out.cell 2 _ rfl; have hb0_3 := HB0.out.cell 3 _ rfl; have hb0_4 := HB0.out.cell 4 _ rfl; clear B9; clear t1; have t2 : (1 : Nat) = 1 := rfl)
    | (have q0 := t0; refine box_lawC _ (sv true n e t (.slice ao xs.length cap)) rfl ?_; intro w1 X9 B9 l9; have HB0 : Hid (Vr w1 w.heap.size (sv true n e t (.slice ao xs.length cap))) := X9; have BB : Hid (Below w.heap.size w w1) := B9; have hb0_0 := HB0.out.cell 0 _ rfl; have hb0_1 := HB0.out.cell 1 _ rfl; have hb0_2 := HB0.out.cell 2 _ rfl; have hb0_3 := HB0.out.cell 3 _ rfl; have hb0_4 := HB0.out.cell 4 _ rfl; clear X9 B9 l9; clear t0; have t1 : (1 : Nat) = 1 := rfl))
  go_ret
  exact ⟨rfl, BB.out⟩

set_option maxHeartbeats 4000000 in
theorem right_used (n e t : Int) (v : Value) (xs : List Int) (w : World) (hv : Byt w v xs) (b : Bool) (hs : 1 ≤ n ∧ n ≤ 65535) (hn : ((xs.length : Int) == 104) = b) :
    Calls Try.prog 20 #[.agg (sv true n e t v).toArray] w fun x w' => x = .returned (.bool b) ∧ Below w.heap.size w w' := by
  obtain ⟨ao, cap, rfl⟩ := form hv
  have SZ : Hid (∀ w0, Calls Try.prog 18 #[.int .i64 n] w0 fun x w' => x = .returned (.bool true) ∧ Below w0.heap.size w0 w') := fun w0 => (size_any n w0 true ((decide_eq_true hs).symm)).mono fun _ _ ⟨h1, h2⟩ => ⟨h1, by rw [h2]; exact Below.refl _ _⟩
  clear hs
  clear hv
  have t0 : (0 : Nat) = 0 := rfl
  go_enter Try.func20, Try.ntmps20
  go_wp2_with (first
    | (have q1 := t1; go_at_call 18; refine (SZ.out w1).mono ?_; rintro e9 w2 ⟨rfl, B9⟩; have HB0 : Hid (Vr w2 w.heap.size (sv true n e t (.slice ao xs.length cap))) := HB0.out.below B9 (range_lt HB0.out.1 (Nat.succ_pos _)); have BB : Hid (Below w.heap.size w w2) := BB.out.trans (B9.mono BB.out.size); clear hb0_0 hb0_1 hb0_2 hb0_3 hb0_4; have hb0_0 := HB0.out.cell 0 _ rfl; have hb0_1 := HB0.out.cell 1 _ rfl; have hb0_2 := HB0.out.cell 2 _ rfl; have hb0_3 := HB0.out.cell 3 _ rfl; have hb0_4 := HB0.out.cell 4 _ rfl; clear B9; clear t1; have t2 : (1 : Nat) = 1 := rfl)
    | (have q0 := t0; refine box_lawC _ (sv true n e t (.slice ao xs.length cap)) rfl ?_; intro w1 X9 B9 l9; have HB0 : Hid (Vr w1 w.heap.size (sv true n e t (.slice ao xs.length cap))) := X9; have BB : Hid (Below w.heap.size w w1) := B9; have hb0_0 := HB0.out.cell 0 _ rfl; have hb0_1 := HB0.out.cell 1 _ rfl; have hb0_2 := HB0.out.cell 2 _ rfl; have hb0_3 := HB0.out.cell 3 _ rfl; have hb0_4 := HB0.out.cell 4 _ rfl; clear X9 B9 l9; clear t0; have t1 : (1 : Nat) = 1 := rfl))
  go_ret
  exact ⟨rfl, BB.out⟩

set_option maxHeartbeats 4000000 in
theorem right_nums (n e t : Int) (v : Value) (xs : List Int) (w : World) (hv : Byt w v xs) (hd : decide ([0, 0, IntKind.u64.wrap n, e, t] = ([0, 0, 0, 0, 0] : List Int)) = false) :
    Calls Try.prog 20 #[.agg (sv false n e t v).toArray] w fun x w' => x = .returned (.bool false) ∧ Below w.heap.size w w' := by
  obtain ⟨ao, cap, rfl⟩ := form hv
  have SN : Hid (∀ w0, Calls Try.prog 34 #[.agg (sv false n e t (.slice ao xs.length cap)).toArray] w0 fun x w' => x = .returned (.agg (nv [0, 0, IntKind.u64.wrap n, e, t]).toArray) ∧ Below w0.heap.size w0 w') := fun w0 => nums_free n e t _ _ w0 rfl
  have HD : Hid (decide ([0, 0, IntKind.u64.wrap n, e, t] = [0, 0, 0, 0, 0]) = false) := hd
  clear hd
  generalize IntKind.u64.wrap n = N at SN HD
  clear hv
  have t0 : (0 : Nat) = 0 := rfl
  go_enter Try.func20, Try.ntmps20
  go_wp2_with (first
    | (have q4 := t4; refine eql_law _ rfl _ _ _ rfl [0, 0, N, e, t] [0, 0, 0, 0, 0] rfl rfl rfl rfl false HD.out ?_; clear t4; have t5 : (1 : Nat) = 1 := rfl)
    | (have q3 := t3; refine build_law _ rfl 64 _ rfl (.agg (nv [0, 0, 0, 0, 0]).toArray) (by kernel_rfl) ?_; clear t3; have t4 : (1 : Nat) = 1 := rfl)
    | (have q2 := t2; go_at_call 34; refine (SN.out w1).mono ?_; rintro e9 w2 ⟨rfl, B9⟩; have HB0 : Hid (Vr w2 w.heap.size (sv false n e t (.slice ao xs.length cap))) := HB0.out.below B9 (range_lt HB0.out.1 (Nat.succ_pos _)); have BB : Hid (Below w.heap.size w w2) := BB.out.trans (B9.mono BB.out.size); clear hb0_0 hb0_1 hb0_2 hb0_3 hb0_4; have hb0_0 := HB0.out.cell 0 _ rfl; have hb0_1 := HB0.out.cell 1 _ rfl; have hb0_2 := HB0.out.cell 2 _ rfl; have hb0_3 := HB0.out.cell 3 _ rfl; have hb0_4 := HB0.out.cell 4 _ rfl; clear B9; clear t2; have t3 : (1 : Nat) = 1 := rfl)
    | (have q1 := t1; refine load_lawC _ rfl (sv false n e t (.slice ao xs.length cap)) w.heap.size 0 rfl HB0.out.1 rowy_slot ?_; clear t1; have t2 : (1 : Nat) = 1 := rfl)
    | (have q0 := t0; refine box_lawC _ (sv false n e t (.slice ao xs.length cap)) rfl ?_; intro w1 X9 B9 l9; have HB0 : Hid (Vr w1 w.heap.size (sv false n e t (.slice ao xs.length cap))) := X9; have BB : Hid (Below w.heap.size w w1) := B9; have hb0_0 := HB0.out.cell 0 _ rfl; have hb0_1 := HB0.out.cell 1 _ rfl; have hb0_2 := HB0.out.cell 2 _ rfl; have hb0_3 := HB0.out.cell 3 _ rfl; have hb0_4 := HB0.out.cell 4 _ rfl; clear X9 B9 l9; clear t0; have t1 : (1 : Nat) = 1 := rfl))
  go_ret
  exact ⟨rfl, BB.out⟩

set_option maxHeartbeats 4000000 in
theorem right_free (n e t : Int) (v : Value) (xs : List Int) (w : World) (hv : Byt w v xs) (b : Bool) (hd : decide ([0, 0, IntKind.u64.wrap n, e, t] = ([0, 0, 0, 0, 0] : List Int)) = true) (hn : ((xs.length : Int) == 0) = b) :
    Calls Try.prog 20 #[.agg (sv false n e t v).toArray] w fun x w' => x = .returned (.bool b) ∧ Below w.heap.size w w' := by
  obtain ⟨ao, cap, rfl⟩ := form hv
  have SN : Hid (∀ w0, Calls Try.prog 34 #[.agg (sv false n e t (.slice ao xs.length cap)).toArray] w0 fun x w' => x = .returned (.agg (nv [0, 0, IntKind.u64.wrap n, e, t]).toArray) ∧ Below w0.heap.size w0 w') := fun w0 => nums_free n e t _ _ w0 rfl
  have HD : Hid (decide ([0, 0, IntKind.u64.wrap n, e, t] = [0, 0, 0, 0, 0]) = true) := hd
  clear hd
  generalize IntKind.u64.wrap n = N at SN HD
  clear hv
  have t0 : (0 : Nat) = 0 := rfl
  go_enter Try.func20, Try.ntmps20
  go_wp2_with (first
    | (have q4 := t4; refine eql_law _ rfl _ _ _ rfl [0, 0, N, e, t] [0, 0, 0, 0, 0] rfl rfl rfl rfl true HD.out ?_; clear t4; have t5 : (1 : Nat) = 1 := rfl)
    | (have q3 := t3; refine build_law _ rfl 64 _ rfl (.agg (nv [0, 0, 0, 0, 0]).toArray) (by kernel_rfl) ?_; clear t3; have t4 : (1 : Nat) = 1 := rfl)
    | (have q2 := t2; go_at_call 34; refine (SN.out w1).mono ?_; rintro e9 w2 ⟨rfl, B9⟩; have HB0 : Hid (Vr w2 w.heap.size (sv false n e t (.slice ao xs.length cap))) := HB0.out.below B9 (range_lt HB0.out.1 (Nat.succ_pos _)); have BB : Hid (Below w.heap.size w w2) := BB.out.trans (B9.mono BB.out.size); clear hb0_0 hb0_1 hb0_2 hb0_3 hb0_4; have hb0_0 := HB0.out.cell 0 _ rfl; have hb0_1 := HB0.out.cell 1 _ rfl; have hb0_2 := HB0.out.cell 2 _ rfl; have hb0_3 := HB0.out.cell 3 _ rfl; have hb0_4 := HB0.out.cell 4 _ rfl; clear B9; clear t2; have t3 : (1 : Nat) = 1 := rfl)
    | (have q1 := t1; refine load_lawC _ rfl (sv false n e t (.slice ao xs.length cap)) w.heap.size 0 rfl HB0.out.1 rowy_slot ?_; clear t1; have t2 : (1 : Nat) = 1 := rfl)
    | (have q0 := t0; refine box_lawC _ (sv false n e t (.slice ao xs.length cap)) rfl ?_; intro w1 X9 B9 l9; have HB0 : Hid (Vr w1 w.heap.size (sv false n e t (.slice ao xs.length cap))) := X9; have BB : Hid (Below w.heap.size w w1) := B9; have hb0_0 := HB0.out.cell 0 _ rfl; have hb0_1 := HB0.out.cell 1 _ rfl; have hb0_2 := HB0.out.cell 2 _ rfl; have hb0_3 := HB0.out.cell 3 _ rfl; have hb0_4 := HB0.out.cell 4 _ rfl; clear X9 B9 l9; clear t0; have t1 : (1 : Nat) = 1 := rfl))
  go_ret
  exact ⟨rfl, BB.out⟩

theorem wrap_zero {n : Int} (h : -9223372036854775808 ≤ n ∧ n ≤ 9223372036854775807) : IntKind.u64.wrap n = 0 ↔ n = 0 := by
  rw [IntKind.wrap_u64]
  omega
theorem nums_zero {n e t : Int} (h : -9223372036854775808 ≤ n ∧ n ≤ 9223372036854775807) : [0, 0, IntKind.u64.wrap n, e, t] = ([0, 0, 0, 0, 0] : List Int) ↔ n = 0 ∧ e = 0 ∧ t = 0 := by
  simp [wrap_zero h]
/-- a right slot -/
theorem right_yes (u : Bool) (n e t : Int) (v : Value) (xs : List Int) (w : World) (hv : Byt w v xs) (hS : Sb n e t) (h : Rs u n e t xs) :
    Calls Try.prog 20 #[.agg (sv u n e t v).toArray] w fun x w' => x = .returned (.bool true) ∧ Below w.heap.size w w' := by
  cases u
  · obtain ⟨h1, h2, h3, h4⟩ : n = 0 ∧ e = 0 ∧ t = 0 ∧ xs.length = 0 := h
    exact right_free n e t v xs w hv true (decide_eq_true ((nums_zero hS.1).2 ⟨h1, h2, h3⟩)) (by rw [h4]; rfl)
  · obtain ⟨h1, h2, h3⟩ : 1 ≤ n ∧ n ≤ 65535 ∧ xs.length = 104 := h
    exact right_used n e t v xs w hv true ⟨h1, h2⟩ (by rw [h3]; rfl)
/-- a slot that may not be -/
theorem right_no (u : Bool) (n e t : Int) (v : Value) (xs : List Int) (w : World) (hv : Byt w v xs) (hS : Sb n e t) (h : ¬ Rs u n e t xs) :
    Calls Try.prog 20 #[.agg (sv u n e t v).toArray] w fun x w' => x = .returned (.bool false) ∧ Below w.heap.size w w' := by
  cases u
  · have h : ¬ (n = 0 ∧ e = 0 ∧ t = 0 ∧ xs.length = 0) := h
    by_cases h1 : n = 0 ∧ e = 0 ∧ t = 0
    · exact right_free n e t v xs w hv false (decide_eq_true ((nums_zero hS.1).2 h1)) (beq_eq_false_iff_ne.2 fun q => h ⟨h1.1, h1.2.1, h1.2.2, by omega⟩)
    · exact right_nums n e t v xs w hv (decide_eq_false fun q => h1 ((nums_zero hS.1).1 q))
  · have h : ¬ (1 ≤ n ∧ n ≤ 65535 ∧ xs.length = 104) := h
    by_cases h1 : 1 ≤ n ∧ n ≤ 65535
    · exact right_used n e t v xs w hv false h1 (beq_eq_false_iff_ne.2 fun q => h ⟨h1.1, h1.2, by omega⟩)
    · exact right_size n e t v xs w hv h1
end Go.Proofs.Ytifepmdhbhdjpaa.so

/- The field of 256 elements, as numbers: products, powers, inverses. No claim of its own. -/
namespace Go.Proofs.Ytifepmdhbhdjpaa
open Go.RowKit
set_option maxRecDepth 20000

/-- a, if c -/
def sel (c : Bool) (a : Nat) : Nat := bif c then a else 0
theorem sel_xor (c : Bool) (a b : Nat) : sel c (a ^^^ b) = sel c a ^^^ sel c b := by cases c <;> simp [sel]
theorem sel_xor' (c d : Bool) (a : Nat) : sel (c ^^ d) a = sel c a ^^^ sel d a := by cases c <;> cases d <;> simp [sel]
theorem sel_lt (c : Bool) (a n : Nat) (h : a < n) : sel c a < n := by cases c <;> simp [sel] <;> omega

/-- a times x -/
def tm (a : Nat) : Nat := (2 * a % 256) ^^^ sel (a.testBit 7) 27
theorem xor_lt (a b : Nat) (ha : a < 256) (hb : b < 256) : a ^^^ b < 256 := Nat.xor_lt_two_pow (n := 8) ha hb
theorem tm_lt (a : Nat) : tm a < 256 := xor_lt _ _ (Nat.mod_lt _ (by omega)) (sel_lt _ _ _ (by omega))
theorem tm_zero : tm 0 = 0 := by decide
theorem xor_four (a b c d : Nat) : (a ^^^ b) ^^^ (c ^^^ d) = (a ^^^ c) ^^^ (b ^^^ d) := by
  rw [Nat.xor_assoc, Nat.xor_assoc, ← Nat.xor_assoc b c d, Nat.xor_comm b c, Nat.xor_assoc c b d]
theorem two_bit (x i : Nat) : (2 * x).testBit (i + 1) = x.testBit i := by rw [Nat.testBit_succ, show 2 * x / 2 = x by omega]
theorem tm_xor (a b : Nat) : tm (a ^^^ b) = tm a ^^^ tm b := by
  have h : 2 * (a ^^^ b) % 256 = (2 * a % 256) ^^^ (2 * b % 256) := by
    apply Nat.eq_of_testBit_eq
    intro i
    rw [show 256 = 2 ^ 8 from rfl, Nat.testBit_xor, Nat.testBit_mod_two_pow, Nat.testBit_mod_two_pow, Nat.testBit_mod_two_pow]
    cases i with
    | zero => simp
    | succ i =>
      rw [two_bit, two_bit, two_bit]
      rw [Nat.testBit_xor]
      by_cases h : i + 1 < 8 <;> simp [h]
  unfold tm
  rw [h, Nat.testBit_xor, sel_xor', xor_four]
theorem tm_sel (c : Bool) (a : Nat) : tm (sel c a) = sel c (tm a) := by cases c <;> simp [sel, tm_zero]

/-- the product, n bits of the second factor told -/
def gmf : Nat → Nat → Nat → Nat
  | 0, _, _ => 0
  | n + 1, a, b => sel (b.testBit 0) a ^^^ gmf n (tm a) (b / 2)
def gm (a b : Nat) : Nat := gmf 8 a b
theorem gmf_lt (n a b : Nat) (ha : a < 256) : gmf n a b < 256 := by
  induction n generalizing a b with
  | zero => simp [gmf]
  | succ n ih => exact xor_lt _ _ (sel_lt _ _ _ ha) (ih _ _ (tm_lt a))
theorem gm_lt (a b : Nat) (ha : a < 256) : gm a b < 256 := gmf_lt 8 a b ha
theorem gmf_zero (n a : Nat) : gmf n a 0 = 0 := by
  induction n generalizing a with
  | zero => rfl
  | succ n ih => simp [gmf, ih, sel]
theorem gmf_left (n b : Nat) : gmf n 0 b = 0 := by
  induction n generalizing b with
  | zero => rfl
  | succ n ih => simp [gmf, tm_zero, ih, sel]
theorem gmf_more (n a b : Nat) (h : b < 2 ^ n) : gmf (n + 1) a b = gmf n a b := by
  induction n generalizing a b with
  | zero =>
    have : b = 0 := by omega
    subst this; simp [gmf, sel]
  | succ n ih =>
    rw [gmf, ih (tm a) (b / 2) (by rw [Nat.pow_succ] at h; omega)]
    rfl
theorem gmf_xor (n a a' b : Nat) : gmf n (a ^^^ a') b = gmf n a b ^^^ gmf n a' b := by
  induction n generalizing a a' b with
  | zero => simp [gmf]
  | succ n ih => rw [gmf, gmf, gmf, tm_xor, ih, sel_xor, xor_four]
theorem gmf_tm (n a b : Nat) : gmf n (tm a) b = tm (gmf n a b) := by
  induction n generalizing a b with
  | zero => simp [gmf, tm_zero]
  | succ n ih => rw [gmf, gmf, tm_xor, tm_sel, ih]
theorem half_xor (b b' : Nat) : (b ^^^ b') / 2 = b / 2 ^^^ b' / 2 := by
  have := Nat.shiftRight_xor_distrib (a := b) (b := b') (i := 1)
  simpa [Nat.shiftRight_eq_div_pow] using this
theorem gmf_xor' (n a b b' : Nat) : gmf n a (b ^^^ b') = gmf n a b ^^^ gmf n a b' := by
  induction n generalizing a b b' with
  | zero => simp [gmf]
  | succ n ih => rw [gmf, gmf, gmf, half_xor, ih, Nat.testBit_xor, sel_xor', xor_four]
theorem gmf_sel (n : Nat) (c : Bool) (a b : Nat) : gmf n (sel c a) b = sel c (gmf n a b) := by cases c <;> simp [sel, gmf_left]
theorem gm_swap (n a u b : Nat) : gm (gmf n u b) a = gmf n (gm u a) b := by
  induction n generalizing u b with
  | zero => exact gmf_left 8 a
  | succ n ih =>
    have h1 : gm (tm u) a = tm (gm u a) := gmf_tm 8 u a
    have h2 := ih (tm u) (b / 2)
    rw [h1] at h2
    rw [gmf, gmf, ← h2]
    unfold gm
    rw [gmf_xor, gmf_sel]
theorem one_gm : ∀ b, b < 256 → gm 1 b = b := by decide +kernel
theorem gm_comm (a b : Nat) (ha : a < 256) (hb : b < 256) : gm a b = gm b a := by
  have := gm_swap 8 b 1 a
  change gm (gm 1 a) b = gm (gm 1 b) a at this
  rwa [one_gm a ha, one_gm b hb] at this
theorem gm_assoc (a b c : Nat) (ha : a < 256) (hb : b < 256) : gm (gm a b) c = gm a (gm b c) := by
  have := gm_swap 8 c b a
  change gm (gm b a) c = gm (gm b c) a at this
  rw [gm_comm a b ha hb, this, gm_comm _ _ (gm_lt b c hb) ha]
theorem gm_one (a : Nat) (ha : a < 256) : gm a 1 = a := by rw [gm_comm a 1 ha (by omega), one_gm a ha]
theorem gm_zero (a : Nat) : gm a 0 = 0 := gmf_zero 8 a
theorem zero_gm (a : Nat) : gm 0 a = 0 := gmf_left 8 a
theorem gm_dist (a b c : Nat) : gm a (b ^^^ c) = gm a b ^^^ gm a c := gmf_xor' 8 a b c
theorem gm_two (a : Nat) : gm a 2 = tm a := by
  have : gm a 2 = gm (tm a) 1 := by
    show gmf 8 a 2 = gmf 8 (tm a) 1
    rw [gmf, gmf_more 7 (tm a) 1 (by omega)]
    simp [sel]
  rw [this, gm_one _ (tm_lt a)]

/-- a power -/
def pw (a : Nat) : Nat → Nat
  | 0 => 1
  | n + 1 => gm (pw a n) a
theorem pw_lt (a n : Nat) : pw a n < 256 := by
  induction n with
  | zero => simp [pw]
  | succ n ih => exact gm_lt _ _ ih
theorem pw_add (a n m : Nat) : pw a (n + m) = gm (pw a n) (pw a m) := by
  induction m with
  | zero => rw [Nat.add_zero, pw, gm_one _ (pw_lt a n)]
  | succ m ih => rw [← Nat.add_assoc, pw, ih, pw, gm_assoc _ _ _ (pw_lt a n) (pw_lt a m)]
theorem pw_sq (a n : Nat) (ha : a < 256) : pw (gm a a) n = pw a (2 * n) := by
  induction n with
  | zero => rfl
  | succ n ih =>
    rw [pw, ih, show 2 * (n + 1) = 2 * n + 1 + 1 by omega, pw, pw, gm_assoc _ _ _ (pw_lt a _) ha]
/-- a round of squaring -/
theorem pw_round (p a n : Nat) (hp : p < 256) (ha : a < 256) : gm (if n % 2 = 1 then gm p a else p) (pw (gm a a) (n / 2)) = gm p (pw a n) := by
  rw [pw_sq a _ ha]
  by_cases h : n % 2 = 1
  · rw [if_pos h, gm_assoc _ _ _ hp ha]
    have h1 := pw_add a 1 (2 * (n / 2))
    rw [show 1 + 2 * (n / 2) = n by omega] at h1
    rw [h1, show pw a 1 = a from one_gm a ha]
  · rw [if_neg h, show 2 * (n / 2) = n by omega]
def sq (a : Nat) : Nat := gm a a
/-- the 255th power, by squares -/
def p255 (a : Nat) : Nat :=
  let a2 := sq a; let a4 := sq a2; let a8 := sq a4; let x := gm (gm (gm a a2) a4) a8
  gm x (sq (sq (sq (sq x))))
theorem pw_sq' (a n : Nat) : sq (pw a n) = pw a (2 * n) := by rw [sq, ← pw_add a n n, show n + n = 2 * n by omega]
theorem p255_eq (a : Nat) (ha : a < 256) : p255 a = pw a 255 := by
  have e1 : a = pw a 1 := (one_gm a ha).symm
  have h2 : sq a = pw a 2 := by have := pw_sq' a 1; rw [← e1] at this; exact this
  have h4 : sq (sq a) = pw a 4 := by rw [h2, pw_sq' a 2]
  have h8 : sq (sq (sq a)) = pw a 8 := by rw [h4, pw_sq' a 4]
  have hx : gm (gm (gm a (sq a)) (sq (sq a))) (sq (sq (sq a))) = pw a 15 := by
    have h3 : gm a (pw a 2) = pw a 3 := by have := pw_add a 1 2; rw [← e1] at this; exact this.symm
    rw [h8, h4, h2, h3, ← pw_add a 3 4, ← pw_add a 7 8]
  show gm (gm (gm (gm a (sq a)) (sq (sq a))) (sq (sq (sq a)))) (sq (sq (sq (sq (gm (gm (gm a (sq a)) (sq (sq a))) (sq (sq (sq a)))))))) = _
  rw [hx, pw_sq' a _, pw_sq' a _, pw_sq' a _, pw_sq' a _, ← pw_add a _ _]
theorem p255_one : ∀ a, a < 256 → a ≠ 0 → p255 a = 1 := by decide +kernel
theorem pw_255 (a : Nat) (ha : a < 256) (h : a ≠ 0) : pw a 255 = 1 := by rw [← p255_eq a ha, p255_one a ha h]
theorem pw_many (a n m : Nat) (ha : a < 256) (h : a ≠ 0) : pw a (255 * n + m) = pw a m := by
  induction n with
  | zero => simp
  | succ n ih =>
    rw [show 255 * (n + 1) + m = 255 + (255 * n + m) by omega, pw_add a _ _, ih, pw_255 a ha h, one_gm _ (pw_lt a m)]
theorem pw_mod (a n : Nat) (ha : a < 256) (h : a ≠ 0) : pw a (n % 255) = pw a n := by
  have := pw_many a (n / 255) (n % 255) ha h
  rw [← this]; congr 1; omega
theorem pw_nought (n : Nat) : pw 0 (n + 1) = 0 := gm_zero _

/-- the inverse -/
def iv (a : Nat) : Nat := pw a 254
theorem iv_lt (a : Nat) : iv a < 256 := pw_lt a 254
theorem iv_zero : iv 0 = 0 := pw_nought 253
theorem gm_iv (a : Nat) (ha : a < 256) (h : a ≠ 0) : gm a (iv a) = 1 := by
  rw [gm_comm a _ ha (iv_lt a)]; exact pw_255 a ha h
theorem iv_only (a b : Nat) (ha : a < 256) (hb : b < 256) (h : gm a b = 1) : b = iv a := by
  have h0 : a ≠ 0 := by rintro rfl; rw [zero_gm] at h; omega
  have h1 := gm_assoc b a (iv a) hb ha
  rw [gm_iv a ha h0, gm_one b hb, gm_comm b a hb ha, h, one_gm _ (iv_lt a)] at h1
  exact h1.symm

/-- the whole product of polynomials, k bits of the second factor told -/
def pr (a b : Nat) : Nat → Nat
  | 0 => 0
  | k + 1 => pr a b k ^^^ sel (b.testBit k) (a * 2 ^ k)
/-- what is left of it, k places told -/
def rd (p : Nat) : Nat → Nat
  | 0 => p
  | k + 1 => rd p k ^^^ sel ((rd p k).testBit (14 - k)) (283 * 2 ^ (6 - k))
theorem rd_xor (p q k : Nat) : rd (p ^^^ q) k = rd p k ^^^ rd q k := by
  induction k with
  | zero => rfl
  | succ k ih => rw [rd, rd, rd, ih, Nat.testBit_xor, sel_xor', xor_four]
def tmn (a : Nat) : Nat → Nat
  | 0 => a
  | k + 1 => tm (tmn a k)
theorem rd_shift : ∀ a, a < 256 → ∀ k, k < 8 → rd (a * 2 ^ k) 7 = tmn a k := by decide +kernel
theorem rd_zero : rd 0 7 = 0 := by decide
theorem tmn_tm (a k : Nat) : tmn (tm a) k = tmn a (k + 1) := by
  induction k with
  | zero => rfl
  | succ k ih => rw [tmn, ih]; rfl
/-- the product, its bits from below -/
def up (a b : Nat) : Nat → Nat
  | 0 => 0
  | k + 1 => up a b k ^^^ sel (b.testBit k) (tmn a k)
theorem up_first (a b k : Nat) : up a b (k + 1) = sel (b.testBit 0) a ^^^ up (tm a) (b / 2) k := by
  induction k with
  | zero => simp [up, tmn]
  | succ k ih => rw [up, ih, up, Nat.xor_assoc, tmn_tm, Nat.testBit_succ]
theorem up_gmf (a b k : Nat) : up a b k = gmf k a b := by
  induction k generalizing a b with
  | zero => rfl
  | succ k ih => rw [up_first, ih, gmf]
theorem rd_pr (a b : Nat) (ha : a < 256) : rd (pr a b 8) 7 = gm a b := by
  have h : ∀ k, k ≤ 8 → rd (pr a b k) 7 = up a b k := by
    intro k hk
    induction k with
    | zero => exact rd_zero
    | succ k ih =>
      rw [pr, rd_xor, ih (by omega), up]
      congr 1
      cases hc : b.testBit k with
      | false => simp [sel, rd_zero]
      | true => simpa [sel] using rd_shift a ha k (by omega)
  rw [h 8 (by omega), up_gmf]; rfl
theorem pr_lt (a b k : Nat) (ha : a < 256) (hk : k ≤ 8) : pr a b k < 65536 := by
  induction k with
  | zero => simp [pr]
  | succ k ih =>
    refine Nat.xor_lt_two_pow (n := 16) (ih (by omega)) (sel_lt _ _ _ ?_)
    have : 2 ^ k ≤ 2 ^ 7 := Nat.pow_le_pow_right (by omega) (by omega)
    calc a * 2 ^ k ≤ 255 * 2 ^ 7 := Nat.mul_le_mul (by omega) this
      _ < 2 ^ 16 := by omega
theorem rd_lt (p k : Nat) (hp : p < 65536) (hk : k ≤ 7) : rd p k < 65536 := by
  induction k with
  | zero => exact hp
  | succ k ih =>
    refine Nat.xor_lt_two_pow (n := 16) (ih (by omega)) (sel_lt _ _ _ ?_)
    have : 2 ^ (6 - k) ≤ 2 ^ 6 := Nat.pow_le_pow_right (by omega) (by omega)
    calc 283 * 2 ^ (6 - k) ≤ 283 * 2 ^ 6 := Nat.mul_le_mul (by omega) this
      _ < 2 ^ 16 := by omega
end Go.Proofs.Ytifepmdhbhdjpaa

/- What field's Times, Mul, Pow and Inv answer. No claim of its own. -/
namespace Go.Proofs.Ytifepmdhbhdjpaa
open Go.RowKit
set_option maxRecDepth 20000

theorem and128 : ∀ a : Nat, a < 256 → bits .and .u8 (a : Int) 128 = if a.testBit 7 then 128 else 0 := by decide +kernel
theorem tm_hi : ∀ a : Nat, a < 256 → a.testBit 7 = true → bits .xor .u8 ((a : Int) * 2 % 256) 27 = (tm a : Int) := by decide +kernel
theorem tm_lo : ∀ a : Nat, a < 256 → a.testBit 7 = false → (a : Int) * 2 % 256 = (tm a : Int) := by decide +kernel
theorem and1 : ∀ a : Nat, a < 256 → bits .and .u8 (a : Int) 1 = if a.testBit 0 then 1 else 0 := by decide +kernel

set_option maxHeartbeats 1000000 in
theorem times_any (a : Nat) (w : World) (ha : a < 256) :
    Calls Try.prog 90 #[.int .u8 a] w fun e w' => e = .returned (.int .u8 (tm a)) ∧ w' = w := by
  have HA : Hid (a < 256) := ha
  have h1 := and128 a ha
  have hb : 0 ≤ (a : Int) ∧ (a : Int) ≤ 255 := by omega
  cases hc : a.testBit 7 with
  | true =>
    rw [hc, if_pos rfl] at h1
    have HC : Hid (a.testBit 7 = true) := hc
    clear hc
    go_enter Try.func90, Try.ntmps90
    go_wp2
    go_ret
    exact ⟨ret_int (tm_hi a HA.out HC.out), rfl⟩
  | false =>
    rw [hc, if_neg (by decide)] at h1
    have HC : Hid (a.testBit 7 = false) := hc
    clear hc
    go_enter Try.func90, Try.ntmps90
    go_wp2
    go_ret
    exact ⟨ret_int (tm_lo a HA.out HC.out), rfl⟩

set_option maxHeartbeats 1000000 in
theorem mul_any (a b : Nat) (w : World) (ha : a < 256) (hb : b < 256) :
    Calls Try.prog 89 #[.int .u8 a, .int .u8 b] w fun e w' => e = .returned (.int .u8 (gm a b)) ∧ w' = w := by
  have HA : Hid (a < 256) := ha
  have HB : Hid (b < 256) := hb
  clear ha hb
  go_enter Try.func89, Try.ntmps89
  go_wp2
  go_loop [0, 1, 5] (fun x y s => ∃ n x' y' s' : Nat, n ≤ 8 ∧ x = .int .u8 x' ∧ y = .int .u8 y' ∧ s = .int .u8 s' ∧ Hid (x' < 256 ∧ y' < 2 ^ n ∧ s' < 256 ∧ s' ^^^ gmf n x' y' = gm a b)) (fun _ y _ => (intOf y).toNat)
  case atStart => exact ⟨8, a, b, 0, by omega, rfl, rfl, rfl, ⟨HA.out, HB.out, by omega, by simp [gm]⟩⟩
  case round =>
    obtain ⟨n, x, y, s, hn, rfl, rfl, rfl, H⟩ := hrel
    have hy8 : y < 256 := Nat.lt_of_lt_of_le H.out.2.1 (show 2 ^ n ≤ 2 ^ 8 from Nat.pow_le_pow_right (by omega) hn)
    have hx8 := H.out.1
    have hs8 := H.out.2.2.1
    by_cases hy : y = 0
    · subst hy
      go_wp2
      go_ret
      refine ⟨ret_int ?_, rfl⟩
      have := H.out.2.2.2
      rw [gmf_zero, Nat.xor_zero] at this
      rw [this]
    · obtain ⟨m, rfl⟩ : ∃ m, n = m + 1 := by
        cases n with
        | zero => have := H.out.2.1; omega
        | succ m => exact ⟨m, rfl⟩
      have h1 := and1 y hy8
      have h2 := u8_xor_nat s x hs8 hx8
      have h3 : y / 2 < 2 ^ m := by have := H.out.2.1; rw [Nat.pow_succ] at this; omega
      have h4 := H.out.2.2.2
      rw [gmf, ← Nat.xor_assoc] at h4
      have HS : Hid (x < 256 ∧ s < 256 ∧ y / 2 < 2 ^ m ∧ (s ^^^ sel (y.testBit 0) x) ^^^ gmf m (tm x) (y / 2) = gm a b) := ⟨hx8, hs8, h3, h4⟩
      clear H h3 h4 hs8
      cases hc : y.testBit 0 with
      | true =>
        rw [hc, if_pos rfl] at h1
        rw [hc] at HS
        clear hc
        go_wp2_with (go_at_call 90; refine (times_any x _ HS.out.1).mono ?_; rintro e w' ⟨rfl, hw⟩; obtain rfl := hw.symm)
        go_round
        case rel => exact ⟨m, tm x, y / 2, s ^^^ x, by omega, rfl, by simp, rfl, ⟨tm_lt x, HS.out.2.2.1, xor_lt _ _ HS.out.2.1 HS.out.1, HS.out.2.2.2⟩⟩
        case measure => simp [intOf]; omega
      | false =>
        rw [hc, if_neg (by decide)] at h1
        rw [hc] at HS
        clear hc h2
        go_wp2_with (go_at_call 90; refine (times_any x _ HS.out.1).mono ?_; rintro e w' ⟨rfl, hw⟩; obtain rfl := hw.symm)
        go_round
        case rel => exact ⟨m, tm x, y / 2, s, by omega, rfl, by simp, rfl, ⟨tm_lt x, HS.out.2.2.1, HS.out.2.1, by have := HS.out.2.2.2; simpa [sel] using this⟩⟩
        case measure => simp [intOf]; omega

theorem i64_and1 (n : Int) : bits .and .i64 n 1 = n % 2 := by
  have h1 : (BitVec.ofInt 64 1).toNat = 2 ^ 1 - 1 := by decide
  have key : (BitVec.ofInt 64 n &&& BitVec.ofInt 64 1).toNat = (n % ((2 ^ 64 : Nat) : Int)).toNat % 2 ^ 1 := by
    rw [BitVec.toNat_and, BitVec.toNat_ofInt, h1, Nat.and_two_pow_sub_one_eq_mod]
  show IntKind.i64.wrap ((BitVec.ofInt 64 n &&& BitVec.ofInt 64 1).toNat : Nat) = n % 2
  rw [key, IntKind.wrap_i64]
  omega

set_option maxHeartbeats 1000000 in
theorem pow_any (a : Nat) (n : Int) (w : World) (ha : a < 256) (hn : n ≤ 9223372036854775807) :
    Calls Try.prog 82 #[.int .u8 a, .int .i64 n] w fun e w' => e = .returned (.int .u8 (pw a n.toNat)) ∧ w' = w := by
  have HA : Hid (a < 256) := ha
  clear ha
  go_enter Try.func82, Try.ntmps82
  go_wp2
  go_loop [0, 1, 5] (fun x y s => ∃ x' s' : Nat, ∃ y' : Int, x = .int .u8 x' ∧ y = .int .i64 y' ∧ s = .int .u8 s' ∧ y' ≤ 9223372036854775807 ∧ Hid (x' < 256 ∧ s' < 256 ∧ gm s' (pw x' y'.toNat) = pw a n.toNat)) (fun _ y _ => (intOf y).toNat)
  case atStart => exact ⟨a, 1, n, rfl, rfl, rfl, hn, ⟨HA.out, by omega, one_gm _ (pw_lt _ _)⟩⟩
  case round =>
    obtain ⟨x, s, y, rfl, rfl, rfl, hy, H⟩ := hrel
    by_cases h0 : 0 < y
    · have h1 := i64_and1 y
      have HR := pw_round s x y.toNat H.out.2.1 H.out.1
      rw [H.out.2.2, show y.toNat / 2 = (y / 2).toNat by omega] at HR
      have HS : Hid (x < 256 ∧ s < 256 ∧ gm (if y.toNat % 2 = 1 then gm s x else s) (pw (gm x x) (y / 2).toNat) = pw a n.toNat) := ⟨H.out.1, H.out.2.1, HR⟩
      clear H HR
      by_cases hc : y % 2 = 1
      · rw [if_pos (by omega)] at HS
        rw [hc] at h1
        go_wp2_with (first
          | (go_at_call_of 89 (Value.int IntKind.u8 (s : Int)); refine (mul_any s x _ HS.out.2.1 HS.out.1).mono ?_; rintro e w' ⟨rfl, hw⟩; obtain rfl := hw.symm)
          | (go_at_call_of 89 (Value.int IntKind.u8 (x : Int)); refine (mul_any x x _ HS.out.1 HS.out.1).mono ?_; rintro e w' ⟨rfl, hw⟩; obtain rfl := hw.symm))
        go_round
        case rel => exact ⟨gm x x, gm s x, y / 2, rfl, by go_num, rfl, by omega, ⟨gm_lt _ _ HS.out.1, gm_lt _ _ HS.out.2.1, HS.out.2.2⟩⟩
        case measure => simp [intOf]; omega
      · rw [if_neg (by omega)] at HS
        have hc : y % 2 = 0 := by omega
        rw [hc] at h1
        go_wp2_with (go_at_call 89; refine (mul_any x x _ HS.out.1 HS.out.1).mono ?_; rintro e w' ⟨rfl, hw⟩; obtain rfl := hw.symm)
        go_round
        case rel => exact ⟨gm x x, s, y / 2, rfl, by go_num, rfl, by omega, ⟨gm_lt _ _ HS.out.1, HS.out.2.1, HS.out.2.2⟩⟩
        case measure => simp [intOf]; omega
    · have h1 : y.toNat = 0 := by omega
      have HE : Hid (s = pw a n.toNat) := by
        have := H.out.2.2
        rw [h1, pw, gm_one _ H.out.2.1] at this
        exact this
      clear H
      go_wp2
      go_ret
      exact ⟨ret_int (by rw [HE.out]), rfl⟩
end Go.Proofs.Ytifepmdhbhdjpaa

/- What the reference's bit, power, Mul, Pow and Inv answer. No claim of its own. -/
namespace Go.Proofs.Ytifepmdhbhdjpaa
open Go.RowKit
set_option maxRecDepth 20000

/-- a bit, as a number -/
def bt (n i : Nat) : Nat := n / 2 ^ i % 2
theorem bt_of (n i : Nat) : bt n i = if n.testBit i then 1 else 0 := by
  rw [Nat.testBit_eq_decide_div_mod_eq, bt]
  by_cases h : n / 2 ^ i % 2 = 1
  · simp [h]
  · simp [h]; omega
def hv (n k : Nat) : Nat := n / 2 ^ k
theorem hv_succ (n k : Nat) : hv n k / 2 = hv n (k + 1) := by rw [hv, hv, Nat.div_div_eq_div_mul, ← Nat.pow_succ]
theorem hv_le (n k : Nat) : hv n k ≤ n := Nat.div_le_self _ _

set_option maxHeartbeats 1000000 in
theorem rbit_any (n i : Nat) (w : World) (hn : n < 65536) (hi : i < 15) :
    Calls Try.prog 80 #[.int .i64 n, .int .i64 i] w fun e w' => e = .returned (.int .i64 (bt n i)) ∧ w' = w := by
  go_enter Try.func80, Try.ntmps80
  go_wp2
  go_loop [0, 5] (fun x j => ∃ k : Nat, k ≤ i ∧ j = .int .i64 k ∧ x = .int .i64 (hv n k)) (fun _ j => i - (intOf j).toNat)
  case atStart => exact ⟨0, Nat.zero_le _, rfl, by simp [hv]⟩
  case round =>
    obtain ⟨k, hk, rfl, rfl⟩ := hrel
    have h1 := hv_le n k
    have h2 := hv_succ n k
    by_cases hlt : k < i
    · have H2 : Hid (hv n k / 2 = hv n (k + 1)) := h2
      clear h2
      go_wp2
      go_round
      case rel => exact ⟨k + 1, by omega, by go_num, by rw [← H2.out]; simp⟩
      case measure => simp [intOf]; omega
    · have hks : k = i := by omega
      subst hks
      clear h2
      go_wp2
      go_ret
      exact ⟨ret_int (by simp [bt, hv]), rfl⟩

set_option maxHeartbeats 1000000 in
theorem rpower_any (n : Nat) (w : World) (hn : n ≤ 31) :
    Calls Try.prog 81 #[.int .i64 n] w fun e w' => e = .returned (.int .i64 ((2 ^ n : Nat) : Int)) ∧ w' = w := by
  go_enter Try.func81, Try.ntmps81
  go_wp2
  go_loop [3, 4] (fun p i => ∃ k q : Nat, k ≤ n ∧ i = .int .i64 k ∧ p = .int .i64 q ∧ q = 2 ^ k) (fun _ i => n - (intOf i).toNat)
  case atStart => exact ⟨0, 1, Nat.zero_le _, rfl, rfl, rfl⟩
  case round =>
    obtain ⟨k, q, hk, rfl, rfl, hq⟩ := hrel
    have hq2 : q ≤ 2147483648 := by rw [hq]; exact (show 2 ^ k ≤ 2 ^ 31 from Nat.pow_le_pow_right (by omega) (by omega))
    have HQ : Hid (q = 2 ^ k) := hq
    clear hq
    by_cases hlt : k < n
    · go_wp2
      go_round
      case rel => exact ⟨k + 1, q * 2, by omega, by go_num, by go_num, by rw [HQ.out, Nat.pow_succ]⟩
      case measure => simp [intOf]; omega
    · have hks : k = n := by omega
      subst hks
      go_wp2
      go_ret
      exact ⟨ret_int (by have h := HQ.out; subst h; simp), rfl⟩

theorem i64_xor_nat (a b : Nat) (ha : a < 65536) (hb : b < 65536) : bits .xor .i64 (a : Int) (b : Int) = ((a ^^^ b : Nat) : Int) := by
  have hx : a ^^^ b < 2 ^ 16 := Nat.xor_lt_two_pow (by omega) (by omega)
  show IntKind.i64.wrap ((BitVec.ofInt 64 (a : Int) ^^^ BitVec.ofInt 64 (b : Int)).toNat : Int) = _
  rw [BitVec.toNat_xor, BitVec.ofInt_natCast, BitVec.ofInt_natCast, BitVec.toNat_ofNat, BitVec.toNat_ofNat, Nat.mod_eq_of_lt (by omega), Nat.mod_eq_of_lt (by omega), IntKind.wrap_i64]
  omega

set_option maxHeartbeats 2000000 in
theorem rmul_any (a b : Nat) (w : World) (ha : a < 256) (hb : b < 256) :
    Calls Try.prog 59 #[.int .u8 a, .int .u8 b] w fun e w' => e = .returned (.int .u8 (gm a b)) ∧ w' = w := by
  go_enter Try.func59, Try.ntmps59
  go_wp2
  go_loop [5, 6] (fun p i => ∃ k : Nat, k ≤ 8 ∧ i = .int .i64 k ∧ p = .int .i64 (pr a b k)) (fun _ i => 8 - (intOf i).toNat)
  case atStart => exact ⟨0, Nat.zero_le _, rfl, rfl⟩
  case round =>
    obtain ⟨k, hk, rfl, rfl⟩ := hrel
    have hp := pr_lt a b k ha hk
    by_cases hlt : k < 8
    · have H : Hid (pr a b (k + 1) = pr a b k ^^^ sel (b.testBit k) (a * 2 ^ k)) := rfl
      have HB : Hid (∀ w, Calls Try.prog 80 #[.int .i64 b, .int .i64 k] w fun e w' => e = .returned (.int .i64 (bt b k)) ∧ w' = w) := fun w => rbit_any b k w (by omega) (by omega)
      have HP : Hid (∀ w, Calls Try.prog 81 #[.int .i64 k] w fun e w' => e = .returned (.int .i64 ((2 ^ k : Nat) : Int)) ∧ w' = w) := fun w => rpower_any k w (by omega)
      have hb1 := bt_of b k
      have hq1 : a * 2 ^ k < 65536 := by
        have : 2 ^ k ≤ 2 ^ 7 := Nat.pow_le_pow_right (by omega) (by omega)
        have := Nat.mul_le_mul (show a ≤ 255 by omega) this
        omega
      have hq2 := i64_xor_nat (pr a b k) (a * 2 ^ k) hp hq1
      generalize bt b k = B at HB hb1
      generalize 2 ^ k = P at HP hq1 hq2 H
      generalize pr a b k = y at hp hq2 H
      have hq3 : 0 ≤ (a : Int) * (P : Int) ∧ (a : Int) * (P : Int) < 65536 := by rw [← Int.natCast_mul]; omega
      rw [Int.natCast_mul] at hq2
      clear hq1
      cases hc : b.testBit k with
      | true =>
        rw [hc, if_pos rfl] at hb1
        rw [hc] at H
        subst hb1
        clear hc
        go_wp2_with (first
          | (go_at_call 80; refine (HB.out _).mono ?_; rintro e w' ⟨rfl, hw⟩; obtain rfl := hw.symm)
          | (go_at_call 81; refine (HP.out _).mono ?_; rintro e w' ⟨rfl, hw⟩; obtain rfl := hw.symm))
        go_round
        case rel => exact ⟨k + 1, by omega, by go_num, by rw [H.out]; rfl⟩
        case measure => simp [intOf]; omega
      | false =>
        rw [hc, if_neg (by decide)] at hb1
        rw [hc] at H
        subst hb1
        clear hc
        go_wp2_with (first
          | (go_at_call 80; refine (HB.out _).mono ?_; rintro e w' ⟨rfl, hw⟩; obtain rfl := hw.symm))
        go_round
        case rel => exact ⟨k + 1, by omega, by go_num, by rw [H.out]; simp [sel]⟩
        case measure => simp [intOf]; omega
    · have hk8 : k = 8 := by omega
      subst hk8
      have hq := pr_lt a b 8 ha (by omega)
      have HE : Hid (rd (pr a b 8) 7 = gm a b) := rd_pr a b ha
      have HG : Hid (gm a b < 256) := gm_lt a b ha
      have HD : Hid (∀ k, k ≤ 7 → rd (pr a b 8) k < 65536) := fun k hk => rd_lt _ k hq hk
      generalize pr a b 8 = q at HE HD
      clear hq hk hlt
      go_wp2
      go_loop [5, 7] (fun p i => ∃ k : Nat, k ≤ 7 ∧ i = .int .i64 (14 - (k : Int)) ∧ p = .int .i64 (rd q k)) (fun _ i => (intOf i).toNat)
      case atStart => exact ⟨0, Nat.zero_le _, rfl, rfl⟩
      case round =>
        obtain ⟨k, hk, rfl, rfl⟩ := hrel
        have hp := HD.out k hk
        by_cases hlt : k < 7
        · have H : Hid (rd q (k + 1) = rd q k ^^^ sel ((rd q k).testBit (14 - k)) (283 * 2 ^ (6 - k))) := rfl
          have HB : Hid (∀ w, Calls Try.prog 80 #[.int .i64 (rd q k), .int .i64 (14 - (k : Int))] w fun e w' => e = .returned (.int .i64 (bt (rd q k) (14 - k))) ∧ w' = w) := by
            intro w
            have := rbit_any (rd q k) (14 - k) w hp (by omega)
            rwa [show ((14 - k : Nat) : Int) = 14 - (k : Int) by omega] at this
          have HP : Hid (∀ w, Calls Try.prog 81 #[.int .i64 (6 - (k : Int))] w fun e w' => e = .returned (.int .i64 ((2 ^ (6 - k) : Nat) : Int)) ∧ w' = w) := by
            intro w
            have := rpower_any (6 - k) w (by omega)
            rwa [show ((6 - k : Nat) : Int) = 6 - (k : Int) by omega] at this
          have hb1 := bt_of (rd q k) (14 - k)
          have hq1 : 2 ^ (6 - k) ≤ 64 := show 2 ^ (6 - k) ≤ 2 ^ 6 from Nat.pow_le_pow_right (by omega) (by omega)
          have hq2 := i64_xor_nat (rd q k) (283 * 2 ^ (6 - k)) hp (by omega)
          have h6 : (14 : Int) - (k : Int) - 8 = 6 - (k : Int) := by omega
          generalize bt (rd q k) (14 - k) = B at HB hb1
          generalize 2 ^ (6 - k) = P at HP hq1 hq2 H
          generalize rd q k = y at hp hq2 H HB hb1
          rw [Int.natCast_mul] at hq2
          change bits .xor .i64 (y : Int) (283 * (P : Int)) = _ at hq2
          cases hc : y.testBit (14 - k) with
          | true =>
            rw [hc, if_pos rfl] at hb1
            rw [hc] at H
            subst hb1
            clear hc
            go_wp2_with (first
              | (go_at_call 80; refine (HB.out _).mono ?_; rintro e w' ⟨rfl, hw⟩; obtain rfl := hw.symm)
              | (go_at_call 81; refine (HP.out _).mono ?_; rintro e w' ⟨rfl, hw⟩; obtain rfl := hw.symm))
            go_round
            case rel => exact ⟨k + 1, by omega, by go_num, by rw [H.out]; rfl⟩
            case measure => simp [intOf]; omega
          | false =>
            rw [hc, if_neg (by decide)] at hb1
            rw [hc] at H
            subst hb1
            clear hc
            go_wp2_with (first
              | (go_at_call 80; refine (HB.out _).mono ?_; rintro e w' ⟨rfl, hw⟩; obtain rfl := hw.symm))
            go_round
            case rel => exact ⟨k + 1, by omega, by go_num, by rw [H.out]; simp [sel]⟩
            case measure => simp [intOf]; omega
        · have hk7 : k = 7 := by omega
          subst hk7
          rw [HE.out]
          have hg := HG.out
          clear HD hp hk hlt
          go_wp2
          go_ret
          exact ⟨ret_int (by omega), rfl⟩

set_option maxHeartbeats 1000000 in
theorem rpow_any (a n : Nat) (w : World) (ha : a < 256) (hn : n ≤ 255) :
    Calls Try.prog 60 #[.int .u8 a, .int .i64 n] w fun e w' => e = .returned (.int .u8 (pw a n)) ∧ w' = w := by
  have HA : Hid (a < 256) := ha
  clear ha
  go_enter Try.func60, Try.ntmps60
  go_wp2
  go_loop [5, 6] (fun p i => ∃ k : Nat, k ≤ n ∧ i = .int .i64 k ∧ p = .int .u8 (pw a k)) (fun _ i => n - (intOf i).toNat)
  case atStart => exact ⟨0, Nat.zero_le _, rfl, rfl⟩
  case round =>
    obtain ⟨k, hk, rfl, rfl⟩ := hrel
    by_cases hlt : k < n
    · go_wp2_with (go_at_call 59; refine (rmul_any (pw a k) a _ (pw_lt a k) HA.out).mono ?_; rintro e w' ⟨rfl, hw⟩; obtain rfl := hw.symm)
      go_round
      case rel => exact ⟨k + 1, by omega, by go_num, rfl⟩
      case measure => simp [intOf]; omega
    · have hks : k = n := by omega
      subst hks
      go_wp2
      go_ret
      exact ⟨rfl, rfl⟩

set_option maxRecDepth 20000 in
set_option maxHeartbeats 1000000 in
theorem rinv_any (a : Nat) (w : World) (ha : a < 256) :
    Calls Try.prog 40 #[.int .u8 a] w fun e w' => e = .returned (.int .u8 (iv a)) ∧ w' = w := by
  have HA : Hid (a < 256) := ha
  clear ha
  go_enter Try.func40, Try.ntmps40
  go_wp2
  go_loop [3] (fun i => ∃ k : Nat, 1 ≤ k ∧ k ≤ 256 ∧ i = .int .i64 k ∧ Hid (∀ j, 1 ≤ j → j < k → gm a j ≠ 1)) (fun i => 256 - (intOf i).toNat)
  case atStart => exact ⟨1, by omega, by omega, rfl, fun j h1 h2 => by omega⟩
  case round =>
    obtain ⟨k, hk1, hk, rfl, HN⟩ := hrel
    by_cases hlt : k < 256
    · have HK : Hid (k < 256) := hlt
      have h8 : IntKind.u8.wrap (k : Int) = (k : Int) := by rw [IntKind.wrap_u8']; omega
      have HC : Hid (∀ w, Calls Try.prog 59 #[.int .u8 a, .int .u8 k] w fun e w' => e = .returned (.int .u8 (gm a k)) ∧ w' = w) := fun w => rmul_any a k w HA.out hlt
      by_cases hg : gm a k = 1
      · have HI : Hid (k = iv a) := iv_only a k HA.out hlt hg
        rw [hg] at HC
        clear hg
        go_wp2_with (go_at_call 59; refine (HC.out _).mono ?_; rintro e w' ⟨rfl, hw⟩; obtain rfl := hw.symm)
        go_ret
        exact ⟨ret_int (by rw [← HI.out]; try omega), rfl⟩
      · have HM : Hid (∀ j, 1 ≤ j → j < k + 1 → gm a j ≠ 1) := fun j h1 h2 => by
          by_cases hj : j = k
          · subst hj; exact hg
          · exact HN.out j h1 (by omega)
        generalize gm a k = g at HC hg
        have hg' : ¬ ((g : Int) = 1) := by omega
        clear hg HN
        go_wp2_with (go_at_call 59; refine (HC.out _).mono ?_; rintro e w' ⟨rfl, hw⟩; obtain rfl := hw.symm)
        go_round
        case rel => exact ⟨k + 1, by omega, by omega, by go_num, HM⟩
        case measure => simp [intOf]; omega
    · have hks : k = 256 := by omega
      subst hks
      have HZ : Hid (iv a = 0) := by
        by_cases h0 : a = 0
        · subst h0; exact iv_zero
        · exfalso
          have h1 := gm_iv a HA.out h0
          refine HN.out (iv a) ?_ (iv_lt a) h1
          rcases Nat.eq_zero_or_pos (iv a) with h | h
          · rw [h, gm_zero] at h1; omega
          · exact h
      clear HN
      go_wp2
      go_ret
      exact ⟨ret_int (by rw [HZ.out]; rfl), rfl⟩
end Go.Proofs.Ytifepmdhbhdjpaa

/- What AES puts for bytes, as numbers: the two tables, the definition by inverses. No claim of its own. -/
namespace Go.Proofs.Ytifepmdhbhdjpaa
open Go.RowKit
set_option maxRecDepth 20000

/-- what is put for each byte -/
def ptab : List Int := [99, 124, 119, 123, 242, 107, 111, 197, 48, 1, 103, 43, 254, 215, 171, 118, 202, 130, 201, 125, 250, 89, 71, 240, 173, 212, 162, 175, 156, 164, 114, 192,
  183, 253, 147, 38, 54, 63, 247, 204, 52, 165, 229, 241, 113, 216, 49, 21, 4, 199, 35, 195, 24, 150, 5, 154, 7, 18, 128, 226, 235, 39, 178, 117,
  9, 131, 44, 26, 27, 110, 90, 160, 82, 59, 214, 179, 41, 227, 47, 132, 83, 209, 0, 237, 32, 252, 177, 91, 106, 203, 190, 57, 74, 76, 88, 207,
  208, 239, 170, 251, 67, 77, 51, 133, 69, 249, 2, 127, 80, 60, 159, 168, 81, 163, 64, 143, 146, 157, 56, 245, 188, 182, 218, 33, 16, 255, 243, 210,
  205, 12, 19, 236, 95, 151, 68, 23, 196, 167, 126, 61, 100, 93, 25, 115, 96, 129, 79, 220, 34, 42, 144, 136, 70, 238, 184, 20, 222, 94, 11, 219,
  224, 50, 58, 10, 73, 6, 36, 92, 194, 211, 172, 98, 145, 149, 228, 121, 231, 200, 55, 109, 141, 213, 78, 169, 108, 86, 244, 234, 101, 122, 174, 8,
  186, 120, 37, 46, 28, 166, 180, 198, 232, 221, 116, 31, 75, 189, 139, 138, 112, 62, 181, 102, 72, 3, 246, 14, 97, 53, 87, 185, 134, 193, 29, 158,
  225, 248, 152, 17, 105, 217, 142, 148, 155, 30, 135, 233, 206, 85, 40, 223, 140, 161, 137, 13, 191, 230, 66, 104, 65, 153, 45, 15, 176, 84, 187, 22]
/-- the bytes for which each is put -/
def btab : List Int := [82, 9, 106, 213, 48, 54, 165, 56, 191, 64, 163, 158, 129, 243, 215, 251, 124, 227, 57, 130, 155, 47, 255, 135, 52, 142, 67, 68, 196, 222, 233, 203,
  84, 123, 148, 50, 166, 194, 35, 61, 238, 76, 149, 11, 66, 250, 195, 78, 8, 46, 161, 102, 40, 217, 36, 178, 118, 91, 162, 73, 109, 139, 209, 37,
  114, 248, 246, 100, 134, 104, 152, 22, 212, 164, 92, 204, 93, 101, 182, 146, 108, 112, 72, 80, 253, 237, 185, 218, 94, 21, 70, 87, 167, 141, 157, 132,
  144, 216, 171, 0, 140, 188, 211, 10, 247, 228, 88, 5, 184, 179, 69, 6, 208, 44, 30, 143, 202, 63, 15, 2, 193, 175, 189, 3, 1, 19, 138, 107,
  58, 145, 17, 65, 79, 103, 220, 234, 151, 242, 207, 206, 240, 180, 230, 115, 150, 172, 116, 34, 231, 173, 53, 133, 226, 249, 55, 232, 28, 117, 223, 110,
  71, 241, 26, 113, 29, 41, 197, 137, 111, 183, 98, 14, 170, 24, 190, 27, 252, 86, 62, 75, 198, 210, 121, 32, 154, 219, 192, 254, 120, 205, 90, 244,
  31, 221, 168, 51, 136, 7, 199, 49, 177, 18, 16, 89, 39, 128, 236, 95, 96, 81, 127, 169, 25, 181, 74, 13, 45, 229, 122, 159, 147, 201, 156, 239,
  160, 224, 59, 77, 174, 42, 245, 176, 200, 235, 187, 60, 131, 83, 153, 97, 23, 43, 4, 126, 186, 119, 214, 38, 225, 105, 20, 99, 85, 33, 12, 125]
/-- the inverses -/
def ivl : List Nat := [0, 1, 141, 246, 203, 82, 123, 209, 232, 79, 41, 192, 176, 225, 229, 199, 116, 180, 170, 75, 153, 43, 96, 95, 88, 63, 253, 204, 255, 64, 238, 178,
  58, 110, 90, 241, 85, 77, 168, 201, 193, 10, 152, 21, 48, 68, 162, 194, 44, 69, 146, 108, 243, 57, 102, 66, 242, 53, 32, 111, 119, 187, 89, 25,
  29, 254, 55, 103, 45, 49, 245, 105, 167, 100, 171, 19, 84, 37, 233, 9, 237, 92, 5, 202, 76, 36, 135, 191, 24, 62, 34, 240, 81, 236, 97, 23,
  22, 94, 175, 211, 73, 166, 54, 67, 244, 71, 145, 223, 51, 147, 33, 59, 121, 183, 151, 133, 16, 181, 186, 60, 182, 112, 208, 6, 161, 250, 129, 130,
  131, 126, 127, 128, 150, 115, 190, 86, 155, 158, 149, 217, 247, 2, 185, 164, 222, 106, 50, 109, 216, 138, 132, 114, 42, 20, 159, 136, 249, 220, 137, 154,
  251, 124, 46, 195, 143, 184, 101, 72, 38, 200, 18, 74, 206, 231, 210, 98, 12, 224, 31, 239, 17, 117, 120, 113, 165, 142, 118, 61, 189, 188, 134, 87,
  11, 40, 47, 163, 218, 212, 228, 15, 169, 39, 83, 4, 27, 252, 172, 230, 122, 7, 174, 99, 197, 219, 226, 234, 148, 139, 196, 213, 157, 248, 144, 107,
  177, 13, 214, 235, 198, 14, 207, 173, 8, 78, 215, 227, 93, 80, 30, 179, 91, 35, 56, 52, 104, 70, 3, 140, 221, 156, 125, 160, 205, 26, 65, 28]
theorem ptab_len : ptab.length = 256 := by decide +kernel
theorem btab_len : btab.length = 256 := by decide +kernel
/-- what is put for a byte -/
def sb (a : Nat) : Nat := (gb ptab a).toNat
/-- the byte for which it is put -/
def sk (a : Nat) : Nat := (gb btab a).toNat
theorem ptab_all : ∀ a, a < 256 → gb ptab a = (sb a : Int) ∧ sb a < 256 := by decide +kernel
theorem btab_all : ∀ a, a < 256 → gb btab a = (sk a : Int) ∧ sk a < 256 := by decide +kernel
theorem gb_p (a : Nat) (h : a < 256) : gb ptab a = (sb a : Int) := (ptab_all a h).1
theorem gb_b (a : Nat) (h : a < 256) : gb btab a = (sk a : Int) := (btab_all a h).1
theorem sb_lt (a : Nat) (h : a < 256) : sb a < 256 := (ptab_all a h).2
theorem sk_lt (a : Nat) (h : a < 256) : sk a < 256 := (btab_all a h).2
theorem sk_sb : ∀ a, a < 256 → sk (sb a) = a := by decide +kernel
theorem sb_sk : ∀ a, a < 256 → sb (sk a) = a := by decide +kernel
theorem sb_ne : ∀ a, a < 256 → sb a ≠ a := by decide +kernel

theorem ivl_one : ∀ a, a < 256 → ivl.getD a 0 < 256 ∧ (a ≠ 0 → gm a (ivl.getD a 0) = 1) := by decide +kernel
theorem ivl_eq (a : Nat) (h : a < 256) : iv a = ivl.getD a 0 := by
  by_cases h0 : a = 0
  · subst h0; rw [iv_zero]; decide
  · exact (iv_only a _ h (ivl_one a h).1 ((ivl_one a h).2 h0)).symm
/-- a bit, the place modulo 8 -/
def b8 (n i : Nat) : Nat := hv n (i % 8) % 2
/-- bit i of what is put for the byte whose inverse is v -/
def sbt (v i : Nat) : Nat := b8 v i ^^^ b8 v (i + 4) ^^^ b8 v (i + 5) ^^^ b8 v (i + 6) ^^^ b8 v (i + 7) ^^^ b8 99 i
/-- the first k of them -/
def so (v : Nat) : Nat → Nat
  | 0 => 0
  | k + 1 => so v k + 2 ^ k * sbt v k
theorem so_ivl : ∀ a, a < 256 → so (ivl.getD a 0) 8 = sb a := by decide +kernel
theorem so_iv (a : Nat) (h : a < 256) : so (iv a) 8 = sb a := by rw [ivl_eq a h, so_ivl a h]
theorem b8_lt (n i : Nat) : b8 n i < 2 := Nat.mod_lt _ (by omega)
theorem xor2 (a b : Nat) (ha : a < 2) (hb : b < 2) : a ^^^ b < 2 := Nat.xor_lt_two_pow (n := 1) ha hb
theorem sbt_lt (v i : Nat) : sbt v i < 2 := xor2 _ _ (xor2 _ _ (xor2 _ _ (xor2 _ _ (xor2 _ _ (b8_lt _ _) (b8_lt _ _)) (b8_lt _ _)) (b8_lt _ _)) (b8_lt _ _)) (b8_lt _ _)
theorem so_lt (v k : Nat) : so v k < 2 ^ k := by
  induction k with
  | zero => simp [so]
  | succ k ih =>
    have h := sbt_lt v k
    have : 2 ^ k * sbt v k ≤ 2 ^ k * 1 := Nat.mul_le_mul_left _ (by omega)
    rw [so, Nat.pow_succ]; omega
end Go.Proofs.Ytifepmdhbhdjpaa

/- What sbox's tables, Sub, Back, Subs, Backs answer. No claim of its own. -/
namespace Go.Proofs.Ytifepmdhbhdjpaa
open Go.RowKit
set_option maxRecDepth 20000

/-- noughts -/
def z256 : List Int := List.replicate 256 0
theorem z256_len : z256.length = 256 := List.length_replicate
theorem z_arr256 : (Try.prog.info? 103).map (fun i => (i.zero, i.size)) = some (some (.agg (ints .u8 z256)), z256.length) := by kernel_rfl
theorem i_arr256 : (Try.prog.info? 103).map (·.size) = some 256 := by kernel_rfl

set_option maxRecDepth 100000 in
set_option maxHeartbeats 2000000 in
theorem puts_any (w : World) :
    Calls Try.prog 86 #[] w fun e w' => e = .returned (.agg (ints .u8 ptab)) ∧ Below w.heap.size w w' := by
  go_enter Try.func86, Try.ntmps86
  go_wp2_with (first
    | (refine new_lawF _ rfl 103 rfl .u8 z256 z_arr256 ?_; intro w1 A1 B1 s1)
    | (refine build_law _ rfl 103 _ rfl (.agg (ints .u8 ptab)) (by kernel_rfl) ?_)
    | (refine store_lawF _ rfl (.tmp 0) (.tmp 1) 103 rfl .u8 z256 ptab w.heap.size rfl rfl A1 256 i_arr256 z256_len ptab_len ?_; intro w2 A2 B2))
  refine bodyPost_ret (v := .agg (ints .u8 ptab)) (results_ar rfl _ _ w.heap.size 0 .u8 ptab rfl A2 256 5 Try.underlying103 i_arr256 ptab_len) rfl ⟨rfl, ?_⟩
  exact B1.trans B2

set_option maxRecDepth 100000 in
set_option maxHeartbeats 2000000 in
theorem backs_any (w : World) :
    Calls Try.prog 88 #[] w fun e w' => e = .returned (.agg (ints .u8 btab)) ∧ Below w.heap.size w w' := by
  go_enter Try.func88, Try.ntmps88
  go_wp2_with (first
    | (refine new_lawF _ rfl 103 rfl .u8 z256 z_arr256 ?_; intro w1 A1 B1 s1)
    | (refine build_law _ rfl 103 _ rfl (.agg (ints .u8 btab)) (by kernel_rfl) ?_)
    | (refine store_lawF _ rfl (.tmp 0) (.tmp 1) 103 rfl .u8 z256 btab w.heap.size rfl rfl A1 256 i_arr256 z256_len btab_len ?_; intro w2 A2 B2))
  refine bodyPost_ret (v := .agg (ints .u8 btab)) (results_ar rfl _ _ w.heap.size 0 .u8 btab rfl A2 256 5 Try.underlying103 i_arr256 btab_len) rfl ⟨rfl, ?_⟩
  exact B1.trans B2

/-- an element of a table of 256 -/
theorem idx256 {ops : Array Oper} {rest : List Oper} {o : Oper} {a : Act} {Q : Exit → Act → World → Prop} (w : World) (hg : o.guard = none) (x y : Operand) (hop : o.op = Op.index 103 x y) (xs : List Int) (i : Nat) (hx : a.eval x = .agg (ints .u8 xs)) (hy : a.eval y = .int .u8 i) (hl : xs.length = 256) (hi : i < 256)
    (q : Int) (hq : q = gb xs i) (hK : wpList Try.prog ops Q rest (a.put o.dst (.int .u8 q)) w) : wpList Try.prog ops Q (o :: rest) a w := by
  subst hq
  refine wpList_plain hg fun K hK' => ?_
  have e : (ints .u8 xs)[i]? = some (.int .u8 (gb xs i)) := by simp [ints, gb, List.getD, show i < xs.length by omega]
  have hu := Try.underlying103
  have hu2 := Try.underlying5
  have hsz : (ints .u8 xs).size = 256 := by simp [ints, hl]
  have hr : (Instr.index 103 (.agg (ints .u8 xs)) (.int .u8 i)).run Try.prog w = .ok (.int .u8 (gb xs i)) w := by
    simp [Instr.index, asIntOf, run_underlying hu, run_underlying hu2, Go.part, isAgg, e]
    intro h; omega
  unfold Oper.wp execOp
  simp only [hop, hx, hy, Sem.run_bind, Sem.run_pure, Result.andThen_ok, hr]
  exact hK' _ _ hK

/-- what a table has for each byte -/
def looked (tab xs : List Int) : List Int := xs.map fun x => gb tab x.toNat
theorem looked_len (tab xs : List Int) : (looked tab xs).length = xs.length := by simp [looked]
theorem looked_gb (tab xs : List Int) (k : Nat) (hk : k < xs.length) : gb (looked tab xs) k = gb tab (gb xs k).toNat := by
  simp only [looked, gb, List.getD, List.getElem?_map, List.getElem?_eq_getElem hk, Option.map_some, Option.getD_some]
theorem looked_all (tab xs : List Int) (h : AllB tab) : AllB (looked tab xs) := allB_mem fun x hx => by
  obtain ⟨y, _, rfl⟩ := List.mem_map.1 hx
  exact h _
/-- zs, filled as far as place k -/
def filled (zs : List Int) (k : Nat) : List Int := zs.take k ++ List.replicate (zs.length - k) 0
theorem filled_zero (zs : List Int) : filled zs 0 = List.replicate zs.length 0 := by simp [filled]
theorem filled_end (zs : List Int) : filled zs zs.length = zs := by simp [filled]
theorem filled_set (zs : List Int) (k : Nat) (h : k < zs.length) : (filled zs k).set k (gb zs k) = filled zs (k + 1) := by
  unfold filled
  obtain ⟨d, hd⟩ : ∃ d, zs.length - k = d + 1 := ⟨zs.length - k - 1, by omega⟩
  have e : zs.length - (k + 1) = d := by omega
  have hm : min k zs.length = k := by omega
  rw [hd, e, List.set_append_right _ _ (by simp; omega), List.take_succ_eq_append_getElem h, List.append_assoc]
  simp only [List.length_take, hm, Nat.sub_self, List.replicate_succ, List.set_cons_zero, gb, List.getD, List.getElem?_eq_getElem h, Option.getD_some, List.cons_append, List.nil_append]

set_option maxRecDepth 20000 in
set_option maxHeartbeats 4000000 in
theorem look_any (v : Value) (xs tab : List Int) (w : World) (hv : Byt w v xs) (ht : tab.length = 256) (hta : AllB tab) (hmax : xs.length ≤ 1048576) :
    Calls Try.prog 85 #[v, .agg (ints .u8 tab)] w fun e w' => ∃ v', e = .returned v' ∧ Byt w' v' (looked tab xs) ∧ Below w.heap.size w w' := by
  obtain ⟨ao, ca, rfl, ha1, ha2, ha3, -, ha5⟩ := hv
  have HA5 : Hid (0 < xs.length → ∃ b off, ao = some ⟨b, off, none⟩ ∧ ∀ t, t < xs.length → w.cell? ⟨b, off + t, none⟩ = some (.int .u8 (gb xs t))) := ha5
  have HA : Hid (AllB xs) := ha3
  have HT : Hid (tab.length = 256) := ht
  have HTA : Hid (AllB tab) := hta
  have HG : Hid (∀ k, k < xs.length → gb (looked tab xs) k = gb tab (gb xs k).toNat) := fun k hk => looked_gb tab xs k hk
  have HZ : Hid ((looked tab xs).length = xs.length) := looked_len tab xs
  have HZA : Hid (AllB (looked tab xs)) := looked_all tab xs hta
  generalize looked tab xs = zs at *
  clear ha5 ha3 ht hta
  go_enter Try.func85, Try.ntmps85
  go_wp2_with (first
    | (refine box_lawF _ rfl (.tmp 1) 103 rfl .u8 tab rfl ?_; intro w1 A1 B1 s1; have HA1 : Hid (Ar w1 w.heap.size 0 .u8 tab) := A1; clear A1)
    | (at_make; refine make_law _ rfl (.tmp 9) (.tmp 9) rfl w1.heap.size (Nat.le_refl _) _ xs.length rfl rfl rfl (by omega) ?_; intro w2 hown hbel hlt))
  generalize hg1 : w1.heap.size = g1 at *
  go_loopw [13] (fun i wr => ∃ k : Nat, k ≤ xs.length ∧ i = .int .i64 k ∧ OwnN g1 wr g1 xs.length (filled zs k) ∧ Below g1 w1 wr) (fun i _ => xs.length - (intOf i).toNat)
  case atStart => exact ⟨0, Nat.zero_le _, rfl, by rw [filled_zero, HZ.out]; exact hown, hbel⟩
  case round =>
    clear hown hbel
    obtain ⟨k, hk, rfl, hown, hbel⟩ := hrel
    have BW : Below w.heap.size w wr := B1.trans (hbel.mono (by omega))
    by_cases hlt' : k < xs.length
    · obtain ⟨b, off, rfl, hca⟩ := HA5.out (by omega)
      have n1 := World.block_lt_of_cell? w _ (hca k hlt')
      have c1 : wr.cell? ⟨b, off + k, none⟩ = some (.int .u8 (gb xs k)) := (BW.cell n1).trans (hca k hlt')
      obtain ⟨x, hx⟩ : ∃ x : Nat, gb xs k = (x : Int) := ⟨(gb xs k).toNat, by have := HA.out k; omega⟩
      have hx8 : x < 256 := by have := HA.out k; omega
      rw [hx] at c1
      have c2 := (HA1.out.below hbel s1).cell0 x (by rw [HT.out]; exact hx8)
      have lk : (k : Int) < (xs.length : Int) := by omega
      have lk0 : (0 : Int) ≤ (k : Int) := by omega
      have x0 : (0 : Int) ≤ (x : Int) := by omega
      have x1 : (x : Int) < 256 := by omega
      have c3 := hown.cell hlt'
      have c4 := hown.free k
      have hgz : gb zs k = gb tab x := by rw [HG.out k hlt', hx, Int.toNat_natCast]
      have hown' : Hid (OwnN g1 (wr.setCell ⟨g1, k, none⟩ (.int .u8 (gb tab x))) g1 xs.length (filled zs (k + 1))) := by
        have h := hown.set k (gb zs k)
        rw [filled_set _ k (by rw [HZ.out]; exact hlt'), hgz] at h
        exact h
      have hb' : Hid (Below g1 w1 (wr.setCell ⟨g1, k, none⟩ (.int .u8 (gb tab x)))) := hbel.setCell (Nat.le_refl _) _
      clear hca hx hgz hx8
      generalize gb tab x = y at *
      go_wp2
      go_roundw
      case rel => exact ⟨k + 1, by omega, by go_num, hown'.out, hb'.out⟩
      case measure => simp [intOf]; omega
    · have hks : k = xs.length := by omega
      subst hks
      have hown2 : OwnN g1 wr g1 xs.length zs := by
        have := hown; rw [← HZ.out, filled_end, HZ.out] at this; exact this
      go_wp2
      go_ret
      exact ⟨_, rfl, hown2.byt HZA.out, BW⟩
end Go.Proofs.Ytifepmdhbhdjpaa

