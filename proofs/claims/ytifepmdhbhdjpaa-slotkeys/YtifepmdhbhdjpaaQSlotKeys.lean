/- The keys of any slot under any key, or why they can't be told: as the document says. Of more than 1000 wrapped bytes: the program answers. No condition. -/
import Derived.Test.YtifepmdhbhdjpaaRows
import Derived.Test.YtifepmdhbhdjpaaPackJ
import Derived.Test.YtifepmdhbhdjpaaPackK
import Derived.Test.YtifepmdhbhdjpaaPackN
import Derived.Test.YtifepmdhbhdjpaaPackO
namespace Go.Proofs.Ytifepmdhbhdjpaa.slotKeys
open Go.ChangeShapes Go.WideShapes Go.ChangeAt Go.RowKit Go.Proofs.Ytifepmdhbhdjpaa.so Go.Proofs.Ytifepmdhbhdjpaa.he Go.Proofs.Ytifepmdhbhdjpaa.wr
set_option maxRecDepth 20000


set_option maxHeartbeats 8000000 in
theorem walk_long (kv : Value) (ks : List Int) (u : Bool) (n e t : Int) (v : Value) (xs : List Int) (w : World) (hk : Byt w kv ks) (_hS : Sb n e t) (hv : Byt w v xs) (h1 : (1000 : Int) < (xs.length : Int)) :
    Calls Try.prog 4 #[kv, .agg (sv u n e t v).toArray] w fun x w' => x = .returned (.bool true) ∧ Below w.heap.size w w' := by
  obtain ⟨ko, kc, rfl⟩ := form hk
  obtain ⟨ao, cap, rfl⟩ := form hv
  clear hk hv
  have t0 : (0 : Nat) = 0 := rfl
  go_enter Try.func4, Try.ntmps4
  go_wp2_with (first
    | (have q1 := t1; go_at_call 9; refine (awake_any w1).mono ?_; rintro e9 w2 ⟨rfl, B9⟩; have HB0 : Hid (Vr w2 w.heap.size (sv u n e t (.slice ao xs.length cap))) := HB0.out.below B9 (range_lt HB0.out.1 (Nat.succ_pos _)); have BB : Hid (Below w.heap.size w w2) := BB.out.trans (B9.mono BB.out.size); clear hb0_0 hb0_1 hb0_2 hb0_3 hb0_4; have hb0_0 := HB0.out.cell 0 _ rfl; have hb0_1 := HB0.out.cell 1 _ rfl; have hb0_2 := HB0.out.cell 2 _ rfl; have hb0_3 := HB0.out.cell 3 _ rfl; have hb0_4 := HB0.out.cell 4 _ rfl; clear B9; clear t1; have t2 : (1 : Nat) = 1 := rfl)
    | (have q0 := t0; refine box_lawC _ (sv u n e t (.slice ao xs.length cap)) rfl ?_; intro w1 X9 B9 l9; have HB0 : Hid (Vr w1 w.heap.size (sv u n e t (.slice ao xs.length cap))) := X9; have BB : Hid (Below w.heap.size w w1) := B9; have hb0_0 := HB0.out.cell 0 _ rfl; have hb0_1 := HB0.out.cell 1 _ rfl; have hb0_2 := HB0.out.cell 2 _ rfl; have hb0_3 := HB0.out.cell 3 _ rfl; have hb0_4 := HB0.out.cell 4 _ rfl; clear X9 B9 l9; clear t0; have t1 : (1 : Nat) = 1 := rfl))
  go_ret
  exact ⟨rfl, BB.out⟩

set_option maxHeartbeats 8000000 in
theorem walk_wrong (kv : Value) (ks : List Int) (u : Bool) (n e t : Int) (v : Value) (xs : List Int) (w : World) (hk : Byt w kv ks) (hS : Sb n e t) (hv : Byt w v xs) (h1 : ¬ ((1000 : Int) < (xs.length : Int))) (hr : ¬ Rs u n e t xs) :
    Calls Try.prog 4 #[kv, .agg (sv u n e t v).toArray] w fun x w' => x = .returned (.bool true) ∧ Below w.heap.size w w' := by
  have SK : Hid (∀ w0, Below w.heap.size w w0 → Calls Try.prog 10 #[kv, .agg (sv u n e t v).toArray] w0 fun x w' => x = .returned (.tuple #[.slice none 0 0, .int .i64 2]) ∧ Below w0.heap.size w0 w') := fun w0 q => keys_no kv ks u n e t v xs w0 (hk.below q) (hv.below q) hS fun z => hr z.1
  have SO : Hid (∀ w0, Below w.heap.size w w0 → Calls Try.prog 8 #[.agg (sv u n e t v).toArray] w0 fun x w' => x = .returned (.agg (sv u n e t v).toArray) ∧ Below w0.heap.size w0 w') := fun w0 q => so.of_any u n e t v xs w0 (hv.below q)
  have SR : Hid (∀ w0, Below w.heap.size w w0 → Calls Try.prog 14 #[.agg (sv u n e t v).toArray] w0 fun x w' => x = .returned (.bool false) ∧ Below w0.heap.size w0 w') := fun w0 q => rright_no u n e t v xs w0 (hv.below q) hr
  obtain ⟨ko, kc, rfl⟩ := form hk
  obtain ⟨ao, cap, rfl⟩ := form hv
  clear hk hS hv hr
  have t0 : (0 : Nat) = 0 := rfl
  go_enter Try.func4, Try.ntmps4
  go_wp2_with (first
    | (have q4 := t4; go_at_call 9; refine (awake_any w4).mono ?_; rintro e9 w5 ⟨rfl, B9⟩; have HB0 : Hid (Vr w5 w.heap.size (sv u n e t (.slice ao xs.length cap))) := HB0.out.below B9 (range_lt HB0.out.1 (Nat.succ_pos _)); have BB : Hid (Below w.heap.size w w5) := BB.out.trans (B9.mono BB.out.size); clear hb0_0 hb0_1 hb0_2 hb0_3 hb0_4; have hb0_0 := HB0.out.cell 0 _ rfl; have hb0_1 := HB0.out.cell 1 _ rfl; have hb0_2 := HB0.out.cell 2 _ rfl; have hb0_3 := HB0.out.cell 3 _ rfl; have hb0_4 := HB0.out.cell 4 _ rfl; clear B9; clear t4; have t5 : (1 : Nat) = 1 := rfl)
    | (have q3 := t3; go_at_call 14; refine (SR.out w3 BB.out).mono ?_; rintro e9 w4 ⟨rfl, B9⟩; have HB0 : Hid (Vr w4 w.heap.size (sv u n e t (.slice ao xs.length cap))) := HB0.out.below B9 (range_lt HB0.out.1 (Nat.succ_pos _)); have BB : Hid (Below w.heap.size w w4) := BB.out.trans (B9.mono BB.out.size); clear hb0_0 hb0_1 hb0_2 hb0_3 hb0_4; have hb0_0 := HB0.out.cell 0 _ rfl; have hb0_1 := HB0.out.cell 1 _ rfl; have hb0_2 := HB0.out.cell 2 _ rfl; have hb0_3 := HB0.out.cell 3 _ rfl; have hb0_4 := HB0.out.cell 4 _ rfl; clear B9; clear t3; have t4 : (1 : Nat) = 1 := rfl)
    | (have q2 := t2; go_at_call 8; refine (SO.out w2 BB.out).mono ?_; rintro e9 w3 ⟨rfl, B9⟩; have HB0 : Hid (Vr w3 w.heap.size (sv u n e t (.slice ao xs.length cap))) := HB0.out.below B9 (range_lt HB0.out.1 (Nat.succ_pos _)); have BB : Hid (Below w.heap.size w w3) := BB.out.trans (B9.mono BB.out.size); clear hb0_0 hb0_1 hb0_2 hb0_3 hb0_4; have hb0_0 := HB0.out.cell 0 _ rfl; have hb0_1 := HB0.out.cell 1 _ rfl; have hb0_2 := HB0.out.cell 2 _ rfl; have hb0_3 := HB0.out.cell 3 _ rfl; have hb0_4 := HB0.out.cell 4 _ rfl; clear B9; clear t2; have t3 : (1 : Nat) = 1 := rfl)
    | (have q1 := t1; go_at_call 10; refine (SK.out w1 BB.out).mono ?_; rintro e9 w2 ⟨rfl, B9⟩; have HB0 : Hid (Vr w2 w.heap.size (sv u n e t (.slice ao xs.length cap))) := HB0.out.below B9 (range_lt HB0.out.1 (Nat.succ_pos _)); have BB : Hid (Below w.heap.size w w2) := BB.out.trans (B9.mono BB.out.size); clear hb0_0 hb0_1 hb0_2 hb0_3 hb0_4; have hb0_0 := HB0.out.cell 0 _ rfl; have hb0_1 := HB0.out.cell 1 _ rfl; have hb0_2 := HB0.out.cell 2 _ rfl; have hb0_3 := HB0.out.cell 3 _ rfl; have hb0_4 := HB0.out.cell 4 _ rfl; clear B9; clear t1; have t2 : (1 : Nat) = 1 := rfl)
    | (have q0 := t0; refine box_lawC _ (sv u n e t (.slice ao xs.length cap)) rfl ?_; intro w1 X9 B9 l9; have HB0 : Hid (Vr w1 w.heap.size (sv u n e t (.slice ao xs.length cap))) := X9; have BB : Hid (Below w.heap.size w w1) := B9; have hb0_0 := HB0.out.cell 0 _ rfl; have hb0_1 := HB0.out.cell 1 _ rfl; have hb0_2 := HB0.out.cell 2 _ rfl; have hb0_3 := HB0.out.cell 3 _ rfl; have hb0_4 := HB0.out.cell 4 _ rfl; clear X9 B9 l9; clear t0; have t1 : (1 : Nat) = 1 := rfl))
  go_ret
  exact ⟨rfl, BB.out⟩

set_option maxHeartbeats 8000000 in
theorem walk_len (kv : Value) (ks : List Int) (u : Bool) (n e t : Int) (v : Value) (xs : List Int) (w : World) (hk : Byt w kv ks) (hS : Sb n e t) (hv : Byt w v xs) (h1 : ¬ ((1000 : Int) < (xs.length : Int))) (hr : Rs u n e t xs) (hl : ks.length ≠ 32) :
    Calls Try.prog 4 #[kv, .agg (sv u n e t v).toArray] w fun x w' => x = .returned (.bool true) ∧ Below w.heap.size w w' := by
  have SK : Hid (∀ w0, Below w.heap.size w w0 → Calls Try.prog 10 #[kv, .agg (sv u n e t v).toArray] w0 fun x w' => x = .returned (.tuple #[.slice none 0 0, .int .i64 2]) ∧ Below w0.heap.size w0 w') := fun w0 q => keys_no kv ks u n e t v xs w0 (hk.below q) (hv.below q) hS fun z => hl z.2
  have SO : Hid (∀ w0, Below w.heap.size w w0 → Calls Try.prog 8 #[.agg (sv u n e t v).toArray] w0 fun x w' => x = .returned (.agg (sv u n e t v).toArray) ∧ Below w0.heap.size w0 w') := fun w0 q => so.of_any u n e t v xs w0 (hv.below q)
  have SR : Hid (∀ w0, Below w.heap.size w w0 → Calls Try.prog 14 #[.agg (sv u n e t v).toArray] w0 fun x w' => x = .returned (.bool true) ∧ Below w0.heap.size w0 w') := fun w0 q => rright_yes u n e t v xs w0 (hv.below q) hr
  have n32 : ((ks.length : Int) != 32) = true := bne_iff_ne.2 (by omega)
  obtain ⟨ko, kc, rfl⟩ := form hk
  obtain ⟨ao, cap, rfl⟩ := form hv
  clear hk hS hv hr hl
  have t0 : (0 : Nat) = 0 := rfl
  go_enter Try.func4, Try.ntmps4
  go_wp2_with (first
    | (have q4 := t4; go_at_call 9; refine (awake_any w4).mono ?_; rintro e9 w5 ⟨rfl, B9⟩; have HB0 : Hid (Vr w5 w.heap.size (sv u n e t (.slice ao xs.length cap))) := HB0.out.below B9 (range_lt HB0.out.1 (Nat.succ_pos _)); have BB : Hid (Below w.heap.size w w5) := BB.out.trans (B9.mono BB.out.size); clear hb0_0 hb0_1 hb0_2 hb0_3 hb0_4; have hb0_0 := HB0.out.cell 0 _ rfl; have hb0_1 := HB0.out.cell 1 _ rfl; have hb0_2 := HB0.out.cell 2 _ rfl; have hb0_3 := HB0.out.cell 3 _ rfl; have hb0_4 := HB0.out.cell 4 _ rfl; clear B9; clear t4; have t5 : (1 : Nat) = 1 := rfl)
    | (have q3 := t3; go_at_call 14; refine (SR.out w3 BB.out).mono ?_; rintro e9 w4 ⟨rfl, B9⟩; have HB0 : Hid (Vr w4 w.heap.size (sv u n e t (.slice ao xs.length cap))) := HB0.out.below B9 (range_lt HB0.out.1 (Nat.succ_pos _)); have BB : Hid (Below w.heap.size w w4) := BB.out.trans (B9.mono BB.out.size); clear hb0_0 hb0_1 hb0_2 hb0_3 hb0_4; have hb0_0 := HB0.out.cell 0 _ rfl; have hb0_1 := HB0.out.cell 1 _ rfl; have hb0_2 := HB0.out.cell 2 _ rfl; have hb0_3 := HB0.out.cell 3 _ rfl; have hb0_4 := HB0.out.cell 4 _ rfl; clear B9; clear t3; have t4 : (1 : Nat) = 1 := rfl)
    | (have q2 := t2; go_at_call 8; refine (SO.out w2 BB.out).mono ?_; rintro e9 w3 ⟨rfl, B9⟩; have HB0 : Hid (Vr w3 w.heap.size (sv u n e t (.slice ao xs.length cap))) := HB0.out.below B9 (range_lt HB0.out.1 (Nat.succ_pos _)); have BB : Hid (Below w.heap.size w w3) := BB.out.trans (B9.mono BB.out.size); clear hb0_0 hb0_1 hb0_2 hb0_3 hb0_4; have hb0_0 := HB0.out.cell 0 _ rfl; have hb0_1 := HB0.out.cell 1 _ rfl; have hb0_2 := HB0.out.cell 2 _ rfl; have hb0_3 := HB0.out.cell 3 _ rfl; have hb0_4 := HB0.out.cell 4 _ rfl; clear B9; clear t2; have t3 : (1 : Nat) = 1 := rfl)
    | (have q1 := t1; go_at_call 10; refine (SK.out w1 BB.out).mono ?_; rintro e9 w2 ⟨rfl, B9⟩; have HB0 : Hid (Vr w2 w.heap.size (sv u n e t (.slice ao xs.length cap))) := HB0.out.below B9 (range_lt HB0.out.1 (Nat.succ_pos _)); have BB : Hid (Below w.heap.size w w2) := BB.out.trans (B9.mono BB.out.size); clear hb0_0 hb0_1 hb0_2 hb0_3 hb0_4; have hb0_0 := HB0.out.cell 0 _ rfl; have hb0_1 := HB0.out.cell 1 _ rfl; have hb0_2 := HB0.out.cell 2 _ rfl; have hb0_3 := HB0.out.cell 3 _ rfl; have hb0_4 := HB0.out.cell 4 _ rfl; clear B9; clear t1; have t2 : (1 : Nat) = 1 := rfl)
    | (have q0 := t0; refine box_lawC _ (sv u n e t (.slice ao xs.length cap)) rfl ?_; intro w1 X9 B9 l9; have HB0 : Hid (Vr w1 w.heap.size (sv u n e t (.slice ao xs.length cap))) := X9; have BB : Hid (Below w.heap.size w w1) := B9; have hb0_0 := HB0.out.cell 0 _ rfl; have hb0_1 := HB0.out.cell 1 _ rfl; have hb0_2 := HB0.out.cell 2 _ rfl; have hb0_3 := HB0.out.cell 3 _ rfl; have hb0_4 := HB0.out.cell 4 _ rfl; clear X9 B9 l9; clear t0; have t1 : (1 : Nat) = 1 := rfl))
  go_ret
  exact ⟨rfl, BB.out⟩

set_option maxHeartbeats 8000000 in
theorem walk_none (kv : Value) (ks : List Int) (n e t : Int) (v : Value) (xs : List Int) (w : World) (hk : Byt w kv ks) (hS : Sb n e t) (hv : Byt w v xs) (h1 : ¬ ((1000 : Int) < (xs.length : Int))) (hr : Rs false n e t xs) (hl : ks.length = 32) :
    Calls Try.prog 4 #[kv, .agg (sv false n e t v).toArray] w fun x w' => x = .returned (.bool true) ∧ Below w.heap.size w w' := by
  have SK : Hid (∀ w0, Below w.heap.size w w0 → Calls Try.prog 10 #[kv, .agg (sv false n e t v).toArray] w0 fun x w' => x = .returned (.tuple #[.slice none 0 0, .int .i64 12]) ∧ Below w0.heap.size w0 w') := fun w0 q => keys_none kv ks n e t v xs w0 (hk.below q) (hv.below q) hS hr hl
  have SO : Hid (∀ w0, Below w.heap.size w w0 → Calls Try.prog 8 #[.agg (sv false n e t v).toArray] w0 fun x w' => x = .returned (.agg (sv false n e t v).toArray) ∧ Below w0.heap.size w0 w') := fun w0 q => so.of_any false n e t v xs w0 (hv.below q)
  have SR : Hid (∀ w0, Below w.heap.size w w0 → Calls Try.prog 14 #[.agg (sv false n e t v).toArray] w0 fun x w' => x = .returned (.bool true) ∧ Below w0.heap.size w0 w') := fun w0 q => rright_yes false n e t v xs w0 (hv.below q) hr
  obtain ⟨ko, kc, rfl⟩ := byt_form hk hl
  obtain ⟨ao, cap, rfl⟩ := form hv
  clear hk hS hv hr hl
  have t0 : (0 : Nat) = 0 := rfl
  go_enter Try.func4, Try.ntmps4
  go_wp2_with (first
    | (have q4 := t4; go_at_call 9; refine (awake_any w4).mono ?_; rintro e9 w5 ⟨rfl, B9⟩; have HB0 : Hid (Vr w5 w.heap.size (sv false n e t (.slice ao xs.length cap))) := HB0.out.below B9 (range_lt HB0.out.1 (Nat.succ_pos _)); have BB : Hid (Below w.heap.size w w5) := BB.out.trans (B9.mono BB.out.size); clear hb0_0 hb0_1 hb0_2 hb0_3 hb0_4; have hb0_0 := HB0.out.cell 0 _ rfl; have hb0_1 := HB0.out.cell 1 _ rfl; have hb0_2 := HB0.out.cell 2 _ rfl; have hb0_3 := HB0.out.cell 3 _ rfl; have hb0_4 := HB0.out.cell 4 _ rfl; clear B9; clear t4; have t5 : (1 : Nat) = 1 := rfl)
    | (have q3 := t3; go_at_call 14; refine (SR.out w3 BB.out).mono ?_; rintro e9 w4 ⟨rfl, B9⟩; have HB0 : Hid (Vr w4 w.heap.size (sv false n e t (.slice ao xs.length cap))) := HB0.out.below B9 (range_lt HB0.out.1 (Nat.succ_pos _)); have BB : Hid (Below w.heap.size w w4) := BB.out.trans (B9.mono BB.out.size); clear hb0_0 hb0_1 hb0_2 hb0_3 hb0_4; have hb0_0 := HB0.out.cell 0 _ rfl; have hb0_1 := HB0.out.cell 1 _ rfl; have hb0_2 := HB0.out.cell 2 _ rfl; have hb0_3 := HB0.out.cell 3 _ rfl; have hb0_4 := HB0.out.cell 4 _ rfl; clear B9; clear t3; have t4 : (1 : Nat) = 1 := rfl)
    | (have q2 := t2; go_at_call 8; refine (SO.out w2 BB.out).mono ?_; rintro e9 w3 ⟨rfl, B9⟩; have HB0 : Hid (Vr w3 w.heap.size (sv false n e t (.slice ao xs.length cap))) := HB0.out.below B9 (range_lt HB0.out.1 (Nat.succ_pos _)); have BB : Hid (Below w.heap.size w w3) := BB.out.trans (B9.mono BB.out.size); clear hb0_0 hb0_1 hb0_2 hb0_3 hb0_4; have hb0_0 := HB0.out.cell 0 _ rfl; have hb0_1 := HB0.out.cell 1 _ rfl; have hb0_2 := HB0.out.cell 2 _ rfl; have hb0_3 := HB0.out.cell 3 _ rfl; have hb0_4 := HB0.out.cell 4 _ rfl; clear B9; clear t2; have t3 : (1 : Nat) = 1 := rfl)
    | (have q1 := t1; go_at_call 10; refine (SK.out w1 BB.out).mono ?_; rintro e9 w2 ⟨rfl, B9⟩; have HB0 : Hid (Vr w2 w.heap.size (sv false n e t (.slice ao xs.length cap))) := HB0.out.below B9 (range_lt HB0.out.1 (Nat.succ_pos _)); have BB : Hid (Below w.heap.size w w2) := BB.out.trans (B9.mono BB.out.size); clear hb0_0 hb0_1 hb0_2 hb0_3 hb0_4; have hb0_0 := HB0.out.cell 0 _ rfl; have hb0_1 := HB0.out.cell 1 _ rfl; have hb0_2 := HB0.out.cell 2 _ rfl; have hb0_3 := HB0.out.cell 3 _ rfl; have hb0_4 := HB0.out.cell 4 _ rfl; clear B9; clear t1; have t2 : (1 : Nat) = 1 := rfl)
    | (have q0 := t0; refine box_lawC _ (sv false n e t (.slice ao xs.length cap)) rfl ?_; intro w1 X9 B9 l9; have HB0 : Hid (Vr w1 w.heap.size (sv false n e t (.slice ao xs.length cap))) := X9; have BB : Hid (Below w.heap.size w w1) := B9; have hb0_0 := HB0.out.cell 0 _ rfl; have hb0_1 := HB0.out.cell 1 _ rfl; have hb0_2 := HB0.out.cell 2 _ rfl; have hb0_3 := HB0.out.cell 3 _ rfl; have hb0_4 := HB0.out.cell 4 _ rfl; clear X9 B9 l9; clear t0; have t1 : (1 : Nat) = 1 := rfl))
  go_ret
  exact ⟨rfl, BB.out⟩

set_option maxHeartbeats 8000000 in
theorem walk_yes (kv : Value) (ks : List Int) (n e t : Int) (v : Value) (xs : List Int) (w : World) (hk : Byt w kv ks) (hS : Sb n e t) (hv : Byt w v xs) (hr : Rs true n e t xs) (hl : ks.length = 32) (hf : hd (unwr ks xs 12) = a6) :
    Calls Try.prog 4 #[kv, .agg (sv true n e t v).toArray] w fun x w' => x = .returned (.bool true) ∧ Below w.heap.size w w' := by
  have xl : xs.length = 104 := hr.2.2
  have ST : Hid (∀ w0, Calls Try.prog 12 #[] w0 fun x w' => ∃ r, x = .returned r ∧ Byt w' r ptab ∧ Below w0.heap.size w0 w') := rtable_any
  have SK : Hid (∀ w0, Below w.heap.size w w0 → Calls Try.prog 10 #[kv, .agg (sv true n e t v).toArray] w0 fun x w' => ∃ zo zc, x = .returned (.tuple #[.slice zo 96 zc, .int .i64 0]) ∧ Byt w' (.slice zo 96 zc) ((unwr ks xs 12).drop 8) ∧ Below w0.heap.size w0 w') := fun w0 q => keys_yes kv ks n e t v xs w0 (hk.below q) (hv.below q) hS hr hl hf
  have SU : Hid (∀ w0 tv, Below w.heap.size w w0 → Byt w0 tv ptab → Calls Try.prog 15 #[kv, v, tv] w0 fun x w' => ∃ yo yc, x = .returned (.tuple #[.slice yo 96 yc, .bool true]) ∧ Byt w' (.slice yo 96 yc) ((unwr ks xs 12).drop 8) ∧ Below w0.heap.size w0 w') := fun w0 tv q ht => (runwrap_any kv v tv ks xs 12 w0 (hk.below q) hl (hv.below q) xl (by omega) (by omega) ht).mono fun _ _ ⟨z, h1, h2, h3⟩ => by
    obtain ⟨zo, zc, rfl⟩ := byt_form h2 (n := 96) (by rw [List.length_drop, (unwr_fit ks hl hk.all xs 12 (by omega) ⟨xl, hv.all⟩).1])
    rw [decide_eq_true hf] at h1
    exact ⟨zo, zc, h1, h2, h3⟩
  have SO : Hid (∀ w0, Below w.heap.size w w0 → Calls Try.prog 8 #[.agg (sv true n e t v).toArray] w0 fun x w' => x = .returned (.agg (sv true n e t v).toArray) ∧ Below w0.heap.size w0 w') := fun w0 q => so.of_any true n e t v xs w0 (hv.below q)
  have SR : Hid (∀ w0, Below w.heap.size w w0 → Calls Try.prog 14 #[.agg (sv true n e t v).toArray] w0 fun x w' => x = .returned (.bool true) ∧ Below w0.heap.size w0 w') := fun w0 q => rright_yes true n e t v xs w0 (hv.below q) hr
  obtain ⟨ko, kc, rfl⟩ := byt_form hk hl
  obtain ⟨ao, cap, rfl⟩ := byt_form hv xl
  generalize (unwr ks xs 12).drop 8 = X at SK SU
  generalize ptab = PT at ST SU
  clear hk hS hv hr hl hf xl
  have t0 : (0 : Nat) = 0 := rfl
  go_enter Try.func4, Try.ntmps4
  go_wp2_with (first
    | (have q3 := t3; go_at_call 14; refine (SR.out w3 BB.out).mono ?_; rintro e9 w4 ⟨rfl, B9⟩; have HB0 : Hid (Vr w4 w.heap.size (sv true n e t (.slice ao 104 cap))) := HB0.out.below B9 (range_lt HB0.out.1 (Nat.succ_pos _)); have HZ : Hid (Byt w4 (.slice zo 96 zc) X) := HZ.out.below B9; have BB : Hid (Below w.heap.size w w4) := BB.out.trans (B9.mono BB.out.size); clear hb0_0 hb0_1 hb0_2 hb0_3 hb0_4; have hb0_0 := HB0.out.cell 0 _ rfl; have hb0_1 := HB0.out.cell 1 _ rfl; have hb0_2 := HB0.out.cell 2 _ rfl; have hb0_3 := HB0.out.cell 3 _ rfl; have hb0_4 := HB0.out.cell 4 _ rfl; clear B9; clear t3; have t4 : (1 : Nat) = 1 := rfl)
    | (have q2 := t2; go_at_call 8; refine (SO.out w2 BB.out).mono ?_; rintro e9 w3 ⟨rfl, B9⟩; have HB0 : Hid (Vr w3 w.heap.size (sv true n e t (.slice ao 104 cap))) := HB0.out.below B9 (range_lt HB0.out.1 (Nat.succ_pos _)); have HZ : Hid (Byt w3 (.slice zo 96 zc) X) := HZ.out.below B9; have BB : Hid (Below w.heap.size w w3) := BB.out.trans (B9.mono BB.out.size); clear hb0_0 hb0_1 hb0_2 hb0_3 hb0_4; have hb0_0 := HB0.out.cell 0 _ rfl; have hb0_1 := HB0.out.cell 1 _ rfl; have hb0_2 := HB0.out.cell 2 _ rfl; have hb0_3 := HB0.out.cell 3 _ rfl; have hb0_4 := HB0.out.cell 4 _ rfl; clear B9; clear t2; have t3 : (1 : Nat) = 1 := rfl)
    | (have q1 := t1; go_at_call 10; refine (SK.out w1 BB.out).mono ?_; rintro e9 w2 ⟨zo, zc, rfl, Y9, B9⟩; have HB0 : Hid (Vr w2 w.heap.size (sv true n e t (.slice ao 104 cap))) := HB0.out.below B9 (range_lt HB0.out.1 (Nat.succ_pos _)); have HZ : Hid (Byt w2 (.slice zo 96 zc) X) := Y9; have BB : Hid (Below w.heap.size w w2) := BB.out.trans (B9.mono BB.out.size); clear hb0_0 hb0_1 hb0_2 hb0_3 hb0_4; have hb0_0 := HB0.out.cell 0 _ rfl; have hb0_1 := HB0.out.cell 1 _ rfl; have hb0_2 := HB0.out.cell 2 _ rfl; have hb0_3 := HB0.out.cell 3 _ rfl; have hb0_4 := HB0.out.cell 4 _ rfl; clear B9 Y9; clear t1; have t2 : (1 : Nat) = 1 := rfl)
    | (have q0 := t0; refine box_lawC _ (sv true n e t (.slice ao 104 cap)) rfl ?_; intro w1 X9 B9 l9; have HB0 : Hid (Vr w1 w.heap.size (sv true n e t (.slice ao 104 cap))) := X9; have BB : Hid (Below w.heap.size w w1) := B9; have hb0_0 := HB0.out.cell 0 _ rfl; have hb0_1 := HB0.out.cell 1 _ rfl; have hb0_2 := HB0.out.cell 2 _ rfl; have hb0_3 := HB0.out.cell 3 _ rfl; have hb0_4 := HB0.out.cell 4 _ rfl; clear X9 B9 l9; clear t0; have t1 : (1 : Nat) = 1 := rfl))
  refine wp_region_held_drew (S := fun w' => Below w4.heap.size w4 w') (by kernel_rfl) (Below.refl _ _).drew (fun hS => ?_)
  obtain ⟨x1, hx0⟩ : ∃ x, x = w4.drew := ⟨_, rfl⟩
  rw [← hx0] at hS  ⊢
  clear hx0
  refine take_lawH 0 (some 53) (.slice ko 32 kc) rfl rfl (by kernel_rfl) (by kernel_rfl) (by kernel_rfl) (fun _ _ _ h => h) (Or.inl ⟨by rfl, fun w' hw' => by rfl⟩) hS ?_
  simp only [Act.put, List.setIfInBounds_toArray, List.set_cons_zero, List.set_cons_succ]
  refine take_lawH 1 (some 54) (.pointer (some ⟨w.heap.size, 4, none⟩)) rfl rfl (by kernel_rfl) (by kernel_rfl) (by kernel_rfl) (fun _ _ _ h => h) (Or.inl ⟨by rfl, fun w' hw' => by go_simp⟩) hS ?_
  simp only [Act.put, List.setIfInBounds_toArray, List.set_cons_zero, List.set_cons_succ]
  refine take_lawH 2 (some 55) (.slice ao 104 cap) rfl rfl (by kernel_rfl) (by kernel_rfl) (by kernel_rfl) (fun _ _ _ h => h) (Or.inl ⟨by rfl, fun w' hw' => by exact exec_loadN 22 (.tmp 54) rfl _ rfl _ _ (load_one one_bytes ((HB0.out.below hw' (range_lt HB0.out.1 (Nat.succ_pos _))).cell 4 _ rfl))⟩) hS ?_
  simp only [Act.put, List.setIfInBounds_toArray, List.set_cons_zero, List.set_cons_succ]
  refine wpAnyH_ready (rs := [3]) (by kernel_rfl) (by simp) ?_
  refine AllReadyH.cons rfl (fun K hK => ?_) AllReadyH.nil
  refine he.step_callW _ (by rfl) (some 56) rfl 12 #[] #[] rfl (fun q w' => by rfl) #[] (by simp only [List.map_toArray, List.map_nil]) (fun z9 w' => Byt w' z9 PT ∧ Below x1.heap.size x1 w') ?_ ?_
  · exact (ST.out x1).mono fun e w' ⟨r, h1, h2, h3⟩ => ⟨r, h1, h2, h3⟩
  rintro tb9 x2 ⟨y1, hb⟩
  have YB : Hid (Byt x2 tb9 PT) := y1
  clear y1
  have hS : Below w4.heap.size w4 x2 := hS.trans (hb.mono hS.size)
  clear hb
  refine hK.out _ _ hS (fun _ => ?_)
  simp only [Act.put, List.setIfInBounds_toArray, List.set_cons_zero, List.set_cons_succ]
  clear hK K
  refine wpAnyH_ready (rs := [4]) (by kernel_rfl) (by simp) ?_
  refine AllReadyH.cons rfl (fun K hK => ?_) AllReadyH.nil
  refine he.step_callW _ (by rfl) (some 57) rfl 15 #[.tmp 53, .tmp 55, .tmp 56] #[22, 22, 22] rfl (fun q w' => by rfl) #[.slice ko 32 kc, .slice ao 104 cap, tb9] (by simp only [List.map_toArray, List.map_cons, List.map_nil]; rfl) (fun z9 w' => (∃ yo yc, z9 = .tuple #[.slice yo 96 yc, .bool true] ∧ Byt w' (.slice yo 96 yc) X) ∧ Below x2.heap.size x2 w') ?_ ?_
  · exact (SU.out x2 tb9 (BB.out.trans (hS.mono BB.out.size)) YB.out).mono fun e w' ⟨yo, yc, h1, h2, h3⟩ => ⟨_, h1, ⟨yo, yc, rfl, h2⟩, h3⟩
  rintro _ x3 ⟨⟨yo, yc, rfl, y1⟩, hb⟩
  have YY : Hid (Byt x3 (.slice yo 96 yc) X) := y1
  clear y1
  have hS : Below w4.heap.size w4 x3 := hS.trans (hb.mono hS.size)
  clear hb
  refine hK.out _ _ hS (fun _ => ?_)
  simp only [Act.put, List.setIfInBounds_toArray, List.set_cons_zero, List.set_cons_succ]
  clear hK K
  refine take_lawH 5 (some 52) (.tuple #[.slice yo 96 yc, .bool true]) rfl rfl (by kernel_rfl) (by kernel_rfl) (by kernel_rfl) (fun _ _ _ h => h) (Or.inl ⟨by rfl, fun w' hw' => by rfl⟩) hS ?_
  simp only [Act.put, List.setIfInBounds_toArray, List.set_cons_zero, List.set_cons_succ]
  refine take_lawH 6 (some 58) (.slice yo 96 yc) rfl rfl (by kernel_rfl) (by kernel_rfl) (by kernel_rfl) (fun _ _ _ h => h) (Or.inl ⟨by rfl, fun w' hw' => by rfl⟩) hS ?_
  simp only [Act.put, List.setIfInBounds_toArray, List.set_cons_zero, List.set_cons_succ]
  refine take_lawH 7 (some 59) (.bool true) rfl rfl (by kernel_rfl) (by kernel_rfl) (by kernel_rfl) (fun _ _ _ h => h) (Or.inl ⟨by rfl, fun w' hw' => by rfl⟩) hS ?_
  simp only [Act.put, List.setIfInBounds_toArray, List.set_cons_zero, List.set_cons_succ]
  refine take_lawH 8 (some 7) (.slice yo 96 yc) rfl rfl (by kernel_rfl) (by kernel_rfl) (by kernel_rfl) (fun _ _ _ h => h) (Or.inl ⟨by rfl, fun w' hw' => by rfl⟩) hS ?_
  simp only [Act.put, List.setIfInBounds_toArray, List.set_cons_zero, List.set_cons_succ]
  refine take_lawH 9 (some 8) (.bool true) rfl rfl (by kernel_rfl) (by kernel_rfl) (by kernel_rfl) (fun _ _ _ h => h) (Or.inl ⟨by rfl, fun w' hw' => by rfl⟩) hS ?_
  simp only [Act.put, List.setIfInBounds_toArray, List.set_cons_zero, List.set_cons_succ]
  refine wpAnyH_done (by kernel_rfl) ?_ _
  clear hb0_0 hb0_1 hb0_2 hb0_3 hb0_4
  have HB0 : Hid (Vr x3 w.heap.size (sv true n e t (.slice ao 104 cap))) := HB0.out.below hS (range_lt HB0.out.1 (Nat.succ_pos _))
  have HZ : Hid (Byt x3 (.slice zo 96 zc) X) := HZ.out.below hS
  have BB : Hid (Below w.heap.size w x3) := BB.out.trans (hS.mono BB.out.size)
  clear hS
  have hb0_0 := HB0.out.cell 0 _ rfl
  have hb0_1 := HB0.out.cell 1 _ rfl
  have hb0_2 := HB0.out.cell 2 _ rfl
  have hb0_3 := HB0.out.cell 3 _ rfl
  have hb0_4 := HB0.out.cell 4 _ rfl
  have t50 : (1 : Nat) = 1 := rfl
  go_wp2_with (first
    | (have q51 := t51; go_at_call 9; refine (awake_any w91).mono ?_; rintro e9 w92 ⟨rfl, B9⟩; have HB0 : Hid (Vr w92 w.heap.size (sv true n e t (.slice ao 104 cap))) := HB0.out.below B9 (range_lt HB0.out.1 (Nat.succ_pos _)); have HZ : Hid (Byt w92 (.slice zo 96 zc) X) := HZ.out.below B9; have YY : Hid (Byt w92 (.slice yo 96 yc) X) := YY.out.below B9; have BB : Hid (Below w.heap.size w w92) := BB.out.trans (B9.mono BB.out.size); clear hb0_0 hb0_1 hb0_2 hb0_3 hb0_4; have hb0_0 := HB0.out.cell 0 _ rfl; have hb0_1 := HB0.out.cell 1 _ rfl; have hb0_2 := HB0.out.cell 2 _ rfl; have hb0_3 := HB0.out.cell 3 _ rfl; have hb0_4 := HB0.out.cell 4 _ rfl; clear B9; clear t51; have t52 : (1 : Nat) = 1 := rfl)
    | (have q50 := t50; go_at_call 13; refine (so.same_yes x3 _ _ X HZ.out YY.out).mono ?_; rintro e9 w91 ⟨rfl, B9⟩; have HB0 : Hid (Vr w91 w.heap.size (sv true n e t (.slice ao 104 cap))) := HB0.out.below B9 (range_lt HB0.out.1 (Nat.succ_pos _)); have HZ : Hid (Byt w91 (.slice zo 96 zc) X) := HZ.out.below B9; have YY : Hid (Byt w91 (.slice yo 96 yc) X) := YY.out.below B9; have BB : Hid (Below w.heap.size w w91) := BB.out.trans (B9.mono BB.out.size); clear hb0_0 hb0_1 hb0_2 hb0_3 hb0_4; have hb0_0 := HB0.out.cell 0 _ rfl; have hb0_1 := HB0.out.cell 1 _ rfl; have hb0_2 := HB0.out.cell 2 _ rfl; have hb0_3 := HB0.out.cell 3 _ rfl; have hb0_4 := HB0.out.cell 4 _ rfl; clear B9; clear t50; have t51 : (1 : Nat) = 1 := rfl))
  go_ret
  exact ⟨rfl, BB.out⟩

set_option maxHeartbeats 8000000 in
theorem walk_bad (kv : Value) (ks : List Int) (n e t : Int) (v : Value) (xs : List Int) (w : World) (hk : Byt w kv ks) (hS : Sb n e t) (hv : Byt w v xs) (hr : Rs true n e t xs) (hl : ks.length = 32) (hf : ¬ hd (unwr ks xs 12) = a6) :
    Calls Try.prog 4 #[kv, .agg (sv true n e t v).toArray] w fun x w' => x = .returned (.bool true) ∧ Below w.heap.size w w' := by
  have xl : xs.length = 104 := hr.2.2
  have ST : Hid (∀ w0, Calls Try.prog 12 #[] w0 fun x w' => ∃ r, x = .returned r ∧ Byt w' r ptab ∧ Below w0.heap.size w0 w') := rtable_any
  have SK : Hid (∀ w0, Below w.heap.size w w0 → Calls Try.prog 10 #[kv, .agg (sv true n e t v).toArray] w0 fun x w' => x = .returned (.tuple #[.slice none 0 0, .int .i64 16]) ∧ Below w0.heap.size w0 w') := fun w0 q => keys_bad kv ks n e t v xs w0 (hk.below q) (hv.below q) hS hr hl hf
  have SU : Hid (∀ w0 tv, Below w.heap.size w w0 → Byt w0 tv ptab → Calls Try.prog 15 #[kv, v, tv] w0 fun x w' => ∃ yo yc, x = .returned (.tuple #[.slice yo 96 yc, .bool false]) ∧ Byt w' (.slice yo 96 yc) ((unwr ks xs 12).drop 8) ∧ Below w0.heap.size w0 w') := fun w0 tv q ht => (runwrap_any kv v tv ks xs 12 w0 (hk.below q) hl (hv.below q) xl (by omega) (by omega) ht).mono fun _ _ ⟨z, h1, h2, h3⟩ => by
    obtain ⟨zo, zc, rfl⟩ := byt_form h2 (n := 96) (by rw [List.length_drop, (unwr_fit ks hl hk.all xs 12 (by omega) ⟨xl, hv.all⟩).1])
    rw [decide_eq_false hf] at h1
    exact ⟨zo, zc, h1, h2, h3⟩
  have SO : Hid (∀ w0, Below w.heap.size w w0 → Calls Try.prog 8 #[.agg (sv true n e t v).toArray] w0 fun x w' => x = .returned (.agg (sv true n e t v).toArray) ∧ Below w0.heap.size w0 w') := fun w0 q => so.of_any true n e t v xs w0 (hv.below q)
  have SR : Hid (∀ w0, Below w.heap.size w w0 → Calls Try.prog 14 #[.agg (sv true n e t v).toArray] w0 fun x w' => x = .returned (.bool true) ∧ Below w0.heap.size w0 w') := fun w0 q => rright_yes true n e t v xs w0 (hv.below q) hr
  obtain ⟨ko, kc, rfl⟩ := byt_form hk hl
  obtain ⟨ao, cap, rfl⟩ := byt_form hv xl
  generalize (unwr ks xs 12).drop 8 = X at SU
  generalize ptab = PT at ST SU
  clear hk hS hv hr hl hf xl
  have t0 : (0 : Nat) = 0 := rfl
  go_enter Try.func4, Try.ntmps4
  go_wp2_with (first
    | (have q3 := t3; go_at_call 14; refine (SR.out w3 BB.out).mono ?_; rintro e9 w4 ⟨rfl, B9⟩; have HB0 : Hid (Vr w4 w.heap.size (sv true n e t (.slice ao 104 cap))) := HB0.out.below B9 (range_lt HB0.out.1 (Nat.succ_pos _)); have BB : Hid (Below w.heap.size w w4) := BB.out.trans (B9.mono BB.out.size); clear hb0_0 hb0_1 hb0_2 hb0_3 hb0_4; have hb0_0 := HB0.out.cell 0 _ rfl; have hb0_1 := HB0.out.cell 1 _ rfl; have hb0_2 := HB0.out.cell 2 _ rfl; have hb0_3 := HB0.out.cell 3 _ rfl; have hb0_4 := HB0.out.cell 4 _ rfl; clear B9; clear t3; have t4 : (1 : Nat) = 1 := rfl)
    | (have q2 := t2; go_at_call 8; refine (SO.out w2 BB.out).mono ?_; rintro e9 w3 ⟨rfl, B9⟩; have HB0 : Hid (Vr w3 w.heap.size (sv true n e t (.slice ao 104 cap))) := HB0.out.below B9 (range_lt HB0.out.1 (Nat.succ_pos _)); have BB : Hid (Below w.heap.size w w3) := BB.out.trans (B9.mono BB.out.size); clear hb0_0 hb0_1 hb0_2 hb0_3 hb0_4; have hb0_0 := HB0.out.cell 0 _ rfl; have hb0_1 := HB0.out.cell 1 _ rfl; have hb0_2 := HB0.out.cell 2 _ rfl; have hb0_3 := HB0.out.cell 3 _ rfl; have hb0_4 := HB0.out.cell 4 _ rfl; clear B9; clear t2; have t3 : (1 : Nat) = 1 := rfl)
    | (have q1 := t1; go_at_call 10; refine (SK.out w1 BB.out).mono ?_; rintro e9 w2 ⟨rfl, B9⟩; have HB0 : Hid (Vr w2 w.heap.size (sv true n e t (.slice ao 104 cap))) := HB0.out.below B9 (range_lt HB0.out.1 (Nat.succ_pos _)); have BB : Hid (Below w.heap.size w w2) := BB.out.trans (B9.mono BB.out.size); clear hb0_0 hb0_1 hb0_2 hb0_3 hb0_4; have hb0_0 := HB0.out.cell 0 _ rfl; have hb0_1 := HB0.out.cell 1 _ rfl; have hb0_2 := HB0.out.cell 2 _ rfl; have hb0_3 := HB0.out.cell 3 _ rfl; have hb0_4 := HB0.out.cell 4 _ rfl; clear B9; clear t1; have t2 : (1 : Nat) = 1 := rfl)
    | (have q0 := t0; refine box_lawC _ (sv true n e t (.slice ao 104 cap)) rfl ?_; intro w1 X9 B9 l9; have HB0 : Hid (Vr w1 w.heap.size (sv true n e t (.slice ao 104 cap))) := X9; have BB : Hid (Below w.heap.size w w1) := B9; have hb0_0 := HB0.out.cell 0 _ rfl; have hb0_1 := HB0.out.cell 1 _ rfl; have hb0_2 := HB0.out.cell 2 _ rfl; have hb0_3 := HB0.out.cell 3 _ rfl; have hb0_4 := HB0.out.cell 4 _ rfl; clear X9 B9 l9; clear t0; have t1 : (1 : Nat) = 1 := rfl))
  refine wp_region_held_drew (S := fun w' => Below w4.heap.size w4 w') (by kernel_rfl) (Below.refl _ _).drew (fun hS => ?_)
  obtain ⟨x1, hx0⟩ : ∃ x, x = w4.drew := ⟨_, rfl⟩
  rw [← hx0] at hS  ⊢
  clear hx0
  refine take_lawH 0 (some 53) (.slice ko 32 kc) rfl rfl (by kernel_rfl) (by kernel_rfl) (by kernel_rfl) (fun _ _ _ h => h) (Or.inl ⟨by rfl, fun w' hw' => by rfl⟩) hS ?_
  simp only [Act.put, List.setIfInBounds_toArray, List.set_cons_zero, List.set_cons_succ]
  refine take_lawH 1 (some 54) (.pointer (some ⟨w.heap.size, 4, none⟩)) rfl rfl (by kernel_rfl) (by kernel_rfl) (by kernel_rfl) (fun _ _ _ h => h) (Or.inl ⟨by rfl, fun w' hw' => by go_simp⟩) hS ?_
  simp only [Act.put, List.setIfInBounds_toArray, List.set_cons_zero, List.set_cons_succ]
  refine take_lawH 2 (some 55) (.slice ao 104 cap) rfl rfl (by kernel_rfl) (by kernel_rfl) (by kernel_rfl) (fun _ _ _ h => h) (Or.inl ⟨by rfl, fun w' hw' => by exact exec_loadN 22 (.tmp 54) rfl _ rfl _ _ (load_one one_bytes ((HB0.out.below hw' (range_lt HB0.out.1 (Nat.succ_pos _))).cell 4 _ rfl))⟩) hS ?_
  simp only [Act.put, List.setIfInBounds_toArray, List.set_cons_zero, List.set_cons_succ]
  refine wpAnyH_ready (rs := [3]) (by kernel_rfl) (by simp) ?_
  refine AllReadyH.cons rfl (fun K hK => ?_) AllReadyH.nil
  refine he.step_callW _ (by rfl) (some 56) rfl 12 #[] #[] rfl (fun q w' => by rfl) #[] (by simp only [List.map_toArray, List.map_nil]) (fun z9 w' => Byt w' z9 PT ∧ Below x1.heap.size x1 w') ?_ ?_
  · exact (ST.out x1).mono fun e w' ⟨r, h1, h2, h3⟩ => ⟨r, h1, h2, h3⟩
  rintro tb9 x2 ⟨y1, hb⟩
  have YB : Hid (Byt x2 tb9 PT) := y1
  clear y1
  have hS : Below w4.heap.size w4 x2 := hS.trans (hb.mono hS.size)
  clear hb
  refine hK.out _ _ hS (fun _ => ?_)
  simp only [Act.put, List.setIfInBounds_toArray, List.set_cons_zero, List.set_cons_succ]
  clear hK K
  refine wpAnyH_ready (rs := [4]) (by kernel_rfl) (by simp) ?_
  refine AllReadyH.cons rfl (fun K hK => ?_) AllReadyH.nil
  refine he.step_callW _ (by rfl) (some 57) rfl 15 #[.tmp 53, .tmp 55, .tmp 56] #[22, 22, 22] rfl (fun q w' => by rfl) #[.slice ko 32 kc, .slice ao 104 cap, tb9] (by simp only [List.map_toArray, List.map_cons, List.map_nil]; rfl) (fun z9 w' => (∃ yo yc, z9 = .tuple #[.slice yo 96 yc, .bool false] ∧ Byt w' (.slice yo 96 yc) X) ∧ Below x2.heap.size x2 w') ?_ ?_
  · exact (SU.out x2 tb9 (BB.out.trans (hS.mono BB.out.size)) YB.out).mono fun e w' ⟨yo, yc, h1, h2, h3⟩ => ⟨_, h1, ⟨yo, yc, rfl, h2⟩, h3⟩
  rintro _ x3 ⟨⟨yo, yc, rfl, y1⟩, hb⟩
  have YY : Hid (Byt x3 (.slice yo 96 yc) X) := y1
  clear y1
  have hS : Below w4.heap.size w4 x3 := hS.trans (hb.mono hS.size)
  clear hb
  refine hK.out _ _ hS (fun _ => ?_)
  simp only [Act.put, List.setIfInBounds_toArray, List.set_cons_zero, List.set_cons_succ]
  clear hK K
  refine take_lawH 5 (some 52) (.tuple #[.slice yo 96 yc, .bool false]) rfl rfl (by kernel_rfl) (by kernel_rfl) (by kernel_rfl) (fun _ _ _ h => h) (Or.inl ⟨by rfl, fun w' hw' => by rfl⟩) hS ?_
  simp only [Act.put, List.setIfInBounds_toArray, List.set_cons_zero, List.set_cons_succ]
  refine take_lawH 6 (some 58) (.slice yo 96 yc) rfl rfl (by kernel_rfl) (by kernel_rfl) (by kernel_rfl) (fun _ _ _ h => h) (Or.inl ⟨by rfl, fun w' hw' => by rfl⟩) hS ?_
  simp only [Act.put, List.setIfInBounds_toArray, List.set_cons_zero, List.set_cons_succ]
  refine take_lawH 7 (some 59) (.bool false) rfl rfl (by kernel_rfl) (by kernel_rfl) (by kernel_rfl) (fun _ _ _ h => h) (Or.inl ⟨by rfl, fun w' hw' => by rfl⟩) hS ?_
  simp only [Act.put, List.setIfInBounds_toArray, List.set_cons_zero, List.set_cons_succ]
  refine take_lawH 8 (some 7) (.slice yo 96 yc) rfl rfl (by kernel_rfl) (by kernel_rfl) (by kernel_rfl) (fun _ _ _ h => h) (Or.inl ⟨by rfl, fun w' hw' => by rfl⟩) hS ?_
  simp only [Act.put, List.setIfInBounds_toArray, List.set_cons_zero, List.set_cons_succ]
  refine take_lawH 9 (some 8) (.bool false) rfl rfl (by kernel_rfl) (by kernel_rfl) (by kernel_rfl) (fun _ _ _ h => h) (Or.inl ⟨by rfl, fun w' hw' => by rfl⟩) hS ?_
  simp only [Act.put, List.setIfInBounds_toArray, List.set_cons_zero, List.set_cons_succ]
  refine wpAnyH_done (by kernel_rfl) ?_ _
  clear hb0_0 hb0_1 hb0_2 hb0_3 hb0_4
  have HB0 : Hid (Vr x3 w.heap.size (sv true n e t (.slice ao 104 cap))) := HB0.out.below hS (range_lt HB0.out.1 (Nat.succ_pos _))
  have BB : Hid (Below w.heap.size w x3) := BB.out.trans (hS.mono BB.out.size)
  clear hS
  have hb0_0 := HB0.out.cell 0 _ rfl
  have hb0_1 := HB0.out.cell 1 _ rfl
  have hb0_2 := HB0.out.cell 2 _ rfl
  have hb0_3 := HB0.out.cell 3 _ rfl
  have hb0_4 := HB0.out.cell 4 _ rfl
  have t50 : (1 : Nat) = 1 := rfl
  go_wp2_with (first
    | (have q50 := t50; go_at_call 9; refine (awake_any x3).mono ?_; rintro e9 w91 ⟨rfl, B9⟩; have HB0 : Hid (Vr w91 w.heap.size (sv true n e t (.slice ao 104 cap))) := HB0.out.below B9 (range_lt HB0.out.1 (Nat.succ_pos _)); have BB : Hid (Below w.heap.size w w91) := BB.out.trans (B9.mono BB.out.size); clear hb0_0 hb0_1 hb0_2 hb0_3 hb0_4; have hb0_0 := HB0.out.cell 0 _ rfl; have hb0_1 := HB0.out.cell 1 _ rfl; have hb0_2 := HB0.out.cell 2 _ rfl; have hb0_3 := HB0.out.cell 3 _ rfl; have hb0_4 := HB0.out.cell 4 _ rfl; clear B9; clear t50; have t51 : (1 : Nat) = 1 := rfl))
  go_ret
  exact ⟨rfl, BB.out⟩

theorem walk (kv : Value) (ks : List Int) (u : Bool) (n e t : Int) (v : Value) (xs : List Int) (w : World) (hk : Byt w kv ks) (hS : Sb n e t) (hv : Byt w v xs) :
    Calls Try.prog 4 #[kv, .agg (sv u n e t v).toArray] w fun x w' => x = .returned (.bool true) ∧ Below w.heap.size w w' := by
  by_cases h1 : (1000 : Int) < (xs.length : Int)
  · exact walk_long kv ks u n e t v xs w hk hS hv h1
  · by_cases hr : Rs u n e t xs
    · by_cases hl : ks.length = 32
      · cases u
        · exact walk_none kv ks n e t v xs w hk hS hv h1 hr hl
        · by_cases hf : hd (unwr ks xs 12) = a6
          · exact walk_yes kv ks n e t v xs w hk hS hv hr hl hf
          · exact walk_bad kv ks n e t v xs w hk hS hv hr hl hf
      · exact walk_len kv ks u n e t v xs w hk hS hv h1 hr hl
    · exact walk_wrong kv ks u n e t v xs w hk hS hv h1 hr

theorem params : ∀ t ∈ Try.f4.params.toList, Try.prog.readableRec t = true ∧ t < Try.prog.types.size := by
  rw [Try.params4]
  intro t ht
  simp at ht
  rcases ht with rfl | rfl
  · exact ⟨by kernel_rfl, of_decide_eq_true (by kernel_rfl)⟩
  · exact ⟨by kernel_rfl, of_decide_eq_true (by kernel_rfl)⟩

theorem contract (H : Type) (enc : TypeId × Value → H) (W : World) (base : Nat) (args : Array Value) (ds gs : List (DataW H)) (before : List MemPlace)
    (hval : ∀ (j : Nat) t v, Try.f4.params[j]? = some t → args[j]? = some v → Value.okWide Try.prog W .any base t v)
    (hW : DataW.Whole enc Try.prog Try.f4.params.toList Rows.slotKeysSpec.vars false W args.toList ds gs before) :
    Calls Try.prog 4 args W fun e W' => ∃ v, e = .returned v ∧ Rows.slotKeysSpec.post enc Try.prog Try.f4 false true false false W args v W' := by
  have hW' := hW
  obtain ⟨p, q, hA0, hV, rfl, hfz, hnd⟩ := hW
  have hA : DataW.TrodAll enc Try.prog W 0 (fun _ => true) true Try.f4.params.toList args.toList ds p := hA0
  rw [Try.params4] at hA hval
  obtain ⟨v0, v1, d0, d1, p0, p1, rfl, rfl, rfl, h0, h1⟩ := trodAll_two hA
  obtain ⟨rfl, rfl⟩ := trodVars_none hV
  obtain ⟨xs0, b0⟩ := byt_open (hval 0 22 v0 rfl rfl) h0
  obtain ⟨su1, sn1, se1, st1, sx1, xs1, rfl, hf1, b1⟩ := so.slot_open (hval 1 29 v1 rfl rfl) h1
  clear hA0
  refine (walk v0 xs0 su1 sn1 se1 st1 sx1 xs1 W b0 hf1 b1).mono fun e W' ⟨he, hg⟩ => ?_
  subst he
  exact ⟨_, rfl, post_law rfl (by kernel_rfl) params rfl rfl rfl hW' hg⟩

theorem laid_met (os : Os) : laidMet Try.prog Rows.slotKeysRow.laid ((World.holding Try.prog os ⟨#[], #[], []⟩).forCall (fun _ _ => 0) ⟨#[], #[.slice none 0 0, .agg #[.bool false, .int .i64 0, .int .u64 0, .int .u64 0, .slice none 0 0]], []⟩).memory :=
  laidMet_of_run' 8 (by kernel_rfl) (by kernel_rfl)
theorem reads (os : Os) {H : Type} (enc : TypeId × Value → H) : ∃ places, DataW.whole enc Try.prog ((World.holding Try.prog os ⟨#[], #[], []⟩).forCall (fun _ _ => 0) ⟨#[], #[.slice none 0 0, .agg #[.bool false, .int .i64 0, .int .u64 0, .int .u64 0, .slice none 0 0]], []⟩).memory Try.f4.params.toList Rows.slotKeysSpec.vars false #[Value.slice none 0 0, Value.agg #[.bool false, .int .i64 0, .int .u64 0, .int .u64 0, .slice none 0 0]].toList 8 = some ([.nil, .agg [.lit (.bool false), .lit (.int .i64 0), .lit (.int .u64 0), .lit (.int .u64 0), .nil]], [], places) :=
  ⟨[], by kernel_rfl⟩

set_option maxRecDepth 100000 in
theorem lifted (os : Os) (started : os.Started) (H : Type) (enc : TypeId × Value → H) (F : Stop.Interp) :
    ReturnsInHanded {} Try.checked os 4 .any ((OpenSpec.ofChange Rows.slotKeysSpec).preRow enc Try.prog Try.f4 Rows.slotKeysRow.domain false Rows.slotKeysRow.laid) (((OpenSpec.ofChange Rows.slotKeysSpec).at F).post enc Try.prog Try.f4 false true false false) := by
  obtain ⟨places, hx⟩ := reads os enc
  refine returnsInHanded_of_row (C := Try.checked) (s := OpenSpec.ofChange Rows.slotKeysSpec) own started (by kernel_rfl) Try.func4
    (witness_row_at (enc := enc) (C := Try.checked) false (World.holding Try.prog os ⟨#[], #[], []⟩) #[.slice none 0 0, .agg #[.bool false, .int .i64 0, .int .u64 0, .int .u64 0, .slice none 0 0]] rfl (by kernel_rfl) (by kernel_rfl) (by kernel_rfl)
      (OpenSpec.preRow_of_cond 8 hx (by kernel_rfl) (fun k hk => by cases hk) (by kernel_rfl) (laid_met os))) ?_
  intro W base args ds gs before hval hW _ _ _ _ _ _
  exact contract H enc W base args ds gs before hval hW

theorem said : Rows.SlotKeysSaid :=
  OpenClaim.holds_of_cond 4 Try.f4 rfl rfl rfl rfl rfl rfl rfl ⟨rfl, rfl, rfl, rfl, rfl⟩ rfl rfl rfl rfl rfl (by kernel_rfl) Try.func4 (by kernel_rfl)
    (of_decide_eq_true (by kernel_rfl)) (by unfold Func.isWrapper; first | (rw [if_pos (by decide +kernel)]; kernel_rfl) | (rw [if_neg (by decide +kernel)]; exact ⟨rfl, rfl⟩))
    (fun os started H enc _ F => by rw [OpenClaim.pre_eq_preRow]; exact lifted os started H enc F)
end Go.Proofs.Ytifepmdhbhdjpaa.slotKeys

namespace Go.Proofs.Ytifepmdhbhdjpaa
theorem slotKeys_said : Rows.SlotKeysSaid := slotKeys.said
#print axioms slotKeys_said
end Go.Proofs.Ytifepmdhbhdjpaa
