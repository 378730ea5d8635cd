/- Whether any slot may be; its bytes, or why there are none: as the document says; they are read as it was; a copy is the same, and stays when another copy is written. Of more than 1000 wrapped bytes: the program answers. No condition. -/
import Derived.Test.YtifepmdhbhdjpaaDoorCards
import Derived.Test.YtifepmdhbhdjpaaDoorTie
import Derived.Test.YtifepmdhbhdjpaaDoorPackI
import Derived.Test.YtifepmdhbhdjpaaDoorPackN
namespace Go.Proofs.YtifepmdhbhdjpaaDoor.slotBytes
open Go.ChangeShapes Go.WideShapes Go.ChangeAt Go.RowKit Go.Proofs.YtifepmdhbhdjpaaDoor.so Go.Proofs.YtifepmdhbhdjpaaDoor.he Go.Proofs.YtifepmdhbhdjpaaDoor.fa
set_option maxRecDepth 20000


set_option maxHeartbeats 4000000 in
theorem walk_long (u : Bool) (n e t : Int) (v : Value) (xs : List Int) (w : World) (_hS : Sb n e t) (hv : Byt w v xs) (h1 : (1000 : Int) < (xs.length : Int)) :
    Calls Tryd.prog 3 #[.agg (sv u n e t v).toArray] w fun x w' => x = .returned (.bool true) ∧ Below w.heap.size w w' := by
  obtain ⟨ao, cap, rfl⟩ := form hv
  clear hv
  have t0 : (0 : Nat) = 0 := rfl
  go_enter Tryd.func3, Tryd.ntmps3
  go_wp2_with (first
    | (have q1 := t1; go_at_call 5; refine (awake_any w1).mono ?_; rintro e9 w2 ⟨rfl, B9⟩; have HB0 : Hid (Vr w2 w.heap.size (sv u n e t (.slice ao xs.length cap))) := HB0.out.below B9 (range_lt HB0.out.1 (Nat.succ_pos _)); have BB : Hid (Below w.heap.size w w2) := BB.out.trans (B9.mono BB.out.size); clear hb0_0 hb0_1 hb0_2 hb0_3 hb0_4; have hb0_0 := HB0.out.cell 0 _ rfl; have hb0_1 := HB0.out.cell 1 _ rfl; have hb0_2 := HB0.out.cell 2 _ rfl; have hb0_3 := HB0.out.cell 3 _ rfl; have hb0_4 := HB0.out.cell 4 _ rfl; clear B9; clear t1; have t2 : (1 : Nat) = 1 := rfl)
    | (have q0 := t0; refine box_lawC _ (sv u n e t (.slice ao xs.length cap)) rfl ?_; intro w1 X9 B9 l9; have HB0 : Hid (Vr w1 w.heap.size (sv u n e t (.slice ao xs.length cap))) := X9; have BB : Hid (Below w.heap.size w w1) := B9; have hb0_0 := HB0.out.cell 0 _ rfl; have hb0_1 := HB0.out.cell 1 _ rfl; have hb0_2 := HB0.out.cell 2 _ rfl; have hb0_3 := HB0.out.cell 3 _ rfl; have hb0_4 := HB0.out.cell 4 _ rfl; clear X9 B9 l9; clear t0; have t1 : (1 : Nat) = 1 := rfl))
  go_ret
  exact ⟨rfl, BB.out⟩

set_option maxHeartbeats 8000000 in
theorem walk_yes (u : Bool) (n e t : Int) (v : Value) (xs : List Int) (w : World) (hS : Sb n e t) (hv : Byt w v xs) (hT : Tbl w) (h1 : ¬ ((1000 : Int) < (xs.length : Int))) (hr : Rs u n e t xs) :
    Calls Tryd.prog 3 #[.agg (sv u n e t v).toArray] w fun x w' => x = .returned (.bool true) ∧ Below w.heap.size w w' := by
  have HV : Hid (Byt w v xs) := hv
  have HLN : Hid (xs.length ≤ 1000) := (by show _ ≤ _; omega)
  have SR : Hid (∀ w0, Below w.heap.size w w0 → Calls Tryd.prog 8 #[.agg (sv u n e t v).toArray] w0 fun x w' => x = .returned (.bool true) ∧ Below w0.heap.size w0 w') := fun w0 q => so.right_yes u n e t v xs w0 (hv.below q) hS hr
  have SG : Hid (∀ w0, Below w.heap.size w w0 → Calls Tryd.prog 9 #[.agg (sv u n e t v).toArray] w0 fun x w' => x = .returned (.bool true) ∧ Below w0.heap.size w0 w') := fun w0 q => rright_yes u n e t v xs w0 (hv.below q) hr
  have SO : Hid (∀ w0 z, Byt w0 z xs → Calls Tryd.prog 10 #[.agg (sv u n e t z).toArray] w0 fun x w' => x = .returned (.agg (sv u n e t z).toArray) ∧ Below w0.heap.size w0 w') := fun w0 z hz => so.of_any u n e t z xs w0 hz
  have SC : Hid (∀ w0 z, Byt w0 z xs → Calls Tryd.prog 7 #[.agg (sv u n e t z).toArray] w0 fun x w' => ∃ co cc, x = .returned (.agg (sv u n e t (.slice co xs.length cc)).toArray) ∧ Bow w0.heap.size w' (.slice co xs.length cc) xs ∧ Below w0.heap.size w0 w') := fun w0 z hz => so.copy_any u n e t z xs w0 hz (by omega)
  have SB : Hid (∀ w0, Below w.heap.size w w0 → Calls Tryd.prog 6 #[.agg (sv u n e t v).toArray] w0 fun x w' => ∃ g, x = .returned (.tuple #[.slice (some ⟨g, 0, none⟩) 128 128, .int .i64 0]) ∧ Byt w' (.slice (some ⟨g, 0, none⟩) 128 128) (so.sb u n e t xs) ∧ Below w0.heap.size w0 w') := fun w0 q => bytes_yes u n e t v xs w0 (hv.below q) hS hr (hT.below q hT.lt)
  have SD : Hid (∀ w0 z, Below w.heap.size w w0 → Byt w0 z (so.sb u n e t xs) → Calls Tryd.prog 12 #[z] w0 fun x w' => ∃ yo yc, x = .returned (.tuple #[.agg (sv u n e t (.slice yo xs.length yc)).toArray, .int .i64 0]) ∧ Byt w' (.slice yo xs.length yc) xs ∧ Below w0.heap.size w0 w') := fun w0 z q hz => read_sb u n e t xs z w0 hS hv.all hr hz (hT.below q hT.lt)
  have SF : Hid (∀ w0, Below w.heap.size w w0 → Calls Tryd.prog 14 #[.agg (sv u n e t v).toArray] w0 fun x w' => ∃ r, x = .returned r ∧ Byt w' r (so.sb u n e t xs) ∧ Below w0.heap.size w0 w') := fun w0 q => rbytes_sb u n e t v xs w0 (hv.below q) hS hr
  have ZL : Hid ((so.sb u n e t xs).length = 128) := sb_len hr
  generalize so.sb u n e t xs = ZZ at SB SD SF ZL
  obtain ⟨ao, cap, rfl⟩ := form hv
  clear hv hS hr hT
  have t0 : (0 : Nat) = 0 := rfl
  go_enter Tryd.func3, Tryd.ntmps3
  go_wp2_with (first
    | (have q7 := t7; (with_reducible refine at_store ?_); refine store_lawC _ (sv u n e t (.slice eo xs.length ec)) w6.heap.size 0 rfl rfl HD.out.2 rowy_slot.2 (sv_one _ _ _ _ rfl) ?_; intro w8 E9 R9 T9 B9; have K9 : ∀ k, k ≠ w6.heap.size → w8.heap[k]? = w7.heap[k]? := (by rw [E9.out]; exact fun k hk => heap_cells _ _ _ _ k hk); have HB0 : Hid (Vr w8 w.heap.size (sv u n e t (.slice ao xs.length cap))) := HB0.out.heap (K9 _ (Nat.ne_of_lt LT_HB0_HD.out)); have HX : Hid (Byt w8 (.slice (some ⟨g9, 0, none⟩) 128 128) ZZ) := byt_nob HX.out NB_HD.out K9; have HC1 : Hid (Bow w2.heap.size w8 (.slice co xs.length cc) xs) := bow_nob HC1.out NB_HD.out K9; have NB_HC : Hid (NoB w8 w3.heap.size) := NB_HC.out.heap (K9 _ (Nat.ne_of_lt LT_HC_HD.out)); have HC : Hid (Vr w8 w3.heap.size (sv u n e t (.slice co xs.length cc))) := HC.out.heap (K9 _ (Nat.ne_of_lt LT_HC_HD.out)); have HD1 : Hid (Bow w3.heap.size w8 (.slice eo xs.length ec) xs) := bow_nob HD1.out NB_HD.out K9; have NB_HD : Hid (NoB w8 w6.heap.size) := (by rw [E9.out]; exact NB_HD.out.set HD.out rfl (sv_nob _ _ _ _ _ _ _)); have HD : Hid (Vr w8 w6.heap.size (sv u n e t (.slice eo xs.length ec))) := ⟨R9, T9⟩; have BB : Hid (Below w.heap.size w w8) := BB.out.trans (B9.mono LE_HD.out); clear hb0_0 hb0_1 hb0_2 hb0_3 hb0_4 hc_0 hc_1 hc_2 hc_3 hc_4; have hb0_0 := HB0.out.cell 0 _ rfl; have hb0_1 := HB0.out.cell 1 _ rfl; have hb0_2 := HB0.out.cell 2 _ rfl; have hb0_3 := HB0.out.cell 3 _ rfl; have hb0_4 := HB0.out.cell 4 _ rfl; have hc_0 := HC.out.cell 0 _ rfl; have hc_1 := HC.out.cell 1 _ rfl; have hc_2 := HC.out.cell 2 _ rfl; have hc_3 := HC.out.cell 3 _ rfl; have hc_4 := HC.out.cell 4 _ rfl; have hd_0 := HD.out.cell 0 _ rfl; have hd_1 := HD.out.cell 1 _ rfl; have hd_2 := HD.out.cell 2 _ rfl; have hd_3 := HD.out.cell 3 _ rfl; have hd_4 := HD.out.cell 4 _ rfl; clear E9 R9 T9 B9 K9; clear t7; have t8 : (1 : Nat) = 1 := rfl)
    | (have q6 := t6; (with_reducible refine at_alloc ?_); refine new_lawN _ (sv false 0 0 0 (.slice none 0 0)) zero_slot (sv_nob _ _ _ _ _ _ _) ?_; intro w7 X9 N9 B9; have LT_HB0_HD : Hid (w.heap.size < w6.heap.size) := range_lt HB0.out.1 (Nat.succ_pos _); have LT_HC_HD : Hid (w3.heap.size < w6.heap.size) := range_lt HC.out.1 (Nat.succ_pos _); have LE_HD : Hid (w.heap.size ≤ w6.heap.size) := BB.out.size; have HB0 : Hid (Vr w7 w.heap.size (sv u n e t (.slice ao xs.length cap))) := HB0.out.below B9 (range_lt HB0.out.1 (Nat.succ_pos _)); have HX : Hid (Byt w7 (.slice (some ⟨g9, 0, none⟩) 128 128) ZZ) := HX.out.below B9; have HC1 : Hid (Bow w2.heap.size w7 (.slice co xs.length cc) xs) := HC1.out.below B9; have NB_HC : Hid (NoB w7 w3.heap.size) := NB_HC.out.heap (B9.block _ (range_lt HC.out.1 (Nat.succ_pos _))); have HC : Hid (Vr w7 w3.heap.size (sv u n e t (.slice co xs.length cc))) := HC.out.below B9 (range_lt HC.out.1 (Nat.succ_pos _)); have HD1 : Hid (Bow w3.heap.size w7 (.slice eo xs.length ec) xs) := HD1.out.below B9; have HD : Hid (Vr w7 w6.heap.size (sv false 0 0 0 (.slice none 0 0))) := X9; have NB_HD : Hid (NoB w7 w6.heap.size) := N9; have BB : Hid (Below w.heap.size w w7) := BB.out.trans (B9.mono BB.out.size); clear hb0_0 hb0_1 hb0_2 hb0_3 hb0_4 hc_0 hc_1 hc_2 hc_3 hc_4; have hb0_0 := HB0.out.cell 0 _ rfl; have hb0_1 := HB0.out.cell 1 _ rfl; have hb0_2 := HB0.out.cell 2 _ rfl; have hb0_3 := HB0.out.cell 3 _ rfl; have hb0_4 := HB0.out.cell 4 _ rfl; have hc_0 := HC.out.cell 0 _ rfl; have hc_1 := HC.out.cell 1 _ rfl; have hc_2 := HC.out.cell 2 _ rfl; have hc_3 := HC.out.cell 3 _ rfl; have hc_4 := HC.out.cell 4 _ rfl; clear X9 N9 B9; clear t6; have t7 : (1 : Nat) = 1 := rfl)
    | (have q5 := t5; go_at_call 7; refine (SC.out w5 _ HC1.out.1).mono ?_; rintro e9 w6 ⟨eo, ec, rfl, Y9, B9⟩; have HB0 : Hid (Vr w6 w.heap.size (sv u n e t (.slice ao xs.length cap))) := HB0.out.below B9 (range_lt HB0.out.1 (Nat.succ_pos _)); have HX : Hid (Byt w6 (.slice (some ⟨g9, 0, none⟩) 128 128) ZZ) := HX.out.below B9; have HC1 : Hid (Bow w2.heap.size w6 (.slice co xs.length cc) xs) := HC1.out.below B9; have NB_HC : Hid (NoB w6 w3.heap.size) := NB_HC.out.heap (B9.block _ (range_lt HC.out.1 (Nat.succ_pos _))); have HC : Hid (Vr w6 w3.heap.size (sv u n e t (.slice co xs.length cc))) := HC.out.below B9 (range_lt HC.out.1 (Nat.succ_pos _)); have HD1 : Hid (Bow w3.heap.size w6 (.slice eo xs.length ec) xs) := Y9.mono (Nat.le_of_lt L5.out); have BB : Hid (Below w.heap.size w w6) := BB.out.trans (B9.mono BB.out.size); clear hb0_0 hb0_1 hb0_2 hb0_3 hb0_4 hc_0 hc_1 hc_2 hc_3 hc_4; have hb0_0 := HB0.out.cell 0 _ rfl; have hb0_1 := HB0.out.cell 1 _ rfl; have hb0_2 := HB0.out.cell 2 _ rfl; have hb0_3 := HB0.out.cell 3 _ rfl; have hb0_4 := HB0.out.cell 4 _ rfl; have hc_0 := HC.out.cell 0 _ rfl; have hc_1 := HC.out.cell 1 _ rfl; have hc_2 := HC.out.cell 2 _ rfl; have hc_3 := HC.out.cell 3 _ rfl; have hc_4 := HC.out.cell 4 _ rfl; clear B9 Y9; clear t5; have t6 : (1 : Nat) = 1 := rfl)
    | (have q4 := t4; (with_reducible refine at_store ?_); refine store_lawC _ (sv u n e t (.slice co xs.length cc)) w3.heap.size 0 rfl rfl HC.out.2 rowy_slot.2 (sv_one _ _ _ _ rfl) ?_; intro w5 E9 R9 T9 B9; have K9 : ∀ k, k ≠ w3.heap.size → w5.heap[k]? = w4.heap[k]? := (by rw [E9.out]; exact fun k hk => heap_cells _ _ _ _ k hk); have HB0 : Hid (Vr w5 w.heap.size (sv u n e t (.slice ao xs.length cap))) := HB0.out.heap (K9 _ (Nat.ne_of_lt LT_HB0_HC.out)); have HX : Hid (Byt w5 (.slice (some ⟨g9, 0, none⟩) 128 128) ZZ) := byt_nob HX.out NB_HC.out K9; have HC1 : Hid (Bow w2.heap.size w5 (.slice co xs.length cc) xs) := bow_nob HC1.out NB_HC.out K9; have NB_HC : Hid (NoB w5 w3.heap.size) := (by rw [E9.out]; exact NB_HC.out.set HC.out rfl (sv_nob _ _ _ _ _ _ _)); have HC : Hid (Vr w5 w3.heap.size (sv u n e t (.slice co xs.length cc))) := ⟨R9, T9⟩; have BB : Hid (Below w.heap.size w w5) := BB.out.trans (B9.mono LE_HC.out); clear hb0_0 hb0_1 hb0_2 hb0_3 hb0_4; have hb0_0 := HB0.out.cell 0 _ rfl; have hb0_1 := HB0.out.cell 1 _ rfl; have hb0_2 := HB0.out.cell 2 _ rfl; have hb0_3 := HB0.out.cell 3 _ rfl; have hb0_4 := HB0.out.cell 4 _ rfl; have hc_0 := HC.out.cell 0 _ rfl; have hc_1 := HC.out.cell 1 _ rfl; have hc_2 := HC.out.cell 2 _ rfl; have hc_3 := HC.out.cell 3 _ rfl; have hc_4 := HC.out.cell 4 _ rfl; have L5 : Hid (w3.heap.size < w5.heap.size) := range_lt HC.out.1 (Nat.succ_pos _); clear E9 R9 T9 B9 K9; clear t4; have t5 : (1 : Nat) = 1 := rfl)
    | (have q3 := t3; (with_reducible refine at_alloc ?_); refine new_lawN _ (sv false 0 0 0 (.slice none 0 0)) zero_slot (sv_nob _ _ _ _ _ _ _) ?_; intro w4 X9 N9 B9; have LT_HB0_HC : Hid (w.heap.size < w3.heap.size) := range_lt HB0.out.1 (Nat.succ_pos _); have LE_HC : Hid (w.heap.size ≤ w3.heap.size) := BB.out.size; have HB0 : Hid (Vr w4 w.heap.size (sv u n e t (.slice ao xs.length cap))) := HB0.out.below B9 (range_lt HB0.out.1 (Nat.succ_pos _)); have HX : Hid (Byt w4 (.slice (some ⟨g9, 0, none⟩) 128 128) ZZ) := HX.out.below B9; have HC1 : Hid (Bow w2.heap.size w4 (.slice co xs.length cc) xs) := HC1.out.below B9; have HC : Hid (Vr w4 w3.heap.size (sv false 0 0 0 (.slice none 0 0))) := X9; have NB_HC : Hid (NoB w4 w3.heap.size) := N9; have BB : Hid (Below w.heap.size w w4) := BB.out.trans (B9.mono BB.out.size); clear hb0_0 hb0_1 hb0_2 hb0_3 hb0_4; have hb0_0 := HB0.out.cell 0 _ rfl; have hb0_1 := HB0.out.cell 1 _ rfl; have hb0_2 := HB0.out.cell 2 _ rfl; have hb0_3 := HB0.out.cell 3 _ rfl; have hb0_4 := HB0.out.cell 4 _ rfl; clear X9 N9 B9; clear t3; have t4 : (1 : Nat) = 1 := rfl)
    | (have q2 := t2; go_at_call 7; refine (SC.out w2 _ (HV.out.below BB.out)).mono ?_; rintro e9 w3 ⟨co, cc, rfl, Y9, B9⟩; have HB0 : Hid (Vr w3 w.heap.size (sv u n e t (.slice ao xs.length cap))) := HB0.out.below B9 (range_lt HB0.out.1 (Nat.succ_pos _)); have HX : Hid (Byt w3 (.slice (some ⟨g9, 0, none⟩) 128 128) ZZ) := HX.out.below B9; have HC1 : Hid (Bow w2.heap.size w3 (.slice co xs.length cc) xs) := Y9; have HCl : Hid (0 < xs.length → ∃ b off, co = some ⟨b, off, none⟩ ∧ w2.heap.size ≤ b ∧ b < w3.heap.size) := bow_at Y9; have BB : Hid (Below w.heap.size w w3) := BB.out.trans (B9.mono BB.out.size); clear hb0_0 hb0_1 hb0_2 hb0_3 hb0_4; have hb0_0 := HB0.out.cell 0 _ rfl; have hb0_1 := HB0.out.cell 1 _ rfl; have hb0_2 := HB0.out.cell 2 _ rfl; have hb0_3 := HB0.out.cell 3 _ rfl; have hb0_4 := HB0.out.cell 4 _ rfl; clear B9 Y9; clear t2; have t3 : (1 : Nat) = 1 := rfl)
    | (have q1 := t1; go_at_call 6; refine (SB.out w1 BB.out).mono ?_; rintro e9 w2 ⟨g9, rfl, Y9, B9⟩; have HB0 : Hid (Vr w2 w.heap.size (sv u n e t (.slice ao xs.length cap))) := HB0.out.below B9 (range_lt HB0.out.1 (Nat.succ_pos _)); have HX : Hid (Byt w2 (.slice (some ⟨g9, 0, none⟩) 128 128) ZZ) := Y9; have LG : Hid (g9 < w2.heap.size) := byt_lt Y9 (by rw [ZL.out]; omega); have L2 : Hid (w.heap.size < w2.heap.size) := range_lt HB0.out.1 (Nat.succ_pos _); have BB : Hid (Below w.heap.size w w2) := BB.out.trans (B9.mono BB.out.size); clear hb0_0 hb0_1 hb0_2 hb0_3 hb0_4; have hb0_0 := HB0.out.cell 0 _ rfl; have hb0_1 := HB0.out.cell 1 _ rfl; have hb0_2 := HB0.out.cell 2 _ rfl; have hb0_3 := HB0.out.cell 3 _ rfl; have hb0_4 := HB0.out.cell 4 _ rfl; clear B9 Y9; clear t1; have t2 : (1 : Nat) = 1 := rfl)
    | (have q0 := t0; refine box_lawC _ (sv u n e t (.slice ao xs.length cap)) rfl ?_; intro w1 X9 B9 l9; have HB0 : Hid (Vr w1 w.heap.size (sv u n e t (.slice ao xs.length cap))) := X9; have BB : Hid (Below w.heap.size w w1) := B9; have hb0_0 := HB0.out.cell 0 _ rfl; have hb0_1 := HB0.out.cell 1 _ rfl; have hb0_2 := HB0.out.cell 2 _ rfl; have hb0_3 := HB0.out.cell 3 _ rfl; have hb0_4 := HB0.out.cell 4 _ rfl; clear X9 B9 l9; clear t0; have t1 : (1 : Nat) = 1 := rfl))
  clear hb0_0 hb0_1 hb0_2 hb0_3 hb0_4 hc_0 hc_1 hc_2 hc_3 hc_4 hd_0 hd_1 hd_2 hd_3 hd_4
  go_loopw [7] (fun i wr => ∃ k : Nat, k ≤ xs.length ∧ i = .int .i64 k ∧ Wr w2.heap.size w3.heap.size w8 wr) (fun i _ => xs.length - (intOf i).toNat)
  case atStart => exact ⟨0, Nat.zero_le _, rfl, Wr.refl _ _ _⟩
  case round =>
    obtain ⟨k, hk, rfl, hW⟩ := hrel
    have HW : Hid (Wr w2.heap.size w3.heap.size w8 wr) := hW
    have HC : Hid (Vr wr w3.heap.size (sv u n e t (.slice co xs.length cc))) := HC.out.heap (hW.2.1 _ (Nat.le_refl _))
    have hc4 := HC.out.cell 4 _ rfl
    clear hW
    by_cases hlt : k < xs.length
    · obtain ⟨b, off, y, hco, hcell, hfr⟩ := HW.out.byte HC1.out k hlt
      obtain ⟨b', off', hco', hB, hH⟩ := HCl.out (by omega)
      subst hco
      obtain ⟨rfl, rfl⟩ : b = b' ∧ off = off' := by injection hco' with q; injection q with q1 q2; exact ⟨q1, q2⟩
      clear hco'
      have lk : (k : Int) < (xs.length : Int) := by omega
      have HB : Hid (w2.heap.size ≤ b) := hB
      have HH : Hid (b < w3.heap.size) := hH
      have HE : Hid (wr.cell? ⟨b, off + k, none⟩ = some (.int .u8 y)) := hcell
      have XL : Hid (xs.length ≤ 1000) := HLN.out
      clear hB hH
      go_wp2
      go_roundw
      case rel => exact ⟨k + 1, by omega, by have := XL.out; go_num, HW.out.set HE.out HB.out HH.out _⟩
      case measure => simp [intOf]; omega
    · have hk' : k = xs.length := by omega
      subst hk'
      have BR : Hid (Below w.heap.size w wr) := BB.out.trans (HW.out.1.mono (Nat.le_of_lt L2.out))
      have HB0 : Hid (Vr wr w.heap.size (sv u n e t (.slice ao xs.length cap))) := HB0.out.below HW.out.1 L2.out
      have HD : Hid (Vr wr w6.heap.size (sv u n e t (.slice eo xs.length ec))) := HD.out.heap (HW.out.2.1 _ (Nat.le_of_lt LT_HC_HD.out))
      have HE : Hid (Byt wr (.slice eo xs.length ec) xs) := HW.out.bow HD1.out
      have HX : Hid (Byt wr (.slice (some ⟨g9, 0, none⟩) 128 128) ZZ) := byt_low HX.out LG.out HW.out.1
      have BB := BR
      clear HC1 HD1 HC HW
      go_wp2
      clear hc4
      refine wp_region_held_drew (S := fun w' => Below wr.heap.size wr w') (by kernel_rfl) (Below.refl _ _).drew (fun hS => ?_)
      obtain ⟨x1, hx0⟩ : ∃ x, x = wr.drew := ⟨_, rfl⟩
      rw [← hx0] at hS  ⊢
      clear hx0
      refine take_lawH 0 (some 38) (.agg (sv u n e t (.slice ao xs.length cap)).toArray) rfl rfl (by kernel_rfl) (by kernel_rfl) (by kernel_rfl) (fun _ _ _ h => h) (Or.inl ⟨by rfl, fun w' hw' => by exact exec_loadN 25 (.tmp 1) rfl _ rfl _ _ (load_cells rowy_slot (HB0.out.below hw' (range_lt HB0.out.1 (Nat.succ_pos _))).1)⟩) hS ?_
      simp only [Act.put, List.setIfInBounds_toArray, List.set_cons_zero, List.set_cons_succ]
      refine take_lawH 2 (some 40) (.agg (sv u n e t (.slice ao xs.length cap)).toArray) rfl rfl (by kernel_rfl) (by kernel_rfl) (by kernel_rfl) (fun _ _ _ h => h) (Or.inl ⟨by rfl, fun w' hw' => by exact exec_loadN 25 (.tmp 1) rfl _ rfl _ _ (load_cells rowy_slot (HB0.out.below hw' (range_lt HB0.out.1 (Nat.succ_pos _))).1)⟩) hS ?_
      simp only [Act.put, List.setIfInBounds_toArray, List.set_cons_zero, List.set_cons_succ]
      refine wpAnyH_ready (rs := [1]) (by kernel_rfl) (by simp) ?_
      refine AllReadyH.cons rfl (fun K hK => ?_) AllReadyH.nil
      refine he.step_callW _ (by rfl) (some 39) rfl 8 #[.tmp 38] #[25] rfl (fun q w' => by rfl) #[.agg (sv u n e t (.slice ao xs.length cap)).toArray] (by simp only [List.map_toArray, List.map_cons, List.map_nil]; rfl) (fun z9 w' => z9 = .bool true ∧ Below x1.heap.size x1 w') ?_ ?_
      · exact (SR.out x1 (BB.out.trans (hS.mono BB.out.size))).mono fun e w' ⟨h1, h2⟩ => ⟨_, h1, rfl, h2⟩
      rintro _ x2 ⟨rfl, hb⟩
      have hS : Below wr.heap.size wr x2 := hS.trans (hb.mono hS.size)
      clear hb
      refine hK.out _ _ hS (fun _ => ?_)
      simp only [Act.put, List.setIfInBounds_toArray, List.set_cons_zero, List.set_cons_succ]
      clear hK K
      refine wpAnyH_ready (rs := [3]) (by kernel_rfl) (by simp) ?_
      refine AllReadyH.cons rfl (fun K hK => ?_) AllReadyH.nil
      refine he.step_callW _ (by rfl) (some 41) rfl 10 #[.tmp 40] #[25] rfl (fun q w' => by rfl) #[.agg (sv u n e t (.slice ao xs.length cap)).toArray] (by simp only [List.map_toArray, List.map_cons, List.map_nil]; rfl) (fun z9 w' => z9 = .agg (sv u n e t (.slice ao xs.length cap)).toArray ∧ Below x2.heap.size x2 w') ?_ ?_
      · exact (SO.out x2 _ (HV.out.below (BB.out.trans (hS.mono BB.out.size)))).mono fun e w' ⟨h1, h2⟩ => ⟨_, h1, rfl, h2⟩
      rintro _ x3 ⟨rfl, hb⟩
      have hS : Below wr.heap.size wr x3 := hS.trans (hb.mono hS.size)
      clear hb
      refine hK.out _ _ hS (fun _ => ?_)
      simp only [Act.put, List.setIfInBounds_toArray, List.set_cons_zero, List.set_cons_succ]
      clear hK K
      refine wpAnyH_ready (rs := [4]) (by kernel_rfl) (by simp) ?_
      refine AllReadyH.cons rfl (fun K hK => ?_) AllReadyH.nil
      refine he.step_callW _ (by rfl) (some 42) rfl 9 #[.tmp 41] #[33] rfl (fun q w' => by rfl) #[.agg (sv u n e t (.slice ao xs.length cap)).toArray] (by simp only [List.map_toArray, List.map_cons, List.map_nil]; rfl) (fun z9 w' => z9 = .bool true ∧ Below x3.heap.size x3 w') ?_ ?_
      · exact (SG.out x3 (BB.out.trans (hS.mono BB.out.size))).mono fun e w' ⟨h1, h2⟩ => ⟨_, h1, rfl, h2⟩
      rintro _ x4 ⟨rfl, hb⟩
      have hS : Below wr.heap.size wr x4 := hS.trans (hb.mono hS.size)
      clear hb
      refine hK.out _ _ hS (fun _ => ?_)
      simp only [Act.put, List.setIfInBounds_toArray, List.set_cons_zero, List.set_cons_succ]
      clear hK K
      refine take_lawH 5 (some 43) (.bool false) rfl rfl (by kernel_rfl) (by kernel_rfl) (by kernel_rfl) (fun _ _ _ h => h) (Or.inl ⟨by rfl, fun w' hw' => by rfl⟩) hS ?_
      simp only [Act.put, List.setIfInBounds_toArray, List.set_cons_zero, List.set_cons_succ]
      refine take_lawH 6 (some 44) (.bool false) rfl rfl (by kernel_rfl) (by kernel_rfl) (by kernel_rfl) (fun _ _ _ h => h) (Or.inl ⟨by rfl, fun w' hw' => by rfl⟩) hS ?_
      simp only [Act.put, List.setIfInBounds_toArray, List.set_cons_zero, List.set_cons_succ]
      refine take_lawH 7 (some 45) (.agg (sv u n e t (.slice eo xs.length ec)).toArray) rfl rfl (by kernel_rfl) (by kernel_rfl) (by kernel_rfl) (fun _ _ _ h => h) (Or.inl ⟨by rfl, fun w' hw' => by exact exec_loadN 25 (.tmp 6) rfl _ rfl _ _ (load_cells rowy_slot (HD.out.below hw' (range_lt HD.out.1 (Nat.succ_pos _))).1)⟩) hS ?_
      simp only [Act.put, List.setIfInBounds_toArray, List.set_cons_zero, List.set_cons_succ]
      refine take_lawH 9 (some 47) (.agg (sv u n e t (.slice ao xs.length cap)).toArray) rfl rfl (by kernel_rfl) (by kernel_rfl) (by kernel_rfl) (fun _ _ _ h => h) (Or.inl ⟨by rfl, fun w' hw' => by exact exec_loadN 25 (.tmp 1) rfl _ rfl _ _ (load_cells rowy_slot (HB0.out.below hw' (range_lt HB0.out.1 (Nat.succ_pos _))).1)⟩) hS ?_
      simp only [Act.put, List.setIfInBounds_toArray, List.set_cons_zero, List.set_cons_succ]
      refine wpAnyH_ready (rs := [8]) (by kernel_rfl) (by simp) ?_
      refine AllReadyH.cons rfl (fun K hK => ?_) AllReadyH.nil
      refine he.step_callW _ (by rfl) (some 46) rfl 10 #[.tmp 45] #[25] rfl (fun q w' => by rfl) #[.agg (sv u n e t (.slice eo xs.length ec)).toArray] (by simp only [List.map_toArray, List.map_cons, List.map_nil]; rfl) (fun z9 w' => z9 = .agg (sv u n e t (.slice eo xs.length ec)).toArray ∧ Below x4.heap.size x4 w') ?_ ?_
      · exact (SO.out x4 _ (HE.out.below hS)).mono fun e w' ⟨h1, h2⟩ => ⟨_, h1, rfl, h2⟩
      rintro _ x5 ⟨rfl, hb⟩
      have hS : Below wr.heap.size wr x5 := hS.trans (hb.mono hS.size)
      clear hb
      refine hK.out _ _ hS (fun _ => ?_)
      simp only [Act.put, List.setIfInBounds_toArray, List.set_cons_zero, List.set_cons_succ]
      clear hK K
      refine wpAnyH_ready (rs := [10]) (by kernel_rfl) (by simp) ?_
      refine AllReadyH.cons rfl (fun K hK => ?_) AllReadyH.nil
      refine he.step_callW _ (by rfl) (some 48) rfl 10 #[.tmp 47] #[25] rfl (fun q w' => by rfl) #[.agg (sv u n e t (.slice ao xs.length cap)).toArray] (by simp only [List.map_toArray, List.map_cons, List.map_nil]; rfl) (fun z9 w' => z9 = .agg (sv u n e t (.slice ao xs.length cap)).toArray ∧ Below x5.heap.size x5 w') ?_ ?_
      · exact (SO.out x5 _ (HV.out.below (BB.out.trans (hS.mono BB.out.size)))).mono fun e w' ⟨h1, h2⟩ => ⟨_, h1, rfl, h2⟩
      rintro _ x6 ⟨rfl, hb⟩
      have hS : Below wr.heap.size wr x6 := hS.trans (hb.mono hS.size)
      clear hb
      refine hK.out _ _ hS (fun _ => ?_)
      simp only [Act.put, List.setIfInBounds_toArray, List.set_cons_zero, List.set_cons_succ]
      clear hK K
      refine wpAnyH_ready (rs := [11]) (by kernel_rfl) (by simp) ?_
      refine AllReadyH.cons rfl (fun K hK => ?_) AllReadyH.nil
      refine he.step_callW _ (by rfl) (some 49) rfl 11 #[.tmp 46, .tmp 48] #[33, 33] rfl (fun q w' => by rfl) #[.agg (sv u n e t (.slice eo xs.length ec)).toArray, .agg (sv u n e t (.slice ao xs.length cap)).toArray] (by simp only [List.map_toArray, List.map_cons, List.map_nil]; rfl) (fun z9 w' => z9 = .bool true ∧ Below x6.heap.size x6 w') ?_ ?_
      · exact (rsame_yes u n e t _ _ xs x6 (HE.out.below hS) (HV.out.below (BB.out.trans (hS.mono BB.out.size)))).mono fun e w' ⟨h1, h2⟩ => ⟨_, h1, rfl, h2⟩
      rintro _ x7 ⟨rfl, hb⟩
      have hS : Below wr.heap.size wr x7 := hS.trans (hb.mono hS.size)
      clear hb
      refine hK.out _ _ hS (fun _ => ?_)
      simp only [Act.put, List.setIfInBounds_toArray, List.set_cons_zero, List.set_cons_succ]
      clear hK K
      refine take_lawH 12 (some 50) (.bool false) rfl rfl (by kernel_rfl) (by kernel_rfl) (by kernel_rfl) (fun _ _ _ h => h) (Or.inl ⟨by rfl, fun w' hw' => by rfl⟩) hS ?_
      simp only [Act.put, List.setIfInBounds_toArray, List.set_cons_zero, List.set_cons_succ]
      refine take_lawH 13 (some 51) (.bool false) rfl rfl (by kernel_rfl) (by kernel_rfl) (by kernel_rfl) (fun _ _ _ h => h) (Or.inl ⟨by rfl, fun w' hw' => by rfl⟩) hS ?_
      simp only [Act.put, List.setIfInBounds_toArray, List.set_cons_zero, List.set_cons_succ]
      refine wpAnyH_done (by kernel_rfl) ?_ _
      have HB0 : Hid (Vr x7 w.heap.size (sv u n e t (.slice ao xs.length cap))) := HB0.out.below hS (range_lt HB0.out.1 (Nat.succ_pos _))
      have HX : Hid (Byt x7 (.slice (some ⟨g9, 0, none⟩) 128 128) ZZ) := HX.out.below hS
      have BB : Hid (Below w.heap.size w x7) := BB.out.trans (hS.mono BB.out.size)
      clear hS
      have hb0_0 := HB0.out.cell 0 _ rfl
      have hb0_1 := HB0.out.cell 1 _ rfl
      have hb0_2 := HB0.out.cell 2 _ rfl
      have hb0_3 := HB0.out.cell 3 _ rfl
      have hb0_4 := HB0.out.cell 4 _ rfl
      have t50 : (1 : Nat) = 1 := rfl
      go_wp2_with (first
        | (have q54 := t54; (with_reducible refine at_store ?_); refine store_lawC _ (sv u n e t (.slice yo xs.length yc)) w93.heap.size 0 rfl rfl HQ.out.2 rowy_slot.2 (sv_one _ _ _ _ rfl) ?_; intro w95 E9 R9 T9 B9; have K9 : ∀ k, k ≠ w93.heap.size → w95.heap[k]? = w94.heap[k]? := (by rw [E9.out]; exact fun k hk => heap_cells _ _ _ _ k hk); have HB0 : Hid (Vr w95 w.heap.size (sv u n e t (.slice ao xs.length cap))) := HB0.out.heap (K9 _ (Nat.ne_of_lt LT_HB0_HQ.out)); have HX : Hid (Byt w95 (.slice (some ⟨g9, 0, none⟩) 128 128) ZZ) := byt_nob HX.out NB_HQ.out K9; have HY : Hid (Byt w95 (.slice yo xs.length yc) xs) := byt_nob HY.out NB_HQ.out K9; have NB_HQ : Hid (NoB w95 w93.heap.size) := (by rw [E9.out]; exact NB_HQ.out.set HQ.out rfl (sv_nob _ _ _ _ _ _ _)); have HQ : Hid (Vr w95 w93.heap.size (sv u n e t (.slice yo xs.length yc))) := ⟨R9, T9⟩; have BB : Hid (Below w.heap.size w w95) := BB.out.trans (B9.mono LE_HQ.out); clear hb0_0 hb0_1 hb0_2 hb0_3 hb0_4; have hb0_0 := HB0.out.cell 0 _ rfl; have hb0_1 := HB0.out.cell 1 _ rfl; have hb0_2 := HB0.out.cell 2 _ rfl; have hb0_3 := HB0.out.cell 3 _ rfl; have hb0_4 := HB0.out.cell 4 _ rfl; have hq_0 := HQ.out.cell 0 _ rfl; have hq_1 := HQ.out.cell 1 _ rfl; have hq_2 := HQ.out.cell 2 _ rfl; have hq_3 := HQ.out.cell 3 _ rfl; have hq_4 := HQ.out.cell 4 _ rfl; clear E9 R9 T9 B9 K9; clear t54; have t55 : (1 : Nat) = 1 := rfl)
        | (have q53 := t53; (with_reducible refine at_alloc ?_); refine new_lawN _ (sv false 0 0 0 (.slice none 0 0)) zero_slot (sv_nob _ _ _ _ _ _ _) ?_; intro w94 X9 N9 B9; have LT_HB0_HQ : Hid (w.heap.size < w93.heap.size) := range_lt HB0.out.1 (Nat.succ_pos _); have LE_HQ : Hid (w.heap.size ≤ w93.heap.size) := BB.out.size; have HB0 : Hid (Vr w94 w.heap.size (sv u n e t (.slice ao xs.length cap))) := HB0.out.below B9 (range_lt HB0.out.1 (Nat.succ_pos _)); have HX : Hid (Byt w94 (.slice (some ⟨g9, 0, none⟩) 128 128) ZZ) := HX.out.below B9; have HY : Hid (Byt w94 (.slice yo xs.length yc) xs) := HY.out.below B9; have HQ : Hid (Vr w94 w93.heap.size (sv false 0 0 0 (.slice none 0 0))) := X9; have NB_HQ : Hid (NoB w94 w93.heap.size) := N9; have BB : Hid (Below w.heap.size w w94) := BB.out.trans (B9.mono BB.out.size); clear hb0_0 hb0_1 hb0_2 hb0_3 hb0_4; have hb0_0 := HB0.out.cell 0 _ rfl; have hb0_1 := HB0.out.cell 1 _ rfl; have hb0_2 := HB0.out.cell 2 _ rfl; have hb0_3 := HB0.out.cell 3 _ rfl; have hb0_4 := HB0.out.cell 4 _ rfl; clear X9 N9 B9; clear t53; have t54 : (1 : Nat) = 1 := rfl)
        | (have q52 := t52; go_at_call 12; refine (SD.out w92 _ BB.out HX.out).mono ?_; rintro e9 w93 ⟨yo, yc, rfl, Y9, B9⟩; have HB0 : Hid (Vr w93 w.heap.size (sv u n e t (.slice ao xs.length cap))) := HB0.out.below B9 (range_lt HB0.out.1 (Nat.succ_pos _)); have HX : Hid (Byt w93 (.slice (some ⟨g9, 0, none⟩) 128 128) ZZ) := HX.out.below B9; have HY : Hid (Byt w93 (.slice yo xs.length yc) xs) := Y9; have BB : Hid (Below w.heap.size w w93) := BB.out.trans (B9.mono BB.out.size); clear hb0_0 hb0_1 hb0_2 hb0_3 hb0_4; have hb0_0 := HB0.out.cell 0 _ rfl; have hb0_1 := HB0.out.cell 1 _ rfl; have hb0_2 := HB0.out.cell 2 _ rfl; have hb0_3 := HB0.out.cell 3 _ rfl; have hb0_4 := HB0.out.cell 4 _ rfl; clear B9 Y9; clear t52; have t53 : (1 : Nat) = 1 := rfl)
        | (have q51 := t51; go_at_call 9; refine (SG.out w91 BB.out).mono ?_; rintro e9 w92 ⟨rfl, B9⟩; have HB0 : Hid (Vr w92 w.heap.size (sv u n e t (.slice ao xs.length cap))) := HB0.out.below B9 (range_lt HB0.out.1 (Nat.succ_pos _)); have HX : Hid (Byt w92 (.slice (some ⟨g9, 0, none⟩) 128 128) ZZ) := HX.out.below B9; have BB : Hid (Below w.heap.size w w92) := BB.out.trans (B9.mono BB.out.size); clear hb0_0 hb0_1 hb0_2 hb0_3 hb0_4; have hb0_0 := HB0.out.cell 0 _ rfl; have hb0_1 := HB0.out.cell 1 _ rfl; have hb0_2 := HB0.out.cell 2 _ rfl; have hb0_3 := HB0.out.cell 3 _ rfl; have hb0_4 := HB0.out.cell 4 _ rfl; clear B9; clear t51; have t52 : (1 : Nat) = 1 := rfl)
        | (have q50 := t50; go_at_call 10; refine (SO.out x7 _ (HV.out.below BB.out)).mono ?_; rintro e9 w91 ⟨rfl, B9⟩; have HB0 : Hid (Vr w91 w.heap.size (sv u n e t (.slice ao xs.length cap))) := HB0.out.below B9 (range_lt HB0.out.1 (Nat.succ_pos _)); have HX : Hid (Byt w91 (.slice (some ⟨g9, 0, none⟩) 128 128) ZZ) := HX.out.below B9; have BB : Hid (Below w.heap.size w w91) := BB.out.trans (B9.mono BB.out.size); clear hb0_0 hb0_1 hb0_2 hb0_3 hb0_4; have hb0_0 := HB0.out.cell 0 _ rfl; have hb0_1 := HB0.out.cell 1 _ rfl; have hb0_2 := HB0.out.cell 2 _ rfl; have hb0_3 := HB0.out.cell 3 _ rfl; have hb0_4 := HB0.out.cell 4 _ rfl; clear B9; clear t50; have t51 : (1 : Nat) = 1 := rfl))
      clear hb0_0 hb0_1 hb0_2 hb0_3 hb0_4 hq_0 hq_1 hq_2 hq_3 hq_4
      refine wp_region_held_drew (S := fun w' => Below w95.heap.size w95 w') (by kernel_rfl) (Below.refl _ _).drew (fun hS => ?_)
      obtain ⟨z1, hx0⟩ : ∃ x, x = w95.drew := ⟨_, rfl⟩
      rw [← hx0] at hS  ⊢
      clear hx0
      refine take_lawH 0 (some 71) (.int .i64 0) rfl rfl (by kernel_rfl) (by kernel_rfl) (by kernel_rfl) (fun _ _ _ h => h) (Or.inl ⟨by rfl, fun w' hw' => by rfl⟩) hS ?_
      simp only [Act.put, List.setIfInBounds_toArray, List.set_cons_zero, List.set_cons_succ]
      refine take_lawH 1 (some 72) (.bool true) rfl rfl (by kernel_rfl) (by kernel_rfl) (by kernel_rfl) (fun _ _ _ h => h) (Or.inl ⟨by rfl, fun w' hw' => by rfl⟩) hS ?_
      simp only [Act.put, List.setIfInBounds_toArray, List.set_cons_zero, List.set_cons_succ]
      refine take_lawH 2 (some 73) (.bool true) rfl rfl (by kernel_rfl) (by kernel_rfl) (by kernel_rfl) (fun _ _ _ h => h) (Or.inl ⟨by rfl, fun w' hw' => by rfl⟩) hS ?_
      simp only [Act.put, List.setIfInBounds_toArray, List.set_cons_zero, List.set_cons_succ]
      refine take_lawH 3 (some 74) (.slice (some ⟨g9, 0, none⟩) 128 128) rfl rfl (by kernel_rfl) (by kernel_rfl) (by kernel_rfl) (fun _ _ _ h => h) (Or.inl ⟨by rfl, fun w' hw' => by rfl⟩) hS ?_
      simp only [Act.put, List.setIfInBounds_toArray, List.set_cons_zero, List.set_cons_succ]
      refine take_lawH 4 (some 75) (.agg (sv u n e t (.slice ao xs.length cap)).toArray) rfl rfl (by kernel_rfl) (by kernel_rfl) (by kernel_rfl) (fun _ _ _ h => h) (Or.inl ⟨by rfl, fun w' hw' => by exact exec_loadN 25 (.tmp 1) rfl _ rfl _ _ (load_cells rowy_slot (HB0.out.below hw' (range_lt HB0.out.1 (Nat.succ_pos _))).1)⟩) hS ?_
      simp only [Act.put, List.setIfInBounds_toArray, List.set_cons_zero, List.set_cons_succ]
      refine wpAnyH_ready (rs := [5]) (by kernel_rfl) (by simp) ?_
      refine AllReadyH.cons rfl (fun K hK => ?_) AllReadyH.nil
      refine he.step_callW _ (by rfl) (some 76) rfl 10 #[.tmp 75] #[25] rfl (fun q w' => by rfl) #[.agg (sv u n e t (.slice ao xs.length cap)).toArray] (by simp only [List.map_toArray, List.map_cons, List.map_nil]; rfl) (fun z9 w' => z9 = .agg (sv u n e t (.slice ao xs.length cap)).toArray ∧ Below z1.heap.size z1 w') ?_ ?_
      · exact (SO.out z1 _ (HV.out.below (BB.out.trans (hS.mono BB.out.size)))).mono fun e w' ⟨h1, h2⟩ => ⟨_, h1, rfl, h2⟩
      rintro _ z2 ⟨rfl, hb⟩
      have hS : Below w95.heap.size w95 z2 := hS.trans (hb.mono hS.size)
      clear hb
      refine hK.out _ _ hS (fun _ => ?_)
      simp only [Act.put, List.setIfInBounds_toArray, List.set_cons_zero, List.set_cons_succ]
      clear hK K
      refine wpAnyH_ready (rs := [6]) (by kernel_rfl) (by simp) ?_
      refine AllReadyH.cons rfl (fun K hK => ?_) AllReadyH.nil
      refine he.step_callW _ (by rfl) (some 77) rfl 14 #[.tmp 76] #[33] rfl (fun q w' => by rfl) #[.agg (sv u n e t (.slice ao xs.length cap)).toArray] (by simp only [List.map_toArray, List.map_cons, List.map_nil]; rfl) (fun z9 w' => Byt w' z9 ZZ ∧ Below z2.heap.size z2 w') ?_ ?_
      · exact (SF.out z2 (BB.out.trans (hS.mono BB.out.size))).mono fun e w' ⟨r, h1, h2, h3⟩ => ⟨r, h1, h2, h3⟩
      rintro rb9 z3 ⟨y1, hb⟩
      have YR : Hid (Byt z3 rb9 ZZ) := y1
      clear y1
      have hS : Below w95.heap.size w95 z3 := hS.trans (hb.mono hS.size)
      clear hb
      refine hK.out _ _ hS (fun _ => ?_)
      simp only [Act.put, List.setIfInBounds_toArray, List.set_cons_zero, List.set_cons_succ]
      clear hK K
      refine wpAnyH_ready (rs := [7]) (by kernel_rfl) (by simp) ?_
      refine AllReadyH.cons rfl (fun K hK => ?_) AllReadyH.nil
      refine he.step_callW _ (by rfl) (some 78) rfl 13 #[.tmp 74, .tmp 77] #[23, 23] rfl (fun q w' => by rfl) #[.slice (some ⟨g9, 0, none⟩) 128 128, rb9] (by simp only [List.map_toArray, List.map_cons, List.map_nil]; rfl) (fun z9 w' => z9 = .bool true ∧ Below z3.heap.size z3 w') ?_ ?_
      · exact (so.same_yes z3 _ _ ZZ (HX.out.below hS) YR.out).mono fun e w' ⟨h1, h2⟩ => ⟨_, h1, rfl, h2⟩
      rintro _ z4 ⟨rfl, hb⟩
      have hS : Below w95.heap.size w95 z4 := hS.trans (hb.mono hS.size)
      clear hb
      refine hK.out _ _ hS (fun _ => ?_)
      simp only [Act.put, List.setIfInBounds_toArray, List.set_cons_zero, List.set_cons_succ]
      clear hK K
      refine take_lawH 8 (some 79) (.bool true) rfl rfl (by kernel_rfl) (by kernel_rfl) (by kernel_rfl) (fun _ _ _ h => h) (Or.inl ⟨by rfl, fun w' hw' => by rfl⟩) hS ?_
      simp only [Act.put, List.setIfInBounds_toArray, List.set_cons_zero, List.set_cons_succ]
      refine take_lawH 9 (some 80) (.bool true) rfl rfl (by kernel_rfl) (by kernel_rfl) (by kernel_rfl) (fun _ _ _ h => h) (Or.inl ⟨by rfl, fun w' hw' => by rfl⟩) hS ?_
      simp only [Act.put, List.setIfInBounds_toArray, List.set_cons_zero, List.set_cons_succ]
      refine take_lawH 10 (some 81) (.int .i64 0) rfl rfl (by kernel_rfl) (by kernel_rfl) (by kernel_rfl) (fun _ _ _ h => h) (Or.inl ⟨by rfl, fun w' hw' => by rfl⟩) hS ?_
      simp only [Act.put, List.setIfInBounds_toArray, List.set_cons_zero, List.set_cons_succ]
      refine take_lawH 11 (some 82) (.bool true) rfl rfl (by kernel_rfl) (by kernel_rfl) (by kernel_rfl) (fun _ _ _ h => h) (Or.inl ⟨by rfl, fun w' hw' => by rfl⟩) hS ?_
      simp only [Act.put, List.setIfInBounds_toArray, List.set_cons_zero, List.set_cons_succ]
      refine take_lawH 12 (some 83) (.bool true) rfl rfl (by kernel_rfl) (by kernel_rfl) (by kernel_rfl) (fun _ _ _ h => h) (Or.inl ⟨by rfl, fun w' hw' => by rfl⟩) hS ?_
      simp only [Act.put, List.setIfInBounds_toArray, List.set_cons_zero, List.set_cons_succ]
      refine take_lawH 13 (some 84) (.bool true) rfl rfl (by kernel_rfl) (by kernel_rfl) (by kernel_rfl) (fun _ _ _ h => h) (Or.inl ⟨by rfl, fun w' hw' => by rfl⟩) hS ?_
      simp only [Act.put, List.setIfInBounds_toArray, List.set_cons_zero, List.set_cons_succ]
      refine take_lawH 14 (some 85) (.agg (sv u n e t (.slice yo xs.length yc)).toArray) rfl rfl (by kernel_rfl) (by kernel_rfl) (by kernel_rfl) (fun _ _ _ h => h) (Or.inl ⟨by rfl, fun w' hw' => by exact exec_loadN 25 (.tmp 8) rfl _ rfl _ _ (load_cells rowy_slot (HQ.out.below hw' (range_lt HQ.out.1 (Nat.succ_pos _))).1)⟩) hS ?_
      simp only [Act.put, List.setIfInBounds_toArray, List.set_cons_zero, List.set_cons_succ]
      refine take_lawH 16 (some 87) (.agg (sv u n e t (.slice ao xs.length cap)).toArray) rfl rfl (by kernel_rfl) (by kernel_rfl) (by kernel_rfl) (fun _ _ _ h => h) (Or.inl ⟨by rfl, fun w' hw' => by exact exec_loadN 25 (.tmp 1) rfl _ rfl _ _ (load_cells rowy_slot (HB0.out.below hw' (range_lt HB0.out.1 (Nat.succ_pos _))).1)⟩) hS ?_
      simp only [Act.put, List.setIfInBounds_toArray, List.set_cons_zero, List.set_cons_succ]
      refine wpAnyH_ready (rs := [15]) (by kernel_rfl) (by simp) ?_
      refine AllReadyH.cons rfl (fun K hK => ?_) AllReadyH.nil
      refine he.step_callW _ (by rfl) (some 86) rfl 10 #[.tmp 85] #[25] rfl (fun q w' => by rfl) #[.agg (sv u n e t (.slice yo xs.length yc)).toArray] (by simp only [List.map_toArray, List.map_cons, List.map_nil]; rfl) (fun z9 w' => z9 = .agg (sv u n e t (.slice yo xs.length yc)).toArray ∧ Below z4.heap.size z4 w') ?_ ?_
      · exact (SO.out z4 _ (HY.out.below hS)).mono fun e w' ⟨h1, h2⟩ => ⟨_, h1, rfl, h2⟩
      rintro _ z5 ⟨rfl, hb⟩
      have hS : Below w95.heap.size w95 z5 := hS.trans (hb.mono hS.size)
      clear hb
      refine hK.out _ _ hS (fun _ => ?_)
      simp only [Act.put, List.setIfInBounds_toArray, List.set_cons_zero, List.set_cons_succ]
      clear hK K
      refine wpAnyH_ready (rs := [17]) (by kernel_rfl) (by simp) ?_
      refine AllReadyH.cons rfl (fun K hK => ?_) AllReadyH.nil
      refine he.step_callW _ (by rfl) (some 88) rfl 10 #[.tmp 87] #[25] rfl (fun q w' => by rfl) #[.agg (sv u n e t (.slice ao xs.length cap)).toArray] (by simp only [List.map_toArray, List.map_cons, List.map_nil]; rfl) (fun z9 w' => z9 = .agg (sv u n e t (.slice ao xs.length cap)).toArray ∧ Below z5.heap.size z5 w') ?_ ?_
      · exact (SO.out z5 _ (HV.out.below (BB.out.trans (hS.mono BB.out.size)))).mono fun e w' ⟨h1, h2⟩ => ⟨_, h1, rfl, h2⟩
      rintro _ z6 ⟨rfl, hb⟩
      have hS : Below w95.heap.size w95 z6 := hS.trans (hb.mono hS.size)
      clear hb
      refine hK.out _ _ hS (fun _ => ?_)
      simp only [Act.put, List.setIfInBounds_toArray, List.set_cons_zero, List.set_cons_succ]
      clear hK K
      refine wpAnyH_ready (rs := [18]) (by kernel_rfl) (by simp) ?_
      refine AllReadyH.cons rfl (fun K hK => ?_) AllReadyH.nil
      refine he.step_callW _ (by rfl) (some 89) rfl 11 #[.tmp 86, .tmp 88] #[33, 33] rfl (fun q w' => by rfl) #[.agg (sv u n e t (.slice yo xs.length yc)).toArray, .agg (sv u n e t (.slice ao xs.length cap)).toArray] (by simp only [List.map_toArray, List.map_cons, List.map_nil]; rfl) (fun z9 w' => z9 = .bool true ∧ Below z6.heap.size z6 w') ?_ ?_
      · exact (rsame_yes u n e t _ _ xs z6 (HY.out.below hS) (HV.out.below (BB.out.trans (hS.mono BB.out.size)))).mono fun e w' ⟨h1, h2⟩ => ⟨_, h1, rfl, h2⟩
      rintro _ z7 ⟨rfl, hb⟩
      have hS : Below w95.heap.size w95 z7 := hS.trans (hb.mono hS.size)
      clear hb
      refine hK.out _ _ hS (fun _ => ?_)
      simp only [Act.put, List.setIfInBounds_toArray, List.set_cons_zero, List.set_cons_succ]
      clear hK K
      refine take_lawH 19 (some 90) (.bool true) rfl rfl (by kernel_rfl) (by kernel_rfl) (by kernel_rfl) (fun _ _ _ h => h) (Or.inl ⟨by rfl, fun w' hw' => by rfl⟩) hS ?_
      simp only [Act.put, List.setIfInBounds_toArray, List.set_cons_zero, List.set_cons_succ]
      refine take_lawH 20 (some 91) (.bool true) rfl rfl (by kernel_rfl) (by kernel_rfl) (by kernel_rfl) (fun _ _ _ h => h) (Or.inl ⟨by rfl, fun w' hw' => by rfl⟩) hS ?_
      simp only [Act.put, List.setIfInBounds_toArray, List.set_cons_zero, List.set_cons_succ]
      refine wpAnyH_ready (rs := [21]) (by kernel_rfl) (by simp) ?_
      refine AllReadyH.cons rfl (fun K hK => ?_) AllReadyH.nil
      refine he.step_callW _ (by rfl) (some 92) rfl 5 #[] #[] rfl (fun q w' => by rfl) #[] (by simp only [List.map_toArray, List.map_nil]) (fun z9 w' => z9 = .bool true ∧ Below z7.heap.size z7 w') ?_ ?_
      · exact (awake_any z7).mono fun e w' ⟨h1, h2⟩ => ⟨_, h1, rfl, h2⟩
      rintro _ z8 ⟨rfl, hb⟩
      have hS : Below w95.heap.size w95 z8 := hS.trans (hb.mono hS.size)
      clear hb
      refine hK.out _ _ hS (fun _ => ?_)
      simp only [Act.put, List.setIfInBounds_toArray, List.set_cons_zero, List.set_cons_succ]
      clear hK K
      refine take_lawH 22 (some 93) (.bool true) rfl rfl (by kernel_rfl) (by kernel_rfl) (by kernel_rfl) (fun _ _ _ h => h) (Or.inl ⟨by rfl, fun w' hw' => by rfl⟩) hS ?_
      simp only [Act.put, List.setIfInBounds_toArray, List.set_cons_zero, List.set_cons_succ]
      refine take_lawH 23 (some 2) (.bool true) rfl rfl (by kernel_rfl) (by kernel_rfl) (by kernel_rfl) (fun _ _ _ h => h) (Or.inl ⟨by rfl, fun w' hw' => by rfl⟩) hS ?_
      simp only [Act.put, List.setIfInBounds_toArray, List.set_cons_zero, List.set_cons_succ]
      refine wpAnyH_done (by kernel_rfl) ?_ _
      have BZ : Hid (Below w.heap.size w _) := BB.out.trans (hS.mono BB.out.size)
      clear hS
      go_wp2
      go_ret
      exact ⟨rfl, BZ.out⟩

set_option maxHeartbeats 8000000 in
theorem walk_no (u : Bool) (n e t : Int) (v : Value) (xs : List Int) (w : World) (hS : Sb n e t) (hv : Byt w v xs) (h1 : ¬ ((1000 : Int) < (xs.length : Int))) (hr : ¬ Rs u n e t xs) :
    Calls Tryd.prog 3 #[.agg (sv u n e t v).toArray] w fun x w' => x = .returned (.bool true) ∧ Below w.heap.size w w' := by
  have HV : Hid (Byt w v xs) := hv
  have HLN : Hid (xs.length ≤ 1000) := (by show _ ≤ _; omega)
  have SR : Hid (∀ w0, Below w.heap.size w w0 → Calls Tryd.prog 8 #[.agg (sv u n e t v).toArray] w0 fun x w' => x = .returned (.bool false) ∧ Below w0.heap.size w0 w') := fun w0 q => so.right_no u n e t v xs w0 (hv.below q) hS hr
  have SG : Hid (∀ w0, Below w.heap.size w w0 → Calls Tryd.prog 9 #[.agg (sv u n e t v).toArray] w0 fun x w' => x = .returned (.bool false) ∧ Below w0.heap.size w0 w') := fun w0 q => rright_no u n e t v xs w0 (hv.below q) hr
  have SO : Hid (∀ w0 z, Byt w0 z xs → Calls Tryd.prog 10 #[.agg (sv u n e t z).toArray] w0 fun x w' => x = .returned (.agg (sv u n e t z).toArray) ∧ Below w0.heap.size w0 w') := fun w0 z hz => so.of_any u n e t z xs w0 hz
  have SC : Hid (∀ w0 z, Byt w0 z xs → Calls Tryd.prog 7 #[.agg (sv u n e t z).toArray] w0 fun x w' => ∃ co cc, x = .returned (.agg (sv u n e t (.slice co xs.length cc)).toArray) ∧ Bow w0.heap.size w' (.slice co xs.length cc) xs ∧ Below w0.heap.size w0 w') := fun w0 z hz => so.copy_any u n e t z xs w0 hz (by omega)
  have SB : Hid (∀ w0, Below w.heap.size w w0 → Calls Tryd.prog 6 #[.agg (sv u n e t v).toArray] w0 fun x w' => x = .returned (.tuple #[.slice none 0 0, .int .i64 2]) ∧ Below w0.heap.size w0 w') := fun w0 q => bytes_no u n e t v xs w0 (hv.below q) hS hr
  obtain ⟨ao, cap, rfl⟩ := form hv
  clear hv hS hr
  have t0 : (0 : Nat) = 0 := rfl
  go_enter Tryd.func3, Tryd.ntmps3
  go_wp2_with (first
    | (have q7 := t7; (with_reducible refine at_store ?_); refine store_lawC _ (sv u n e t (.slice eo xs.length ec)) w6.heap.size 0 rfl rfl HD.out.2 rowy_slot.2 (sv_one _ _ _ _ rfl) ?_; intro w8 E9 R9 T9 B9; have K9 : ∀ k, k ≠ w6.heap.size → w8.heap[k]? = w7.heap[k]? := (by rw [E9.out]; exact fun k hk => heap_cells _ _ _ _ k hk); have HB0 : Hid (Vr w8 w.heap.size (sv u n e t (.slice ao xs.length cap))) := HB0.out.heap (K9 _ (Nat.ne_of_lt LT_HB0_HD.out)); have HC1 : Hid (Bow w2.heap.size w8 (.slice co xs.length cc) xs) := bow_nob HC1.out NB_HD.out K9; have NB_HC : Hid (NoB w8 w3.heap.size) := NB_HC.out.heap (K9 _ (Nat.ne_of_lt LT_HC_HD.out)); have HC : Hid (Vr w8 w3.heap.size (sv u n e t (.slice co xs.length cc))) := HC.out.heap (K9 _ (Nat.ne_of_lt LT_HC_HD.out)); have HD1 : Hid (Bow w3.heap.size w8 (.slice eo xs.length ec) xs) := bow_nob HD1.out NB_HD.out K9; have NB_HD : Hid (NoB w8 w6.heap.size) := (by rw [E9.out]; exact NB_HD.out.set HD.out rfl (sv_nob _ _ _ _ _ _ _)); have HD : Hid (Vr w8 w6.heap.size (sv u n e t (.slice eo xs.length ec))) := ⟨R9, T9⟩; have BB : Hid (Below w.heap.size w w8) := BB.out.trans (B9.mono LE_HD.out); clear hb0_0 hb0_1 hb0_2 hb0_3 hb0_4 hc_0 hc_1 hc_2 hc_3 hc_4; have hb0_0 := HB0.out.cell 0 _ rfl; have hb0_1 := HB0.out.cell 1 _ rfl; have hb0_2 := HB0.out.cell 2 _ rfl; have hb0_3 := HB0.out.cell 3 _ rfl; have hb0_4 := HB0.out.cell 4 _ rfl; have hc_0 := HC.out.cell 0 _ rfl; have hc_1 := HC.out.cell 1 _ rfl; have hc_2 := HC.out.cell 2 _ rfl; have hc_3 := HC.out.cell 3 _ rfl; have hc_4 := HC.out.cell 4 _ rfl; have hd_0 := HD.out.cell 0 _ rfl; have hd_1 := HD.out.cell 1 _ rfl; have hd_2 := HD.out.cell 2 _ rfl; have hd_3 := HD.out.cell 3 _ rfl; have hd_4 := HD.out.cell 4 _ rfl; clear E9 R9 T9 B9 K9; clear t7; have t8 : (1 : Nat) = 1 := rfl)
    | (have q6 := t6; (with_reducible refine at_alloc ?_); refine new_lawN _ (sv false 0 0 0 (.slice none 0 0)) zero_slot (sv_nob _ _ _ _ _ _ _) ?_; intro w7 X9 N9 B9; have LT_HB0_HD : Hid (w.heap.size < w6.heap.size) := range_lt HB0.out.1 (Nat.succ_pos _); have LT_HC_HD : Hid (w3.heap.size < w6.heap.size) := range_lt HC.out.1 (Nat.succ_pos _); have LE_HD : Hid (w.heap.size ≤ w6.heap.size) := BB.out.size; have HB0 : Hid (Vr w7 w.heap.size (sv u n e t (.slice ao xs.length cap))) := HB0.out.below B9 (range_lt HB0.out.1 (Nat.succ_pos _)); have HC1 : Hid (Bow w2.heap.size w7 (.slice co xs.length cc) xs) := HC1.out.below B9; have NB_HC : Hid (NoB w7 w3.heap.size) := NB_HC.out.heap (B9.block _ (range_lt HC.out.1 (Nat.succ_pos _))); have HC : Hid (Vr w7 w3.heap.size (sv u n e t (.slice co xs.length cc))) := HC.out.below B9 (range_lt HC.out.1 (Nat.succ_pos _)); have HD1 : Hid (Bow w3.heap.size w7 (.slice eo xs.length ec) xs) := HD1.out.below B9; have HD : Hid (Vr w7 w6.heap.size (sv false 0 0 0 (.slice none 0 0))) := X9; have NB_HD : Hid (NoB w7 w6.heap.size) := N9; have BB : Hid (Below w.heap.size w w7) := BB.out.trans (B9.mono BB.out.size); clear hb0_0 hb0_1 hb0_2 hb0_3 hb0_4 hc_0 hc_1 hc_2 hc_3 hc_4; have hb0_0 := HB0.out.cell 0 _ rfl; have hb0_1 := HB0.out.cell 1 _ rfl; have hb0_2 := HB0.out.cell 2 _ rfl; have hb0_3 := HB0.out.cell 3 _ rfl; have hb0_4 := HB0.out.cell 4 _ rfl; have hc_0 := HC.out.cell 0 _ rfl; have hc_1 := HC.out.cell 1 _ rfl; have hc_2 := HC.out.cell 2 _ rfl; have hc_3 := HC.out.cell 3 _ rfl; have hc_4 := HC.out.cell 4 _ rfl; clear X9 N9 B9; clear t6; have t7 : (1 : Nat) = 1 := rfl)
    | (have q5 := t5; go_at_call 7; refine (SC.out w5 _ HC1.out.1).mono ?_; rintro e9 w6 ⟨eo, ec, rfl, Y9, B9⟩; have HB0 : Hid (Vr w6 w.heap.size (sv u n e t (.slice ao xs.length cap))) := HB0.out.below B9 (range_lt HB0.out.1 (Nat.succ_pos _)); have HC1 : Hid (Bow w2.heap.size w6 (.slice co xs.length cc) xs) := HC1.out.below B9; have NB_HC : Hid (NoB w6 w3.heap.size) := NB_HC.out.heap (B9.block _ (range_lt HC.out.1 (Nat.succ_pos _))); have HC : Hid (Vr w6 w3.heap.size (sv u n e t (.slice co xs.length cc))) := HC.out.below B9 (range_lt HC.out.1 (Nat.succ_pos _)); have HD1 : Hid (Bow w3.heap.size w6 (.slice eo xs.length ec) xs) := Y9.mono (Nat.le_of_lt L5.out); have BB : Hid (Below w.heap.size w w6) := BB.out.trans (B9.mono BB.out.size); clear hb0_0 hb0_1 hb0_2 hb0_3 hb0_4 hc_0 hc_1 hc_2 hc_3 hc_4; have hb0_0 := HB0.out.cell 0 _ rfl; have hb0_1 := HB0.out.cell 1 _ rfl; have hb0_2 := HB0.out.cell 2 _ rfl; have hb0_3 := HB0.out.cell 3 _ rfl; have hb0_4 := HB0.out.cell 4 _ rfl; have hc_0 := HC.out.cell 0 _ rfl; have hc_1 := HC.out.cell 1 _ rfl; have hc_2 := HC.out.cell 2 _ rfl; have hc_3 := HC.out.cell 3 _ rfl; have hc_4 := HC.out.cell 4 _ rfl; clear B9 Y9; clear t5; have t6 : (1 : Nat) = 1 := rfl)
    | (have q4 := t4; (with_reducible refine at_store ?_); refine store_lawC _ (sv u n e t (.slice co xs.length cc)) w3.heap.size 0 rfl rfl HC.out.2 rowy_slot.2 (sv_one _ _ _ _ rfl) ?_; intro w5 E9 R9 T9 B9; have K9 : ∀ k, k ≠ w3.heap.size → w5.heap[k]? = w4.heap[k]? := (by rw [E9.out]; exact fun k hk => heap_cells _ _ _ _ k hk); have HB0 : Hid (Vr w5 w.heap.size (sv u n e t (.slice ao xs.length cap))) := HB0.out.heap (K9 _ (Nat.ne_of_lt LT_HB0_HC.out)); have HC1 : Hid (Bow w2.heap.size w5 (.slice co xs.length cc) xs) := bow_nob HC1.out NB_HC.out K9; have NB_HC : Hid (NoB w5 w3.heap.size) := (by rw [E9.out]; exact NB_HC.out.set HC.out rfl (sv_nob _ _ _ _ _ _ _)); have HC : Hid (Vr w5 w3.heap.size (sv u n e t (.slice co xs.length cc))) := ⟨R9, T9⟩; have BB : Hid (Below w.heap.size w w5) := BB.out.trans (B9.mono LE_HC.out); clear hb0_0 hb0_1 hb0_2 hb0_3 hb0_4; have hb0_0 := HB0.out.cell 0 _ rfl; have hb0_1 := HB0.out.cell 1 _ rfl; have hb0_2 := HB0.out.cell 2 _ rfl; have hb0_3 := HB0.out.cell 3 _ rfl; have hb0_4 := HB0.out.cell 4 _ rfl; have hc_0 := HC.out.cell 0 _ rfl; have hc_1 := HC.out.cell 1 _ rfl; have hc_2 := HC.out.cell 2 _ rfl; have hc_3 := HC.out.cell 3 _ rfl; have hc_4 := HC.out.cell 4 _ rfl; have L5 : Hid (w3.heap.size < w5.heap.size) := range_lt HC.out.1 (Nat.succ_pos _); clear E9 R9 T9 B9 K9; clear t4; have t5 : (1 : Nat) = 1 := rfl)
    | (have q3 := t3; (with_reducible refine at_alloc ?_); refine new_lawN _ (sv false 0 0 0 (.slice none 0 0)) zero_slot (sv_nob _ _ _ _ _ _ _) ?_; intro w4 X9 N9 B9; have LT_HB0_HC : Hid (w.heap.size < w3.heap.size) := range_lt HB0.out.1 (Nat.succ_pos _); have LE_HC : Hid (w.heap.size ≤ w3.heap.size) := BB.out.size; have HB0 : Hid (Vr w4 w.heap.size (sv u n e t (.slice ao xs.length cap))) := HB0.out.below B9 (range_lt HB0.out.1 (Nat.succ_pos _)); have HC1 : Hid (Bow w2.heap.size w4 (.slice co xs.length cc) xs) := HC1.out.below B9; have HC : Hid (Vr w4 w3.heap.size (sv false 0 0 0 (.slice none 0 0))) := X9; have NB_HC : Hid (NoB w4 w3.heap.size) := N9; have BB : Hid (Below w.heap.size w w4) := BB.out.trans (B9.mono BB.out.size); clear hb0_0 hb0_1 hb0_2 hb0_3 hb0_4; have hb0_0 := HB0.out.cell 0 _ rfl; have hb0_1 := HB0.out.cell 1 _ rfl; have hb0_2 := HB0.out.cell 2 _ rfl; have hb0_3 := HB0.out.cell 3 _ rfl; have hb0_4 := HB0.out.cell 4 _ rfl; clear X9 N9 B9; clear t3; have t4 : (1 : Nat) = 1 := rfl)
    | (have q2 := t2; go_at_call 7; refine (SC.out w2 _ (HV.out.below BB.out)).mono ?_; rintro e9 w3 ⟨co, cc, rfl, Y9, B9⟩; have HB0 : Hid (Vr w3 w.heap.size (sv u n e t (.slice ao xs.length cap))) := HB0.out.below B9 (range_lt HB0.out.1 (Nat.succ_pos _)); have HC1 : Hid (Bow w2.heap.size w3 (.slice co xs.length cc) xs) := Y9; have HCl : Hid (0 < xs.length → ∃ b off, co = some ⟨b, off, none⟩ ∧ w2.heap.size ≤ b ∧ b < w3.heap.size) := bow_at Y9; have BB : Hid (Below w.heap.size w w3) := BB.out.trans (B9.mono BB.out.size); clear hb0_0 hb0_1 hb0_2 hb0_3 hb0_4; have hb0_0 := HB0.out.cell 0 _ rfl; have hb0_1 := HB0.out.cell 1 _ rfl; have hb0_2 := HB0.out.cell 2 _ rfl; have hb0_3 := HB0.out.cell 3 _ rfl; have hb0_4 := HB0.out.cell 4 _ rfl; clear B9 Y9; clear t2; have t3 : (1 : Nat) = 1 := rfl)
    | (have q1 := t1; go_at_call 6; refine (SB.out w1 BB.out).mono ?_; rintro e9 w2 ⟨rfl, B9⟩; have HB0 : Hid (Vr w2 w.heap.size (sv u n e t (.slice ao xs.length cap))) := HB0.out.below B9 (range_lt HB0.out.1 (Nat.succ_pos _)); have L2 : Hid (w.heap.size < w2.heap.size) := range_lt HB0.out.1 (Nat.succ_pos _); have BB : Hid (Below w.heap.size w w2) := BB.out.trans (B9.mono BB.out.size); clear hb0_0 hb0_1 hb0_2 hb0_3 hb0_4; have hb0_0 := HB0.out.cell 0 _ rfl; have hb0_1 := HB0.out.cell 1 _ rfl; have hb0_2 := HB0.out.cell 2 _ rfl; have hb0_3 := HB0.out.cell 3 _ rfl; have hb0_4 := HB0.out.cell 4 _ rfl; clear B9; clear t1; have t2 : (1 : Nat) = 1 := rfl)
    | (have q0 := t0; refine box_lawC _ (sv u n e t (.slice ao xs.length cap)) rfl ?_; intro w1 X9 B9 l9; have HB0 : Hid (Vr w1 w.heap.size (sv u n e t (.slice ao xs.length cap))) := X9; have BB : Hid (Below w.heap.size w w1) := B9; have hb0_0 := HB0.out.cell 0 _ rfl; have hb0_1 := HB0.out.cell 1 _ rfl; have hb0_2 := HB0.out.cell 2 _ rfl; have hb0_3 := HB0.out.cell 3 _ rfl; have hb0_4 := HB0.out.cell 4 _ rfl; clear X9 B9 l9; clear t0; have t1 : (1 : Nat) = 1 := rfl))
  clear hb0_0 hb0_1 hb0_2 hb0_3 hb0_4 hc_0 hc_1 hc_2 hc_3 hc_4 hd_0 hd_1 hd_2 hd_3 hd_4
  go_loopw [7] (fun i wr => ∃ k : Nat, k ≤ xs.length ∧ i = .int .i64 k ∧ Wr w2.heap.size w3.heap.size w8 wr) (fun i _ => xs.length - (intOf i).toNat)
  case atStart => exact ⟨0, Nat.zero_le _, rfl, Wr.refl _ _ _⟩
  case round =>
    obtain ⟨k, hk, rfl, hW⟩ := hrel
    have HW : Hid (Wr w2.heap.size w3.heap.size w8 wr) := hW
    have HC : Hid (Vr wr w3.heap.size (sv u n e t (.slice co xs.length cc))) := HC.out.heap (hW.2.1 _ (Nat.le_refl _))
    have hc4 := HC.out.cell 4 _ rfl
    clear hW
    by_cases hlt : k < xs.length
    · obtain ⟨b, off, y, hco, hcell, hfr⟩ := HW.out.byte HC1.out k hlt
      obtain ⟨b', off', hco', hB, hH⟩ := HCl.out (by omega)
      subst hco
      obtain ⟨rfl, rfl⟩ : b = b' ∧ off = off' := by injection hco' with q; injection q with q1 q2; exact ⟨q1, q2⟩
      clear hco'
      have lk : (k : Int) < (xs.length : Int) := by omega
      have HB : Hid (w2.heap.size ≤ b) := hB
      have HH : Hid (b < w3.heap.size) := hH
      have HE : Hid (wr.cell? ⟨b, off + k, none⟩ = some (.int .u8 y)) := hcell
      have XL : Hid (xs.length ≤ 1000) := HLN.out
      clear hB hH
      go_wp2
      go_roundw
      case rel => exact ⟨k + 1, by omega, by have := XL.out; go_num, HW.out.set HE.out HB.out HH.out _⟩
      case measure => simp [intOf]; omega
    · have hk' : k = xs.length := by omega
      subst hk'
      have BR : Hid (Below w.heap.size w wr) := BB.out.trans (HW.out.1.mono (Nat.le_of_lt L2.out))
      have HB0 : Hid (Vr wr w.heap.size (sv u n e t (.slice ao xs.length cap))) := HB0.out.below HW.out.1 L2.out
      have HD : Hid (Vr wr w6.heap.size (sv u n e t (.slice eo xs.length ec))) := HD.out.heap (HW.out.2.1 _ (Nat.le_of_lt LT_HC_HD.out))
      have HE : Hid (Byt wr (.slice eo xs.length ec) xs) := HW.out.bow HD1.out
      have BB := BR
      clear HC1 HD1 HC HW
      go_wp2
      clear hc4
      refine wp_region_held_drew (S := fun w' => Below wr.heap.size wr w') (by kernel_rfl) (Below.refl _ _).drew (fun hS => ?_)
      obtain ⟨x1, hx0⟩ : ∃ x, x = wr.drew := ⟨_, rfl⟩
      rw [← hx0] at hS  ⊢
      clear hx0
      refine take_lawH 0 (some 38) (.agg (sv u n e t (.slice ao xs.length cap)).toArray) rfl rfl (by kernel_rfl) (by kernel_rfl) (by kernel_rfl) (fun _ _ _ h => h) (Or.inl ⟨by rfl, fun w' hw' => by exact exec_loadN 25 (.tmp 1) rfl _ rfl _ _ (load_cells rowy_slot (HB0.out.below hw' (range_lt HB0.out.1 (Nat.succ_pos _))).1)⟩) hS ?_
      simp only [Act.put, List.setIfInBounds_toArray, List.set_cons_zero, List.set_cons_succ]
      refine take_lawH 2 (some 40) (.agg (sv u n e t (.slice ao xs.length cap)).toArray) rfl rfl (by kernel_rfl) (by kernel_rfl) (by kernel_rfl) (fun _ _ _ h => h) (Or.inl ⟨by rfl, fun w' hw' => by exact exec_loadN 25 (.tmp 1) rfl _ rfl _ _ (load_cells rowy_slot (HB0.out.below hw' (range_lt HB0.out.1 (Nat.succ_pos _))).1)⟩) hS ?_
      simp only [Act.put, List.setIfInBounds_toArray, List.set_cons_zero, List.set_cons_succ]
      refine wpAnyH_ready (rs := [1]) (by kernel_rfl) (by simp) ?_
      refine AllReadyH.cons rfl (fun K hK => ?_) AllReadyH.nil
      refine he.step_callW _ (by rfl) (some 39) rfl 8 #[.tmp 38] #[25] rfl (fun q w' => by rfl) #[.agg (sv u n e t (.slice ao xs.length cap)).toArray] (by simp only [List.map_toArray, List.map_cons, List.map_nil]; rfl) (fun z9 w' => z9 = .bool false ∧ Below x1.heap.size x1 w') ?_ ?_
      · exact (SR.out x1 (BB.out.trans (hS.mono BB.out.size))).mono fun e w' ⟨h1, h2⟩ => ⟨_, h1, rfl, h2⟩
      rintro _ x2 ⟨rfl, hb⟩
      have hS : Below wr.heap.size wr x2 := hS.trans (hb.mono hS.size)
      clear hb
      refine hK.out _ _ hS (fun _ => ?_)
      simp only [Act.put, List.setIfInBounds_toArray, List.set_cons_zero, List.set_cons_succ]
      clear hK K
      refine wpAnyH_ready (rs := [3]) (by kernel_rfl) (by simp) ?_
      refine AllReadyH.cons rfl (fun K hK => ?_) AllReadyH.nil
      refine he.step_callW _ (by rfl) (some 41) rfl 10 #[.tmp 40] #[25] rfl (fun q w' => by rfl) #[.agg (sv u n e t (.slice ao xs.length cap)).toArray] (by simp only [List.map_toArray, List.map_cons, List.map_nil]; rfl) (fun z9 w' => z9 = .agg (sv u n e t (.slice ao xs.length cap)).toArray ∧ Below x2.heap.size x2 w') ?_ ?_
      · exact (SO.out x2 _ (HV.out.below (BB.out.trans (hS.mono BB.out.size)))).mono fun e w' ⟨h1, h2⟩ => ⟨_, h1, rfl, h2⟩
      rintro _ x3 ⟨rfl, hb⟩
      have hS : Below wr.heap.size wr x3 := hS.trans (hb.mono hS.size)
      clear hb
      refine hK.out _ _ hS (fun _ => ?_)
      simp only [Act.put, List.setIfInBounds_toArray, List.set_cons_zero, List.set_cons_succ]
      clear hK K
      refine wpAnyH_ready (rs := [4]) (by kernel_rfl) (by simp) ?_
      refine AllReadyH.cons rfl (fun K hK => ?_) AllReadyH.nil
      refine he.step_callW _ (by rfl) (some 42) rfl 9 #[.tmp 41] #[33] rfl (fun q w' => by rfl) #[.agg (sv u n e t (.slice ao xs.length cap)).toArray] (by simp only [List.map_toArray, List.map_cons, List.map_nil]; rfl) (fun z9 w' => z9 = .bool false ∧ Below x3.heap.size x3 w') ?_ ?_
      · exact (SG.out x3 (BB.out.trans (hS.mono BB.out.size))).mono fun e w' ⟨h1, h2⟩ => ⟨_, h1, rfl, h2⟩
      rintro _ x4 ⟨rfl, hb⟩
      have hS : Below wr.heap.size wr x4 := hS.trans (hb.mono hS.size)
      clear hb
      refine hK.out _ _ hS (fun _ => ?_)
      simp only [Act.put, List.setIfInBounds_toArray, List.set_cons_zero, List.set_cons_succ]
      clear hK K
      refine take_lawH 5 (some 43) (.bool false) rfl rfl (by kernel_rfl) (by kernel_rfl) (by kernel_rfl) (fun _ _ _ h => h) (Or.inl ⟨by rfl, fun w' hw' => by rfl⟩) hS ?_
      simp only [Act.put, List.setIfInBounds_toArray, List.set_cons_zero, List.set_cons_succ]
      refine take_lawH 6 (some 44) (.bool false) rfl rfl (by kernel_rfl) (by kernel_rfl) (by kernel_rfl) (fun _ _ _ h => h) (Or.inl ⟨by rfl, fun w' hw' => by rfl⟩) hS ?_
      simp only [Act.put, List.setIfInBounds_toArray, List.set_cons_zero, List.set_cons_succ]
      refine take_lawH 7 (some 45) (.agg (sv u n e t (.slice eo xs.length ec)).toArray) rfl rfl (by kernel_rfl) (by kernel_rfl) (by kernel_rfl) (fun _ _ _ h => h) (Or.inl ⟨by rfl, fun w' hw' => by exact exec_loadN 25 (.tmp 6) rfl _ rfl _ _ (load_cells rowy_slot (HD.out.below hw' (range_lt HD.out.1 (Nat.succ_pos _))).1)⟩) hS ?_
      simp only [Act.put, List.setIfInBounds_toArray, List.set_cons_zero, List.set_cons_succ]
      refine take_lawH 9 (some 47) (.agg (sv u n e t (.slice ao xs.length cap)).toArray) rfl rfl (by kernel_rfl) (by kernel_rfl) (by kernel_rfl) (fun _ _ _ h => h) (Or.inl ⟨by rfl, fun w' hw' => by exact exec_loadN 25 (.tmp 1) rfl _ rfl _ _ (load_cells rowy_slot (HB0.out.below hw' (range_lt HB0.out.1 (Nat.succ_pos _))).1)⟩) hS ?_
      simp only [Act.put, List.setIfInBounds_toArray, List.set_cons_zero, List.set_cons_succ]
      refine wpAnyH_ready (rs := [8]) (by kernel_rfl) (by simp) ?_
      refine AllReadyH.cons rfl (fun K hK => ?_) AllReadyH.nil
      refine he.step_callW _ (by rfl) (some 46) rfl 10 #[.tmp 45] #[25] rfl (fun q w' => by rfl) #[.agg (sv u n e t (.slice eo xs.length ec)).toArray] (by simp only [List.map_toArray, List.map_cons, List.map_nil]; rfl) (fun z9 w' => z9 = .agg (sv u n e t (.slice eo xs.length ec)).toArray ∧ Below x4.heap.size x4 w') ?_ ?_
      · exact (SO.out x4 _ (HE.out.below hS)).mono fun e w' ⟨h1, h2⟩ => ⟨_, h1, rfl, h2⟩
      rintro _ x5 ⟨rfl, hb⟩
      have hS : Below wr.heap.size wr x5 := hS.trans (hb.mono hS.size)
      clear hb
      refine hK.out _ _ hS (fun _ => ?_)
      simp only [Act.put, List.setIfInBounds_toArray, List.set_cons_zero, List.set_cons_succ]
      clear hK K
      refine wpAnyH_ready (rs := [10]) (by kernel_rfl) (by simp) ?_
      refine AllReadyH.cons rfl (fun K hK => ?_) AllReadyH.nil
      refine he.step_callW _ (by rfl) (some 48) rfl 10 #[.tmp 47] #[25] rfl (fun q w' => by rfl) #[.agg (sv u n e t (.slice ao xs.length cap)).toArray] (by simp only [List.map_toArray, List.map_cons, List.map_nil]; rfl) (fun z9 w' => z9 = .agg (sv u n e t (.slice ao xs.length cap)).toArray ∧ Below x5.heap.size x5 w') ?_ ?_
      · exact (SO.out x5 _ (HV.out.below (BB.out.trans (hS.mono BB.out.size)))).mono fun e w' ⟨h1, h2⟩ => ⟨_, h1, rfl, h2⟩
      rintro _ x6 ⟨rfl, hb⟩
      have hS : Below wr.heap.size wr x6 := hS.trans (hb.mono hS.size)
      clear hb
      refine hK.out _ _ hS (fun _ => ?_)
      simp only [Act.put, List.setIfInBounds_toArray, List.set_cons_zero, List.set_cons_succ]
      clear hK K
      refine wpAnyH_ready (rs := [11]) (by kernel_rfl) (by simp) ?_
      refine AllReadyH.cons rfl (fun K hK => ?_) AllReadyH.nil
      refine he.step_callW _ (by rfl) (some 49) rfl 11 #[.tmp 46, .tmp 48] #[33, 33] rfl (fun q w' => by rfl) #[.agg (sv u n e t (.slice eo xs.length ec)).toArray, .agg (sv u n e t (.slice ao xs.length cap)).toArray] (by simp only [List.map_toArray, List.map_cons, List.map_nil]; rfl) (fun z9 w' => z9 = .bool true ∧ Below x6.heap.size x6 w') ?_ ?_
      · exact (rsame_yes u n e t _ _ xs x6 (HE.out.below hS) (HV.out.below (BB.out.trans (hS.mono BB.out.size)))).mono fun e w' ⟨h1, h2⟩ => ⟨_, h1, rfl, h2⟩
      rintro _ x7 ⟨rfl, hb⟩
      have hS : Below wr.heap.size wr x7 := hS.trans (hb.mono hS.size)
      clear hb
      refine hK.out _ _ hS (fun _ => ?_)
      simp only [Act.put, List.setIfInBounds_toArray, List.set_cons_zero, List.set_cons_succ]
      clear hK K
      refine take_lawH 12 (some 50) (.bool false) rfl rfl (by kernel_rfl) (by kernel_rfl) (by kernel_rfl) (fun _ _ _ h => h) (Or.inl ⟨by rfl, fun w' hw' => by rfl⟩) hS ?_
      simp only [Act.put, List.setIfInBounds_toArray, List.set_cons_zero, List.set_cons_succ]
      refine take_lawH 13 (some 51) (.bool false) rfl rfl (by kernel_rfl) (by kernel_rfl) (by kernel_rfl) (fun _ _ _ h => h) (Or.inl ⟨by rfl, fun w' hw' => by rfl⟩) hS ?_
      simp only [Act.put, List.setIfInBounds_toArray, List.set_cons_zero, List.set_cons_succ]
      refine wpAnyH_done (by kernel_rfl) ?_ _
      have HB0 : Hid (Vr x7 w.heap.size (sv u n e t (.slice ao xs.length cap))) := HB0.out.below hS (range_lt HB0.out.1 (Nat.succ_pos _))
      have BB : Hid (Below w.heap.size w x7) := BB.out.trans (hS.mono BB.out.size)
      clear hS
      have hb0_0 := HB0.out.cell 0 _ rfl
      have hb0_1 := HB0.out.cell 1 _ rfl
      have hb0_2 := HB0.out.cell 2 _ rfl
      have hb0_3 := HB0.out.cell 3 _ rfl
      have hb0_4 := HB0.out.cell 4 _ rfl
      have t50 : (1 : Nat) = 1 := rfl
      go_wp2_with (first
        | (have q52 := t52; go_at_call 5; refine (awake_any w92).mono ?_; rintro e9 w93 ⟨rfl, B9⟩; have HB0 : Hid (Vr w93 w.heap.size (sv u n e t (.slice ao xs.length cap))) := HB0.out.below B9 (range_lt HB0.out.1 (Nat.succ_pos _)); have BB : Hid (Below w.heap.size w w93) := BB.out.trans (B9.mono BB.out.size); clear hb0_0 hb0_1 hb0_2 hb0_3 hb0_4; have hb0_0 := HB0.out.cell 0 _ rfl; have hb0_1 := HB0.out.cell 1 _ rfl; have hb0_2 := HB0.out.cell 2 _ rfl; have hb0_3 := HB0.out.cell 3 _ rfl; have hb0_4 := HB0.out.cell 4 _ rfl; clear B9; clear t52; have t53 : (1 : Nat) = 1 := rfl)
        | (have q51 := t51; go_at_call 9; refine (SG.out w91 BB.out).mono ?_; rintro e9 w92 ⟨rfl, B9⟩; have HB0 : Hid (Vr w92 w.heap.size (sv u n e t (.slice ao xs.length cap))) := HB0.out.below B9 (range_lt HB0.out.1 (Nat.succ_pos _)); have BB : Hid (Below w.heap.size w w92) := BB.out.trans (B9.mono BB.out.size); clear hb0_0 hb0_1 hb0_2 hb0_3 hb0_4; have hb0_0 := HB0.out.cell 0 _ rfl; have hb0_1 := HB0.out.cell 1 _ rfl; have hb0_2 := HB0.out.cell 2 _ rfl; have hb0_3 := HB0.out.cell 3 _ rfl; have hb0_4 := HB0.out.cell 4 _ rfl; clear B9; clear t51; have t52 : (1 : Nat) = 1 := rfl)
        | (have q50 := t50; go_at_call 10; refine (SO.out x7 _ (HV.out.below BB.out)).mono ?_; rintro e9 w91 ⟨rfl, B9⟩; have HB0 : Hid (Vr w91 w.heap.size (sv u n e t (.slice ao xs.length cap))) := HB0.out.below B9 (range_lt HB0.out.1 (Nat.succ_pos _)); have BB : Hid (Below w.heap.size w w91) := BB.out.trans (B9.mono BB.out.size); clear hb0_0 hb0_1 hb0_2 hb0_3 hb0_4; have hb0_0 := HB0.out.cell 0 _ rfl; have hb0_1 := HB0.out.cell 1 _ rfl; have hb0_2 := HB0.out.cell 2 _ rfl; have hb0_3 := HB0.out.cell 3 _ rfl; have hb0_4 := HB0.out.cell 4 _ rfl; clear B9; clear t50; have t51 : (1 : Nat) = 1 := rfl))
      go_ret
      exact ⟨rfl, BB.out⟩

theorem walk (u : Bool) (n e t : Int) (v : Value) (xs : List Int) (w : World) (hS : Sb n e t) (hv : Byt w v xs) (hT : Tbl w) :
    Calls Tryd.prog 3 #[.agg (sv u n e t v).toArray] w fun x w' => x = .returned (.bool true) ∧ Below w.heap.size w w' := by
  by_cases h1 : (1000 : Int) < (xs.length : Int)
  · exact walk_long u n e t v xs w hS hv h1
  · by_cases hr : Rs u n e t xs
    · exact walk_yes u n e t v xs w hS hv hT h1 hr
    · exact walk_no u n e t v xs w hS hv h1 hr

theorem params : ∀ t ∈ Tryd.f3.params.toList, Tryd.prog.readableRec t = true ∧ t < Tryd.prog.types.size := by
  rw [Tryd.params3]
  intro t ht
  simp at ht
  subst ht
  exact ⟨by kernel_rfl, of_decide_eq_true (by kernel_rfl)⟩

theorem contract (H : Type) (enc : TypeId × Value → H) (W : World) (base : Nat) (args : Array Value) (ds gs : List (DataW H)) (before : List MemPlace)
    (hval : ∀ (j : Nat) t v, Tryd.f3.params[j]? = some t → args[j]? = some v → Value.okWide Tryd.prog W .any base t v)
    (hW : DataW.Whole enc Tryd.prog Tryd.f3.params.toList Rows.slotBytesSpec.vars false W args.toList ds gs before) (hL : laidMetH Tryd.prog Rows.slotBytesRow.laid W) :
    Calls Tryd.prog 3 args W fun e W' => ∃ v, e = .returned v ∧ Rows.slotBytesSpec.post enc Tryd.prog Tryd.f3 false true false false W args v W' := by
  have hW' := hW
  obtain ⟨p, q, hA0, hV, rfl, hfz, hnd⟩ := hW
  have hA : DataW.TrodAll enc Tryd.prog W 0 (fun _ => true) true Tryd.f3.params.toList args.toList ds p := hA0
  rw [Tryd.params3] at hA hval
  obtain ⟨v0, d0, rfl, rfl, h0⟩ := trodAll_one hA
  obtain ⟨rfl, rfl⟩ := trodVars_none hV
  obtain ⟨su0, sn0, se0, st0, sx0, xs0, rfl, hf0, b0⟩ := so.slot_open (hval 0 25 v0 rfl rfl) h0
  clear hA0
  refine (walk su0 sn0 se0 st0 sx0 xs0 W hf0 b0 (table hL)).mono fun e W' ⟨he, hg⟩ => ?_
  subst he
  exact ⟨_, rfl, post_law rfl (by kernel_rfl) params rfl rfl rfl hW' hg⟩

theorem laid_met (os : Os) : laidMet Tryd.prog Rows.slotBytesRow.laid (({ World.holding Tryd.prog os ⟨#[], #[], []⟩ with heap := (World.holding Tryd.prog os ⟨#[], #[], []⟩).heap.modify 0 fun | .cells _ t frozen => .cells #[.int .i64 1, .int .i64 3, .int .i64 4, .int .i64 8, .int .i64 8] t frozen | o => o } : World).forCall (fun _ _ => 0) ⟨#[], #[.agg #[.bool false, .int .i64 0, .int .u64 0, .int .u64 0, .slice none 0 0]], []⟩).memory :=
  laidMet_of_run' 8 (by kernel_rfl) (by kernel_rfl)
theorem reads (os : Os) {H : Type} (enc : TypeId × Value → H) : ∃ places, DataW.whole enc Tryd.prog (({ World.holding Tryd.prog os ⟨#[], #[], []⟩ with heap := (World.holding Tryd.prog os ⟨#[], #[], []⟩).heap.modify 0 fun | .cells _ t frozen => .cells #[.int .i64 1, .int .i64 3, .int .i64 4, .int .i64 8, .int .i64 8] t frozen | o => o } : World).forCall (fun _ _ => 0) ⟨#[], #[.agg #[.bool false, .int .i64 0, .int .u64 0, .int .u64 0, .slice none 0 0]], []⟩).memory Tryd.f3.params.toList Rows.slotBytesSpec.vars false #[Value.agg #[.bool false, .int .i64 0, .int .u64 0, .int .u64 0, .slice none 0 0]].toList 8 = some ([.agg [.lit (.bool false), .lit (.int .i64 0), .lit (.int .u64 0), .lit (.int .u64 0), .nil]], [], places) :=
  ⟨[], by kernel_rfl⟩

set_option maxRecDepth 100000 in
theorem lifted (os : Os) (started : os.Started) (H : Type) (enc : TypeId × Value → H) (F : Stop.Interp) :
    ReturnsInHanded {} Tryd.checked os 3 .any ((OpenSpec.ofChange Rows.slotBytesSpec).preRow enc Tryd.prog Tryd.f3 Rows.slotBytesRow.domain false Rows.slotBytesRow.laid) (((OpenSpec.ofChange Rows.slotBytesSpec).at F).post enc Tryd.prog Tryd.f3 false true false false) := by
  obtain ⟨places, hx⟩ := reads os enc
  refine returnsInHanded_of_row (C := Tryd.checked) (s := OpenSpec.ofChange Rows.slotBytesSpec) own started (by kernel_rfl) Tryd.func3
    (witness_row_at (enc := enc) (C := Tryd.checked) false ({ World.holding Tryd.prog os ⟨#[], #[], []⟩ with heap := (World.holding Tryd.prog os ⟨#[], #[], []⟩).heap.modify 0 fun | .cells _ t frozen => .cells #[.int .i64 1, .int .i64 3, .int .i64 4, .int .i64 8, .int .i64 8] t frozen | o => o } : World) #[.agg #[.bool false, .int .i64 0, .int .u64 0, .int .u64 0, .slice none 0 0]] rfl (by kernel_rfl) (by kernel_rfl) (by kernel_rfl)
      (OpenSpec.preRow_of_cond 8 hx (by kernel_rfl) (fun k hk => by cases hk) (by kernel_rfl) (laid_met os))) ?_
  intro W base args ds gs before hval hW _ _ _ hL _ _
  exact contract H enc W base args ds gs before hval hW hL

theorem said : Rows.SlotBytesSaid :=
  OpenClaim.holds_of_cond 3 Tryd.f3 rfl rfl rfl rfl rfl rfl rfl ⟨rfl, rfl, rfl, rfl, rfl⟩ rfl rfl rfl rfl rfl (by kernel_rfl) Tryd.func3 (by kernel_rfl)
    (of_decide_eq_true (by kernel_rfl)) (by unfold Func.isWrapper; first | (rw [if_pos (by decide +kernel)]; kernel_rfl) | (rw [if_neg (by decide +kernel)]; exact ⟨rfl, rfl⟩))
    (fun os started H enc _ F => by rw [OpenClaim.pre_eq_preRow]; exact lifted os started H enc F)

theorem plain (f : FuncId) (fn : Func) (hf : Tryd.pinned.checked.prog.funcNamed "nepenthe/nepenthelaw17.SlotBytes" = some f) (hfn : Tryd.pinned.checked.prog.funcs[f]? = some fn) :
    false = Tryd.pinned.checked.prog.looks [] ∧ ∀ (j : Nat) t, fn.params[j]? = some t → Tryd.pinned.checked.prog.wantsStandIn t = false := by
  obtain rfl : f = 3 := Option.some.inj ((show Tryd.prog.funcNamed "nepenthe/nepenthelaw17.SlotBytes" = some 3 by kernel_rfl).symm.trans hf) |>.symm
  obtain rfl : fn = Tryd.f3 := (Option.some.inj (Tryd.func3.symm.trans hfn)).symm
  refine ⟨by kernel_rfl, fun j t ht => ?_⟩
  rw [Tryd.params3] at ht
  have hm := Array.mem_of_getElem? ht
  simp at hm
  subst hm
  exact (show Tryd.prog.wantsStandIn 25 = false by kernel_rfl)
end Go.Proofs.YtifepmdhbhdjpaaDoor.slotBytes

namespace Go.Proofs.YtifepmdhbhdjpaaDoor
theorem slotBytes_card : Rows.SlotBytesCardSaid :=
  Claim7.holds_tied_plain_at .later [] _ _ _ _ slotBytes.said (fun _ h => by cases h) (by kernel_rfl) (fun _ h => by cases h) slotBytes_row_tie rfl ⟨rfl, rfl⟩ (by kernel_rfl) rfl slotBytes.plain (by kernel_rfl)
#print axioms slotBytes_card
end Go.Proofs.YtifepmdhbhdjpaaDoor
