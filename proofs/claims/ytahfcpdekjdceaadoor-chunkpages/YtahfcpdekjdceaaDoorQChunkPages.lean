/- Any record's pages, in any geometry, of any generation, or why there are none: as the document says. Of sectors of more than 700 bytes: that there are pages. No condition. -/
import Derived.Test.YtahfcpdekjdceaaDoorCards
import Derived.Test.YtahfcpdekjdceaaDoorTie
import Derived.Test.YtahfcpdekjdceaaDoorPackJ
import Derived.Test.YtahfcpdekjdceaaDoorXKRPg
import Derived.Test.YtahfcpdekjdceaaDoorPackM
namespace Go.Proofs.YtahfcpdekjdceaaDoor.chunkPages
open Go.ChangeShapes Go.WideShapes Go.ChangeAt Go.RowKit Go.Proofs.YtahfcpdekjdceaaDoor.ck Go.Proofs.YtahfcpdekjdceaaDoor.pa Go.Proofs.YtahfcpdekjdceaaDoor.he Go.Proofs.YtahfcpdekjdceaaDoor.fa
set_option maxRecDepth 20000

set_option maxHeartbeats 4000000 in
theorem walk_geo (g0 g1 g2 g3 g4 g5 : Int) (v : Value) (gen : Int) (w : World) (hT : Tab w) (hr : ¬ ge.Rt [g0, g1, g2, g3, g4, g5]) :
    Calls Tryd.prog 3 #[.agg (ints .i64 [g0, g1, g2, g3, g4, g5]), v, .int .u64 gen] w fun x w' => x = .returned (.bool true) ∧ Below w.heap.size w w' := by
  have SW : Hid (∀ w0, Below w.heap.size w w0 → Calls Tryd.prog 9 #[] w0 fun x w' => x = .returned (.bool true) ∧ Below w0.heap.size w0 w') := fun w0 q => ck.awake_any w0 (hT.below q)
  have SG : Hid (∀ w0, Calls Tryd.prog 8 #[.agg (ints .i64 [g0, g1, g2, g3, g4, g5])] w0 fun x w' => x = .returned (.bool false) ∧ Below w0.heap.size w0 w') := ge.right_no [g0, g1, g2, g3, g4, g5] rfl hr
  have SP : Hid (∀ w0, Calls Tryd.prog 7 #[.agg (ints .i64 [g0, g1, g2, g3, g4, g5]), v, .int .u64 gen] w0 fun x w' => x = .returned (.tuple #[.slice none 0 0, .int .i64 2]) ∧ Below w0.heap.size w0 w') := fun w0 => pages_geo g0 g1 g2 g3 g4 g5 v gen w0 hr
  clear hr hT
  have t0 : (0 : Nat) = 0 := rfl
  go_enter Tryd.func3, Tryd.ntmps3
  go_wp2_with (first
    | (have q3 := t3; go_at_call 9; refine (SW.out w3 BB.out).mono ?_; rintro e9 w4 ⟨rfl, B9⟩; have HB0 : Hid (Vr w4 w.heap.size [.int .i64 g0, .int .i64 g1, .int .i64 g2, .int .i64 g3, .int .i64 g4, .int .i64 g5]) := HB0.out.below B9 (range_lt HB0.out.1 (Nat.succ_pos _)); have BB : Hid (Below w.heap.size w w4) := BB.out.trans (B9.mono BB.out.size); clear hb0_0 hb0_1 hb0_2 hb0_3 hb0_4 hb0_5; have hb0_0 := HB0.out.cell 0 _ rfl; have hb0_1 := HB0.out.cell 1 _ rfl; have hb0_2 := HB0.out.cell 2 _ rfl; have hb0_3 := HB0.out.cell 3 _ rfl; have hb0_4 := HB0.out.cell 4 _ rfl; have hb0_5 := HB0.out.cell 5 _ rfl; clear B9; clear t3; have t4 : (1 : Nat) = 1 := rfl)
    | (have q2 := t2; go_at_call 8; refine (SG.out w2).mono ?_; rintro e9 w3 ⟨rfl, B9⟩; have HB0 : Hid (Vr w3 w.heap.size [.int .i64 g0, .int .i64 g1, .int .i64 g2, .int .i64 g3, .int .i64 g4, .int .i64 g5]) := HB0.out.below B9 (range_lt HB0.out.1 (Nat.succ_pos _)); have BB : Hid (Below w.heap.size w w3) := BB.out.trans (B9.mono BB.out.size); clear hb0_0 hb0_1 hb0_2 hb0_3 hb0_4 hb0_5; have hb0_0 := HB0.out.cell 0 _ rfl; have hb0_1 := HB0.out.cell 1 _ rfl; have hb0_2 := HB0.out.cell 2 _ rfl; have hb0_3 := HB0.out.cell 3 _ rfl; have hb0_4 := HB0.out.cell 4 _ rfl; have hb0_5 := HB0.out.cell 5 _ rfl; clear B9; clear t2; have t3 : (1 : Nat) = 1 := rfl)
    | (have q1 := t1; go_at_call 7; refine (SP.out w1).mono ?_; rintro e9 w2 ⟨rfl, B9⟩; have HB0 : Hid (Vr w2 w.heap.size [.int .i64 g0, .int .i64 g1, .int .i64 g2, .int .i64 g3, .int .i64 g4, .int .i64 g5]) := HB0.out.below B9 (range_lt HB0.out.1 (Nat.succ_pos _)); have BB : Hid (Below w.heap.size w w2) := BB.out.trans (B9.mono BB.out.size); clear hb0_0 hb0_1 hb0_2 hb0_3 hb0_4 hb0_5; have hb0_0 := HB0.out.cell 0 _ rfl; have hb0_1 := HB0.out.cell 1 _ rfl; have hb0_2 := HB0.out.cell 2 _ rfl; have hb0_3 := HB0.out.cell 3 _ rfl; have hb0_4 := HB0.out.cell 4 _ rfl; have hb0_5 := HB0.out.cell 5 _ rfl; clear B9; clear t1; have t2 : (1 : Nat) = 1 := rfl)
    | (have q0 := t0; refine box_lawC _ [.int .i64 g0, .int .i64 g1, .int .i64 g2, .int .i64 g3, .int .i64 g4, .int .i64 g5] rfl ?_; intro w1 X9 B9 l9; have HB0 : Hid (Vr w1 w.heap.size [.int .i64 g0, .int .i64 g1, .int .i64 g2, .int .i64 g3, .int .i64 g4, .int .i64 g5]) := X9; have BB : Hid (Below w.heap.size w w1) := B9; have hb0_0 := HB0.out.cell 0 _ rfl; have hb0_1 := HB0.out.cell 1 _ rfl; have hb0_2 := HB0.out.cell 2 _ rfl; have hb0_3 := HB0.out.cell 3 _ rfl; have hb0_4 := HB0.out.cell 4 _ rfl; have hb0_5 := HB0.out.cell 5 _ rfl; clear X9 B9 l9; clear t0; have t1 : (1 : Nat) = 1 := rfl))
  go_ret
  exact ⟨rfl, BB.out⟩

set_option maxHeartbeats 4000000 in
theorem walk_len (g0 g1 g3 g4 g5 : Int) (S : Nat) (v : Value) (xs : List Int) (gen : Int) (w : World) (hb : Byt w v xs) (hT : Tab w) (hr : ge.Rt [g0, g1, (S : Int), g3, g4, g5]) (hl : xs.length ≠ 624) :
    Calls Tryd.prog 3 #[.agg (ints .i64 [g0, g1, (S : Int), g3, g4, g5]), v, .int .u64 gen] w fun x w' => x = .returned (.bool true) ∧ Below w.heap.size w w' := by
  have SW : Hid (∀ w0, Below w.heap.size w w0 → Calls Tryd.prog 9 #[] w0 fun x w' => x = .returned (.bool true) ∧ Below w0.heap.size w0 w') := fun w0 q => ck.awake_any w0 (hT.below q)
  have SG : Hid (∀ w0, Calls Tryd.prog 8 #[.agg (ints .i64 [g0, g1, (S : Int), g3, g4, g5])] w0 fun x w' => x = .returned (.bool true) ∧ Below w0.heap.size w0 w') := ge.right_yes [g0, g1, (S : Int), g3, g4, g5] rfl hr
  have SP : Hid (∀ w0, Below w.heap.size w w0 → Calls Tryd.prog 7 #[.agg (ints .i64 [g0, g1, (S : Int), g3, g4, g5]), v, .int .u64 gen] w0 fun x w' => x = .returned (.tuple #[.slice none 0 0, .int .i64 2]) ∧ Below w0.heap.size w0 w') := fun w0 q => pages_len g0 g1 g3 g4 g5 S v xs gen w0 hr (hb.below q) hl
  obtain ⟨ao, cap, rfl⟩ := byt_form hb rfl
  have n1 : ((xs.length : Int) != 624) = true := bne_iff_ne.2 (by omega)
  generalize xs.length = n at SP n1 ⊢
  clear hr hT hb hl
  have t0 : (0 : Nat) = 0 := rfl
  go_enter Tryd.func3, Tryd.ntmps3
  go_wp2_with (first
    | (have q3 := t3; go_at_call 9; refine (SW.out w3 BB.out).mono ?_; rintro e9 w4 ⟨rfl, B9⟩; have HB0 : Hid (Vr w4 w.heap.size [.int .i64 g0, .int .i64 g1, .int .i64 (S : Int), .int .i64 g3, .int .i64 g4, .int .i64 g5]) := HB0.out.below B9 (range_lt HB0.out.1 (Nat.succ_pos _)); have BB : Hid (Below w.heap.size w w4) := BB.out.trans (B9.mono BB.out.size); clear hb0_0 hb0_1 hb0_2 hb0_3 hb0_4 hb0_5; have hb0_0 := HB0.out.cell 0 _ rfl; have hb0_1 := HB0.out.cell 1 _ rfl; have hb0_2 := HB0.out.cell 2 _ rfl; have hb0_3 := HB0.out.cell 3 _ rfl; have hb0_4 := HB0.out.cell 4 _ rfl; have hb0_5 := HB0.out.cell 5 _ rfl; clear B9; clear t3; have t4 : (1 : Nat) = 1 := rfl)
    | (have q2 := t2; go_at_call 8; refine (SG.out w2).mono ?_; rintro e9 w3 ⟨rfl, B9⟩; have HB0 : Hid (Vr w3 w.heap.size [.int .i64 g0, .int .i64 g1, .int .i64 (S : Int), .int .i64 g3, .int .i64 g4, .int .i64 g5]) := HB0.out.below B9 (range_lt HB0.out.1 (Nat.succ_pos _)); have BB : Hid (Below w.heap.size w w3) := BB.out.trans (B9.mono BB.out.size); clear hb0_0 hb0_1 hb0_2 hb0_3 hb0_4 hb0_5; have hb0_0 := HB0.out.cell 0 _ rfl; have hb0_1 := HB0.out.cell 1 _ rfl; have hb0_2 := HB0.out.cell 2 _ rfl; have hb0_3 := HB0.out.cell 3 _ rfl; have hb0_4 := HB0.out.cell 4 _ rfl; have hb0_5 := HB0.out.cell 5 _ rfl; clear B9; clear t2; have t3 : (1 : Nat) = 1 := rfl)
    | (have q1 := t1; go_at_call 7; refine (SP.out w1 BB.out).mono ?_; rintro e9 w2 ⟨rfl, B9⟩; have HB0 : Hid (Vr w2 w.heap.size [.int .i64 g0, .int .i64 g1, .int .i64 (S : Int), .int .i64 g3, .int .i64 g4, .int .i64 g5]) := HB0.out.below B9 (range_lt HB0.out.1 (Nat.succ_pos _)); have BB : Hid (Below w.heap.size w w2) := BB.out.trans (B9.mono BB.out.size); clear hb0_0 hb0_1 hb0_2 hb0_3 hb0_4 hb0_5; have hb0_0 := HB0.out.cell 0 _ rfl; have hb0_1 := HB0.out.cell 1 _ rfl; have hb0_2 := HB0.out.cell 2 _ rfl; have hb0_3 := HB0.out.cell 3 _ rfl; have hb0_4 := HB0.out.cell 4 _ rfl; have hb0_5 := HB0.out.cell 5 _ rfl; clear B9; clear t1; have t2 : (1 : Nat) = 1 := rfl)
    | (have q0 := t0; refine box_lawC _ [.int .i64 g0, .int .i64 g1, .int .i64 (S : Int), .int .i64 g3, .int .i64 g4, .int .i64 g5] rfl ?_; intro w1 X9 B9 l9; have HB0 : Hid (Vr w1 w.heap.size [.int .i64 g0, .int .i64 g1, .int .i64 (S : Int), .int .i64 g3, .int .i64 g4, .int .i64 g5]) := X9; have BB : Hid (Below w.heap.size w w1) := B9; have hb0_0 := HB0.out.cell 0 _ rfl; have hb0_1 := HB0.out.cell 1 _ rfl; have hb0_2 := HB0.out.cell 2 _ rfl; have hb0_3 := HB0.out.cell 3 _ rfl; have hb0_4 := HB0.out.cell 4 _ rfl; have hb0_5 := HB0.out.cell 5 _ rfl; clear X9 B9 l9; clear t0; have t1 : (1 : Nat) = 1 := rfl))
  go_ret
  exact ⟨rfl, BB.out⟩

set_option maxHeartbeats 4000000 in
theorem walk_far (g0 g1 g3 g4 g5 : Int) (S : Nat) (v : Value) (xs : List Int) (gen : Int) (w : World) (hb : Byt w v xs) (hg : 0 ≤ gen ∧ gen ≤ 18446744073709551615) (hT : Tab w) (hr : ge.Rt [g0, g1, (S : Int), g3, g4, g5]) (hl : xs.length = 624) (hs : ¬ (S : Int) ≤ 700) :
    Calls Tryd.prog 3 #[.agg (ints .i64 [g0, g1, (S : Int), g3, g4, g5]), v, .int .u64 gen] w fun x w' => x = .returned (.bool true) ∧ Below w.heap.size w w' := by
  have ⟨s1, s2⟩ := rt_sec hr
  have hn := nc_le s1 s2
  have SW : Hid (∀ w0, Below w.heap.size w w0 → Calls Tryd.prog 9 #[] w0 fun x w' => x = .returned (.bool true) ∧ Below w0.heap.size w0 w') := fun w0 q => ck.awake_any w0 (hT.below q)
  have SG : Hid (∀ w0, Calls Tryd.prog 8 #[.agg (ints .i64 [g0, g1, (S : Int), g3, g4, g5])] w0 fun x w' => x = .returned (.bool true) ∧ Below w0.heap.size w0 w') := ge.right_yes [g0, g1, (S : Int), g3, g4, g5] rfl hr
  have SP : Hid (∀ w0, Below w.heap.size w w0 → Calls Tryd.prog 7 #[.agg (ints .i64 [g0, g1, (S : Int), g3, g4, g5]), v, .int .u64 gen] w0 fun x w' => ∃ b off cap, x = .returned (.tuple #[.slice (some ⟨b, off, none⟩) (nc S) cap, .int .i64 0]) ∧ Rws w' b off (nc S) (P255 S xs gen) ∧ Below w0.heap.size w0 w') := fun w0 q => (pages_yes g0 g1 g3 g4 g5 S v xs gen w0 hr (hb.below q) hl hg (hT.below q)).mono fun x w' ⟨r, e, hP, hB⟩ => by
    obtain ⟨b, off, cap, rfl, hR⟩ := rws_fl (hP.pgs fun i hi => p255_all s1 s2 hi hb.all) (by omega)
    exact ⟨b, off, cap, e, hR, hB⟩
  have SL : Hid (∀ w0, Calls Tryd.prog 10 #[.agg (ints .i64 [g0, g1, (S : Int), g3, g4, g5])] w0 fun x w' => x = .returned (.bool false) ∧ Below w0.heap.size w0 w') := fun w0 => light_no g0 g1 (S : Int) g3 g4 g5 w0 hs
  obtain ⟨ao, cap', rfl⟩ := byt_form hb hl
  generalize P255 S xs gen = F at SP
  generalize nc S = N at SP
  clear hr hT hb hl hg s1 s2 hn hs
  have t0 : (0 : Nat) = 0 := rfl
  go_enter Tryd.func3, Tryd.ntmps3
  go_wp2_with (first
    | (have q4 := t4; go_at_call 9; refine (SW.out w4 BB.out).mono ?_; rintro e9 w5 ⟨rfl, B9⟩; have HB0 : Hid (Vr w5 w.heap.size [.int .i64 g0, .int .i64 g1, .int .i64 (S : Int), .int .i64 g3, .int .i64 g4, .int .i64 g5]) := HB0.out.below B9 (range_lt HB0.out.1 (Nat.succ_pos _)); have HR1 : Hid (Rws w5 b off N F) := HR1.out.below B9; have BB : Hid (Below w.heap.size w w5) := BB.out.trans (B9.mono BB.out.size); clear hb0_0 hb0_1 hb0_2 hb0_3 hb0_4 hb0_5; have hb0_0 := HB0.out.cell 0 _ rfl; have hb0_1 := HB0.out.cell 1 _ rfl; have hb0_2 := HB0.out.cell 2 _ rfl; have hb0_3 := HB0.out.cell 3 _ rfl; have hb0_4 := HB0.out.cell 4 _ rfl; have hb0_5 := HB0.out.cell 5 _ rfl; clear B9; clear t4; have t5 : (1 : Nat) = 1 := rfl)
    | (have q3 := t3; go_at_call 10; refine (SL.out w3).mono ?_; rintro e9 w4 ⟨rfl, B9⟩; have HB0 : Hid (Vr w4 w.heap.size [.int .i64 g0, .int .i64 g1, .int .i64 (S : Int), .int .i64 g3, .int .i64 g4, .int .i64 g5]) := HB0.out.below B9 (range_lt HB0.out.1 (Nat.succ_pos _)); have HR1 : Hid (Rws w4 b off N F) := HR1.out.below B9; have BB : Hid (Below w.heap.size w w4) := BB.out.trans (B9.mono BB.out.size); clear hb0_0 hb0_1 hb0_2 hb0_3 hb0_4 hb0_5; have hb0_0 := HB0.out.cell 0 _ rfl; have hb0_1 := HB0.out.cell 1 _ rfl; have hb0_2 := HB0.out.cell 2 _ rfl; have hb0_3 := HB0.out.cell 3 _ rfl; have hb0_4 := HB0.out.cell 4 _ rfl; have hb0_5 := HB0.out.cell 5 _ rfl; clear B9; clear t3; have t4 : (1 : Nat) = 1 := rfl)
    | (have q2 := t2; go_at_call 8; refine (SG.out w2).mono ?_; rintro e9 w3 ⟨rfl, B9⟩; have HB0 : Hid (Vr w3 w.heap.size [.int .i64 g0, .int .i64 g1, .int .i64 (S : Int), .int .i64 g3, .int .i64 g4, .int .i64 g5]) := HB0.out.below B9 (range_lt HB0.out.1 (Nat.succ_pos _)); have HR1 : Hid (Rws w3 b off N F) := HR1.out.below B9; have BB : Hid (Below w.heap.size w w3) := BB.out.trans (B9.mono BB.out.size); clear hb0_0 hb0_1 hb0_2 hb0_3 hb0_4 hb0_5; have hb0_0 := HB0.out.cell 0 _ rfl; have hb0_1 := HB0.out.cell 1 _ rfl; have hb0_2 := HB0.out.cell 2 _ rfl; have hb0_3 := HB0.out.cell 3 _ rfl; have hb0_4 := HB0.out.cell 4 _ rfl; have hb0_5 := HB0.out.cell 5 _ rfl; clear B9; clear t2; have t3 : (1 : Nat) = 1 := rfl)
    | (have q1 := t1; go_at_call 7; refine (SP.out w1 BB.out).mono ?_; rintro e9 w2 ⟨b, off, cap, rfl, r9, B9⟩; have HB0 : Hid (Vr w2 w.heap.size [.int .i64 g0, .int .i64 g1, .int .i64 (S : Int), .int .i64 g3, .int .i64 g4, .int .i64 g5]) := HB0.out.below B9 (range_lt HB0.out.1 (Nat.succ_pos _)); have HR1 : Hid (Rws w2 b off N F) := r9; have BB : Hid (Below w.heap.size w w2) := BB.out.trans (B9.mono BB.out.size); clear hb0_0 hb0_1 hb0_2 hb0_3 hb0_4 hb0_5; have hb0_0 := HB0.out.cell 0 _ rfl; have hb0_1 := HB0.out.cell 1 _ rfl; have hb0_2 := HB0.out.cell 2 _ rfl; have hb0_3 := HB0.out.cell 3 _ rfl; have hb0_4 := HB0.out.cell 4 _ rfl; have hb0_5 := HB0.out.cell 5 _ rfl; clear B9 r9; clear t1; have t2 : (1 : Nat) = 1 := rfl)
    | (have q0 := t0; refine box_lawC _ [.int .i64 g0, .int .i64 g1, .int .i64 (S : Int), .int .i64 g3, .int .i64 g4, .int .i64 g5] rfl ?_; intro w1 X9 B9 l9; have HB0 : Hid (Vr w1 w.heap.size [.int .i64 g0, .int .i64 g1, .int .i64 (S : Int), .int .i64 g3, .int .i64 g4, .int .i64 g5]) := X9; have BB : Hid (Below w.heap.size w w1) := B9; have hb0_0 := HB0.out.cell 0 _ rfl; have hb0_1 := HB0.out.cell 1 _ rfl; have hb0_2 := HB0.out.cell 2 _ rfl; have hb0_3 := HB0.out.cell 3 _ rfl; have hb0_4 := HB0.out.cell 4 _ rfl; have hb0_5 := HB0.out.cell 5 _ rfl; clear X9 B9 l9; clear t0; have t1 : (1 : Nat) = 1 := rfl))
  go_ret
  exact ⟨rfl, BB.out⟩

set_option maxHeartbeats 4000000 in
theorem walk_near (g0 g1 g3 g4 g5 : Int) (S : Nat) (v : Value) (xs : List Int) (gen : Int) (w : World) (hb : Byt w v xs) (hg : 0 ≤ gen ∧ gen ≤ 18446744073709551615) (hT : Tab w) (hr : ge.Rt [g0, g1, (S : Int), g3, g4, g5]) (hl : xs.length = 624) (hs : (S : Int) ≤ 700) :
    Calls Tryd.prog 3 #[.agg (ints .i64 [g0, g1, (S : Int), g3, g4, g5]), v, .int .u64 gen] w fun x w' => x = .returned (.bool true) ∧ Below w.heap.size w w' := by
  have ⟨s1, s2⟩ := rt_sec hr
  have hn := nc_le s1 s2
  have SW : Hid (∀ w0, Below w.heap.size w w0 → Calls Tryd.prog 9 #[] w0 fun x w' => x = .returned (.bool true) ∧ Below w0.heap.size w0 w') := fun w0 q => ck.awake_any w0 (hT.below q)
  have SG : Hid (∀ w0, Calls Tryd.prog 8 #[.agg (ints .i64 [g0, g1, (S : Int), g3, g4, g5])] w0 fun x w' => x = .returned (.bool true) ∧ Below w0.heap.size w0 w') := ge.right_yes [g0, g1, (S : Int), g3, g4, g5] rfl hr
  have SP : Hid (∀ w0, Below w.heap.size w w0 → Calls Tryd.prog 7 #[.agg (ints .i64 [g0, g1, (S : Int), g3, g4, g5]), v, .int .u64 gen] w0 fun x w' => ∃ b off cap, x = .returned (.tuple #[.slice (some ⟨b, off, none⟩) (nc S) cap, .int .i64 0]) ∧ Rws w' b off (nc S) (P255 S xs gen) ∧ Below w0.heap.size w0 w') := fun w0 q => (pages_yes g0 g1 g3 g4 g5 S v xs gen w0 hr (hb.below q) hl hg (hT.below q)).mono fun x w' ⟨r, e, hP, hB⟩ => by
    obtain ⟨b, off, cap, rfl, hR⟩ := rws_fl (hP.pgs fun i hi => p255_all s1 s2 hi hb.all) (by omega)
    exact ⟨b, off, cap, e, hR, hB⟩
  have SL : Hid (∀ w0, Calls Tryd.prog 10 #[.agg (ints .i64 [g0, g1, (S : Int), g3, g4, g5])] w0 fun x w' => x = .returned (.bool true) ∧ Below w0.heap.size w0 w') := fun w0 => light_yes g0 g1 (S : Int) g3 g4 g5 w0 hs
  have SQ : Hid (∀ w0, Below w.heap.size w w0 → Calls Tryd.prog 11 #[.agg (ints .i64 [g0, g1, (S : Int), g3, g4, g5]), v, .int .u64 gen] w0 fun x w' => ∃ b off cap, x = .returned (.slice (some ⟨b, off, none⟩) (nc S) cap) ∧ Rws w' b off (nc S) (P255 S xs gen) ∧ Below w0.heap.size w0 w') := fun w0 q => (rpages_any g0 g1 g3 g4 g5 S v xs gen w0 hr (hb.below q) hl hg).mono fun x w' ⟨r, e, hP, hB⟩ => by
    obtain ⟨b, off, cap, rfl, hR⟩ := rws_fl hP (by omega)
    exact ⟨b, off, cap, e, hR, hB⟩
  obtain ⟨ao, cap', rfl⟩ := byt_form hb hl
  generalize P255 S xs gen = F at SP SQ
  generalize nc S = N at SP SQ hn
  have n20 : N ≤ 20 := hn.2.1
  clear hr hT hb hl hg s1 s2 hn hs
  have t0 : (0 : Nat) = 0 := rfl
  go_enter Tryd.func3, Tryd.ntmps3
  go_wp2_with (first
    | (have q4 := t4; go_at_call 11; refine (SQ.out w4 BB.out).mono ?_; rintro e9 w5 ⟨b2, off2, cap2, rfl, r9, B9⟩; have HB0 : Hid (Vr w5 w.heap.size [.int .i64 g0, .int .i64 g1, .int .i64 (S : Int), .int .i64 g3, .int .i64 g4, .int .i64 g5]) := HB0.out.below B9 (range_lt HB0.out.1 (Nat.succ_pos _)); have HR1 : Hid (Rws w5 b off N F) := HR1.out.below B9; have HR2 : Hid (Rws w5 b2 off2 N F) := r9; have BB : Hid (Below w.heap.size w w5) := BB.out.trans (B9.mono BB.out.size); clear hb0_0 hb0_1 hb0_2 hb0_3 hb0_4 hb0_5; have hb0_0 := HB0.out.cell 0 _ rfl; have hb0_1 := HB0.out.cell 1 _ rfl; have hb0_2 := HB0.out.cell 2 _ rfl; have hb0_3 := HB0.out.cell 3 _ rfl; have hb0_4 := HB0.out.cell 4 _ rfl; have hb0_5 := HB0.out.cell 5 _ rfl; clear B9 r9; clear t4; have t5 : (1 : Nat) = 1 := rfl)
    | (have q3 := t3; go_at_call 10; refine (SL.out w3).mono ?_; rintro e9 w4 ⟨rfl, B9⟩; have HB0 : Hid (Vr w4 w.heap.size [.int .i64 g0, .int .i64 g1, .int .i64 (S : Int), .int .i64 g3, .int .i64 g4, .int .i64 g5]) := HB0.out.below B9 (range_lt HB0.out.1 (Nat.succ_pos _)); have HR1 : Hid (Rws w4 b off N F) := HR1.out.below B9; have BB : Hid (Below w.heap.size w w4) := BB.out.trans (B9.mono BB.out.size); clear hb0_0 hb0_1 hb0_2 hb0_3 hb0_4 hb0_5; have hb0_0 := HB0.out.cell 0 _ rfl; have hb0_1 := HB0.out.cell 1 _ rfl; have hb0_2 := HB0.out.cell 2 _ rfl; have hb0_3 := HB0.out.cell 3 _ rfl; have hb0_4 := HB0.out.cell 4 _ rfl; have hb0_5 := HB0.out.cell 5 _ rfl; clear B9; clear t3; have t4 : (1 : Nat) = 1 := rfl)
    | (have q2 := t2; go_at_call 8; refine (SG.out w2).mono ?_; rintro e9 w3 ⟨rfl, B9⟩; have HB0 : Hid (Vr w3 w.heap.size [.int .i64 g0, .int .i64 g1, .int .i64 (S : Int), .int .i64 g3, .int .i64 g4, .int .i64 g5]) := HB0.out.below B9 (range_lt HB0.out.1 (Nat.succ_pos _)); have HR1 : Hid (Rws w3 b off N F) := HR1.out.below B9; have BB : Hid (Below w.heap.size w w3) := BB.out.trans (B9.mono BB.out.size); clear hb0_0 hb0_1 hb0_2 hb0_3 hb0_4 hb0_5; have hb0_0 := HB0.out.cell 0 _ rfl; have hb0_1 := HB0.out.cell 1 _ rfl; have hb0_2 := HB0.out.cell 2 _ rfl; have hb0_3 := HB0.out.cell 3 _ rfl; have hb0_4 := HB0.out.cell 4 _ rfl; have hb0_5 := HB0.out.cell 5 _ rfl; clear B9; clear t2; have t3 : (1 : Nat) = 1 := rfl)
    | (have q1 := t1; go_at_call 7; refine (SP.out w1 BB.out).mono ?_; rintro e9 w2 ⟨b, off, cap, rfl, r9, B9⟩; have HB0 : Hid (Vr w2 w.heap.size [.int .i64 g0, .int .i64 g1, .int .i64 (S : Int), .int .i64 g3, .int .i64 g4, .int .i64 g5]) := HB0.out.below B9 (range_lt HB0.out.1 (Nat.succ_pos _)); have HR1 : Hid (Rws w2 b off N F) := r9; have BB : Hid (Below w.heap.size w w2) := BB.out.trans (B9.mono BB.out.size); clear hb0_0 hb0_1 hb0_2 hb0_3 hb0_4 hb0_5; have hb0_0 := HB0.out.cell 0 _ rfl; have hb0_1 := HB0.out.cell 1 _ rfl; have hb0_2 := HB0.out.cell 2 _ rfl; have hb0_3 := HB0.out.cell 3 _ rfl; have hb0_4 := HB0.out.cell 4 _ rfl; have hb0_5 := HB0.out.cell 5 _ rfl; clear B9 r9; clear t1; have t2 : (1 : Nat) = 1 := rfl)
    | (have q0 := t0; refine box_lawC _ [.int .i64 g0, .int .i64 g1, .int .i64 (S : Int), .int .i64 g3, .int .i64 g4, .int .i64 g5] rfl ?_; intro w1 X9 B9 l9; have HB0 : Hid (Vr w1 w.heap.size [.int .i64 g0, .int .i64 g1, .int .i64 (S : Int), .int .i64 g3, .int .i64 g4, .int .i64 g5]) := X9; have BB : Hid (Below w.heap.size w w1) := B9; have hb0_0 := HB0.out.cell 0 _ rfl; have hb0_1 := HB0.out.cell 1 _ rfl; have hb0_2 := HB0.out.cell 2 _ rfl; have hb0_3 := HB0.out.cell 3 _ rfl; have hb0_4 := HB0.out.cell 4 _ rfl; have hb0_5 := HB0.out.cell 5 _ rfl; clear X9 B9 l9; clear t0; have t1 : (1 : Nat) = 1 := rfl))
  have BB0 := BB
  clear BB HB0 hb0_0 hb0_1 hb0_2 hb0_3 hb0_4 hb0_5
  go_loopw [10] (fun i wr => ∃ k : Nat, k ≤ N ∧ i = .int .i64 (k : Int) ∧ Below w5.heap.size w5 wr) (fun i _ => N - (intOf i).toNat)
  case atStart => exact ⟨0, Nat.zero_le _, rfl, Below.refl _ _⟩
  case round =>
    obtain ⟨k, hk, rfl, hB⟩ := hrel
    have BR : Hid (Below w5.heap.size w5 wr) := hB
    clear hB
    by_cases hlt : k < N
    · have lk : (k : Int) < (N : Int) := by omega
      obtain ⟨u1, c1, y1⟩ := (HR1.out.below BR.out) k hlt
      obtain ⟨u2, c2, y2⟩ := (HR2.out.below BR.out) k hlt
      have C1 : Hid (∀ w', Below wr.heap.size wr w' → w'.cell? ⟨b, off + k, none⟩ = some u1) := fun w' q => (by rw [q.cell (World.block_lt_of_cell? _ _ c1)]; exact c1)
      have C2 : Hid (∀ w', Below wr.heap.size wr w' → w'.cell? ⟨b2, off2 + k, none⟩ = some u2) := fun w' q => (by rw [q.cell (World.block_lt_of_cell? _ _ c2)]; exact c2)
      have Y1 : Hid (Byt wr u1 (F k)) := y1
      have Y2 : Hid (Byt wr u2 (F k)) := y2
      clear c1 c2 y1 y2
      go_wp2
      refine wp_region_held_drew (S := fun w' => Below wr.heap.size wr w') (by kernel_rfl) (Below.refl _ _).drew (fun hS => ?_)
      obtain ⟨x1, hx0⟩ : ∃ x, x = wr.drew := ⟨_, rfl⟩
      rw [← hx0] at hS  ⊢
      clear hx0
      refine take_lawH 0 (some 63) (.slice (some ⟨b, off, none⟩) N cap) rfl rfl (by kernel_rfl) (by kernel_rfl) (by kernel_rfl) (fun _ _ _ h => h) (Or.inl ⟨by rfl, fun w' hw' => by rfl⟩) hS ?_
      simp only [Act.put, List.setIfInBounds_toArray, List.set_cons_zero, List.set_cons_succ]
      refine take_lawH 1 (some 64) (.int .i64 (k : Int)) rfl rfl (by kernel_rfl) (by kernel_rfl) (by kernel_rfl) (fun _ _ _ h => h) (Or.inl ⟨by rfl, fun w' hw' => by rfl⟩) hS ?_
      simp only [Act.put, List.setIfInBounds_toArray, List.set_cons_zero, List.set_cons_succ]
      refine take_lawH 2 (some 65) (.pointer (some ⟨b, off + k, none⟩)) rfl rfl (by kernel_rfl) (by kernel_rfl) (by kernel_rfl) (fun _ _ _ h => h) (Or.inl ⟨by rfl, fun w' hw' => by exact exec_idxR (.tmp 63) (.tmp 64) rfl b off N cap k rfl rfl hlt _⟩) hS ?_
      simp only [Act.put, List.setIfInBounds_toArray, List.set_cons_zero, List.set_cons_succ]
      refine take_lawH 3 (some 66) (u1) rfl rfl (by kernel_rfl) (by kernel_rfl) (by kernel_rfl) (fun _ _ _ h => h) (Or.inl ⟨by rfl, fun w' hw' => by exact exec_loadN 24 (.tmp 65) rfl _ rfl _ _ (load_one one_bytes (C1.out _ hw'))⟩) hS ?_
      simp only [Act.put, List.setIfInBounds_toArray, List.set_cons_zero, List.set_cons_succ]
      refine take_lawH 4 (some 67) (.slice (some ⟨b2, off2, none⟩) N cap2) rfl rfl (by kernel_rfl) (by kernel_rfl) (by kernel_rfl) (fun _ _ _ h => h) (Or.inl ⟨by rfl, fun w' hw' => by rfl⟩) hS ?_
      simp only [Act.put, List.setIfInBounds_toArray, List.set_cons_zero, List.set_cons_succ]
      refine take_lawH 5 (some 68) (.int .i64 (k : Int)) rfl rfl (by kernel_rfl) (by kernel_rfl) (by kernel_rfl) (fun _ _ _ h => h) (Or.inl ⟨by rfl, fun w' hw' => by rfl⟩) hS ?_
      simp only [Act.put, List.setIfInBounds_toArray, List.set_cons_zero, List.set_cons_succ]
      refine take_lawH 6 (some 69) (.pointer (some ⟨b2, off2 + k, none⟩)) rfl rfl (by kernel_rfl) (by kernel_rfl) (by kernel_rfl) (fun _ _ _ h => h) (Or.inl ⟨by rfl, fun w' hw' => by exact exec_idxR (.tmp 67) (.tmp 68) rfl b2 off2 N cap2 k rfl rfl hlt _⟩) hS ?_
      simp only [Act.put, List.setIfInBounds_toArray, List.set_cons_zero, List.set_cons_succ]
      refine take_lawH 7 (some 70) (u2) rfl rfl (by kernel_rfl) (by kernel_rfl) (by kernel_rfl) (fun _ _ _ h => h) (Or.inl ⟨by rfl, fun w' hw' => by exact exec_loadN 24 (.tmp 69) rfl _ rfl _ _ (load_one one_bytes (C2.out _ hw'))⟩) hS ?_
      simp only [Act.put, List.setIfInBounds_toArray, List.set_cons_zero, List.set_cons_succ]
      refine wpAnyH_ready (rs := [8]) (by kernel_rfl) (by simp) ?_
      refine AllReadyH.cons rfl (fun K hK => ?_) AllReadyH.nil
      refine step_callW _ (by rfl) (some 71) rfl 12 #[.tmp 66, .tmp 70] #[24, 24] rfl (fun q w' => by rfl) #[u1, u2] (by simp only [List.map_toArray, List.map_cons, List.map_nil]; rfl) (fun z9 w' => z9 = .bool true ∧ Below x1.heap.size x1 w') ?_ ?_
      · exact (he.same_yes x1 _ _ (F k) (Y1.out.below hS) (Y2.out.below hS)).mono fun e w' ⟨h1, h2⟩ => ⟨_, h1, rfl, h2⟩
      rintro _ x2 ⟨rfl, hb⟩
      have hS : Below wr.heap.size wr x2 := hS.trans (hb.mono hS.size)
      clear hb
      refine hK.out _ _ hS (fun _ => ?_)
      simp only [Act.put, List.setIfInBounds_toArray, List.set_cons_zero, List.set_cons_succ]
      clear hK K
      refine take_lawH 9 (some 72) (.bool false) rfl rfl (by kernel_rfl) (by kernel_rfl) (by kernel_rfl) (fun _ _ _ h => h) (Or.inl ⟨by rfl, fun w' hw' => by rfl⟩) hS ?_
      simp only [Act.put, List.setIfInBounds_toArray, List.set_cons_zero, List.set_cons_succ]
      refine wpAnyH_done (by kernel_rfl) ?_ _
      have BZ : Hid (Below w5.heap.size w5 x2) := BR.out.trans (hS.mono BR.out.size)
      clear hS
      go_wp2
      go_roundw
      case rel => exact ⟨k + 1, by omega, by go_num, BZ.out⟩
      case measure => simp [intOf]; omega
    · have lk : ¬ ((k : Int) < (N : Int)) := by omega
      have t0 : (0 : Nat) = 0 := rfl
      go_wp2_with (first
        | (have q0 := t0; go_at_call 9; refine (SW.out wr (BB0.out.trans (BR.out.mono BB0.out.size))).mono ?_; rintro e9 w41 ⟨rfl, B9⟩; have BB : Hid (Below wr.heap.size wr w41) := B9; clear B9; clear t0; have t1 : (1 : Nat) = 1 := rfl))
      go_ret
      exact ⟨rfl, (BB0.out.trans (BR.out.mono BB0.out.size)).trans (BB.out.mono (Nat.le_trans BB0.out.size BR.out.size))⟩

theorem walk (g : List Int) (v : Value) (xs : List Int) (gen : Int) (w : World) (hl : g.length = 6) (hb : Byt w v xs) (hg : 0 ≤ gen ∧ gen ≤ 18446744073709551615) (hT : Tab w) :
    Calls Tryd.prog 3 #[.agg (ints .i64 g), v, .int .u64 gen] w fun x w' => x = .returned (.bool true) ∧ Below w.heap.size w w' := by
  obtain ⟨g0, g1, g2, g3, g4, g5, rfl⟩ := geo_six g hl
  by_cases hr : ge.Rt [g0, g1, g2, g3, g4, g5]
  · obtain ⟨S, rfl, s1, s2⟩ := sec_of hr
    by_cases hx : xs.length = 624
    · by_cases hs : (S : Int) ≤ 700
      · exact walk_near g0 g1 g3 g4 g5 S v xs gen w hb hg hT hr hx hs
      · exact walk_far g0 g1 g3 g4 g5 S v xs gen w hb hg hT hr hx hs
    · exact walk_len g0 g1 g3 g4 g5 S v xs gen w hb hT hr hx
  · exact walk_geo g0 g1 g2 g3 g4 g5 v gen w hT hr

theorem params : ∀ t ∈ Tryd.f3.params.toList, Tryd.prog.readableRec t = true ∧ t < Tryd.prog.types.size := by
  rw [Tryd.params3]
  intro t ht
  simp at ht
  rcases ht with rfl | rfl | rfl
  · exact ⟨by kernel_rfl, of_decide_eq_true (by kernel_rfl)⟩
  · exact ⟨by kernel_rfl, of_decide_eq_true (by kernel_rfl)⟩
  · exact ⟨by kernel_rfl, of_decide_eq_true (by kernel_rfl)⟩

theorem contract (H : Type) (enc : TypeId × Value → H) (W : World) (base : Nat) (args : Array Value) (ds gs : List (DataW H)) (before : List MemPlace)
    (hval : ∀ (j : Nat) t v, Tryd.f3.params[j]? = some t → args[j]? = some v → Value.okWide Tryd.prog W .any base t v)
    (hW : DataW.Whole enc Tryd.prog Tryd.f3.params.toList Rows.chunkPagesSpec.vars false W args.toList ds gs before) (hL : laidMetH Tryd.prog Rows.chunkPagesRow.laid W) :
    Calls Tryd.prog 3 args W fun e W' => ∃ v, e = .returned v ∧ Rows.chunkPagesSpec.post enc Tryd.prog Tryd.f3 false true false false W args v W' := by
  have hW' := hW
  obtain ⟨p, q, hA0, hV, rfl, hfz, hnd⟩ := hW
  have hA : DataW.TrodAll enc Tryd.prog W 0 (fun _ => true) true Tryd.f3.params.toList args.toList ds p := hA0
  rw [Tryd.params3] at hA hval
  obtain ⟨v0, v1, v2, d0, d1, d2, p0, p1, p2, rfl, rfl, rfl, h0, h1, h2⟩ := trodAll_three hA
  obtain ⟨rfl, rfl⟩ := trodVars_none hV
  obtain ⟨g0, rfl, n0⟩ := ge.geo_open (hval 0 23 v0 rfl rfl) h0
  obtain ⟨xs1, b1⟩ := byt_open (hval 1 24 v1 rfl rfl) h1
  obtain ⟨x2, rfl, rfl, rfl, w2⟩ := open_int Tryd.underlying25 (hval 2 25 v2 rfl rfl) h2
  clear hA0
  refine (walk g0 v1 xs1 x2 W n0 b1 (bounds_u64 w2) (table hL)).mono fun e W' ⟨he, hg⟩ => ?_
  subst he
  exact ⟨_, rfl, post_law rfl (by kernel_rfl) params rfl rfl rfl hW' hg⟩

theorem laid_met (os : Os) : laidMet Tryd.prog Rows.chunkPagesRow.laid (({ World.holding Tryd.prog os ⟨#[], #[], []⟩ with heap := (World.holding Tryd.prog os ⟨#[], #[], []⟩).heap.modify 0 fun | .cells _ t frozen => .cells #[.int .i64 1, .int .i64 1, .int .i64 1, .int .i64 1, .int .i64 4, .int .i64 8, .int .i64 8] t frozen | o => o } : World).forCall (fun _ _ => 0) ⟨#[], #[.agg #[.int .i64 0, .int .i64 0, .int .i64 0, .int .i64 0, .int .i64 0, .int .i64 0], .slice none 0 0, .int .u64 0], []⟩).memory :=
  laidMet_of_run' 8 (by kernel_rfl) (by kernel_rfl)
theorem reads (os : Os) {H : Type} (enc : TypeId × Value → H) : ∃ places, DataW.whole enc Tryd.prog (({ World.holding Tryd.prog os ⟨#[], #[], []⟩ with heap := (World.holding Tryd.prog os ⟨#[], #[], []⟩).heap.modify 0 fun | .cells _ t frozen => .cells #[.int .i64 1, .int .i64 1, .int .i64 1, .int .i64 1, .int .i64 4, .int .i64 8, .int .i64 8] t frozen | o => o } : World).forCall (fun _ _ => 0) ⟨#[], #[.agg #[.int .i64 0, .int .i64 0, .int .i64 0, .int .i64 0, .int .i64 0, .int .i64 0], .slice none 0 0, .int .u64 0], []⟩).memory Tryd.f3.params.toList Rows.chunkPagesSpec.vars false #[Value.agg #[.int .i64 0, .int .i64 0, .int .i64 0, .int .i64 0, .int .i64 0, .int .i64 0], Value.slice none 0 0, Value.int .u64 0].toList 8 = some ([.agg [.lit (.int .i64 0), .lit (.int .i64 0), .lit (.int .i64 0), .lit (.int .i64 0), .lit (.int .i64 0), .lit (.int .i64 0)], .nil, .lit (.int .u64 0)], [], places) :=
  ⟨[], by kernel_rfl⟩

set_option maxRecDepth 100000 in
theorem lifted (os : Os) (started : os.Started) (H : Type) (enc : TypeId × Value → H) (F : Stop.Interp) :
    ReturnsInHanded {} Tryd.checked os 3 .any ((OpenSpec.ofChange Rows.chunkPagesSpec).preRow enc Tryd.prog Tryd.f3 Rows.chunkPagesRow.domain false Rows.chunkPagesRow.laid) (((OpenSpec.ofChange Rows.chunkPagesSpec).at F).post enc Tryd.prog Tryd.f3 false true false false) := by
  obtain ⟨places, hx⟩ := reads os enc
  refine returnsInHanded_of_row (C := Tryd.checked) (s := OpenSpec.ofChange Rows.chunkPagesSpec) own started (by kernel_rfl) Tryd.func3
    (witness_row_at (enc := enc) (C := Tryd.checked) false ({ World.holding Tryd.prog os ⟨#[], #[], []⟩ with heap := (World.holding Tryd.prog os ⟨#[], #[], []⟩).heap.modify 0 fun | .cells _ t frozen => .cells #[.int .i64 1, .int .i64 1, .int .i64 1, .int .i64 1, .int .i64 4, .int .i64 8, .int .i64 8] t frozen | o => o } : World) #[.agg #[.int .i64 0, .int .i64 0, .int .i64 0, .int .i64 0, .int .i64 0, .int .i64 0], .slice none 0 0, .int .u64 0] rfl (by kernel_rfl) (by kernel_rfl) (by kernel_rfl)
      (OpenSpec.preRow_of_cond 8 hx (by kernel_rfl) (fun k hk => by cases hk) (by kernel_rfl) (laid_met os))) ?_
  intro W base args ds gs before hval hW _ _ _ hL _ _
  exact contract H enc W base args ds gs before hval hW hL

theorem said : Rows.ChunkPagesSaid :=
  OpenClaim.holds_of_cond 3 Tryd.f3 rfl rfl rfl rfl rfl rfl rfl ⟨rfl, rfl, rfl, rfl, rfl⟩ rfl rfl rfl rfl rfl (by kernel_rfl) Tryd.func3 (by kernel_rfl)
    (of_decide_eq_true (by kernel_rfl)) (by unfold Func.isWrapper; first | (rw [if_pos (by decide +kernel)]; kernel_rfl) | (rw [if_neg (by decide +kernel)]; exact ⟨rfl, rfl⟩))
    (fun os started H enc _ F => by rw [OpenClaim.pre_eq_preRow]; exact lifted os started H enc F)

theorem plain (f : FuncId) (fn : Func) (hf : Tryd.pinned.checked.prog.funcNamed "nepenthe/nepenthelaw19.ChunkPages" = some f) (hfn : Tryd.pinned.checked.prog.funcs[f]? = some fn) :
    false = Tryd.pinned.checked.prog.looks [] ∧ ∀ (j : Nat) t, fn.params[j]? = some t → Tryd.pinned.checked.prog.wantsStandIn t = false := by
  obtain rfl : f = 3 := Option.some.inj ((show Tryd.prog.funcNamed "nepenthe/nepenthelaw19.ChunkPages" = some 3 by kernel_rfl).symm.trans hf) |>.symm
  obtain rfl : fn = Tryd.f3 := (Option.some.inj (Tryd.func3.symm.trans hfn)).symm
  refine ⟨by kernel_rfl, fun j t ht => ?_⟩
  rw [Tryd.params3] at ht
  have hm := Array.mem_of_getElem? ht
  simp at hm
  rcases hm with rfl | rfl | rfl
  · exact (show Tryd.prog.wantsStandIn 23 = false by kernel_rfl)
  · exact (show Tryd.prog.wantsStandIn 24 = false by kernel_rfl)
  · exact (show Tryd.prog.wantsStandIn 25 = false by kernel_rfl)
end Go.Proofs.YtahfcpdekjdceaaDoor.chunkPages

namespace Go.Proofs.YtahfcpdekjdceaaDoor
theorem chunkPages_card : Rows.ChunkPagesCardSaid :=
  Claim7.holds_tied_plain_at .later [] _ _ _ _ chunkPages.said (fun _ h => by cases h) (by kernel_rfl) (fun _ h => by cases h) chunkPages_row_tie rfl ⟨rfl, rfl⟩ (by kernel_rfl) rfl chunkPages.plain (by kernel_rfl)
#print axioms chunkPages_card
end Go.Proofs.YtahfcpdekjdceaaDoor
