/- Any operations, of which the first twenty are done, with any plan that is right, on an array of a right geometry that is small: each answer, all bytes behind them, how many operations there were, and how often each block was erased, is as the document says; an array that is not right is refused. Of greater ones: the program answers. No condition. -/
import Derived.Test.YtoohbigedblklaaPk32
import Derived.Test.YtoohbigedblklaaPk31
import Derived.Test.YtoohbigedblklaaPk02
namespace Go.Proofs.Ytoohbigedblklaa.na
open Go.RowKit Go.Proofs.Ytoohbigedblklaa.fa
set_option maxRecDepth 20000
set_option maxHeartbeats 4000000 in
theorem run_A (g0 g1 g2 g3 g4 g5 : Int) (po so : Option Addr) (pc sc : Nat) (fs : List (Int × Bool × Value)) (ms : Nat → List Int) (ts : List Stp) (w : World) (hf : Fls w (.slice po fs.length pc) fs) (hm : Mks w fs ms) (hr : ¬ ge.Rt [g0, g1, g2, g3, g4, g5]) :
  Calls Try.prog 3 #[.agg ([.int .i64 g0, .int .i64 g1, .int .i64 g2, .int .i64 g3, .int .i64 g4, .int .i64 g5, .slice po fs.length pc, .slice so ts.length sc] : List Value).toArray] w fun e w' => e = .returned (.bool true) ∧ Below w.heap.size w w' := by
 have SG : Hid (∀ w0, Calls Try.prog 9 #[.agg (ints .i64 [g0, g1, g2, g3, g4, g5])] w0 fun x w' => x = .returned (.bool false) ∧ Below w0.heap.size w0 w') := ge.right_no [g0, g1, g2, g3, g4, g5] rfl hr
 have SN : Hid (∀ w0, Below w.heap.size w w0 → Calls Try.prog 8 #[.agg (ints .i64 [g0, g1, g2, g3, g4, g5]), .slice po fs.length pc] w0 fun e w' => e = .returned (.tuple #[.pointer none, .int .i64 2]) ∧ Below w0.heap.size w0 w') := fun w0 hb => new_no [g0, g1, g2, g3, g4, g5] rfl _ fs ms w0 (hf.below hb) (hm.below hb) fun q => hr q.1
 clear hr hf hm
 have t0 : (0 : Nat) = 0 := rfl
 go_enter Try.func3, Try.ntmps3
 go_wp2_with (first
  | (have q3 := t3; go_at_call 11; refine (awake_any w3).mono ?_; rintro e9 w4 ⟨rfl, B9⟩; have HB0 := hdH (HB0.out.below B9 (range_lt HB0.out.1 (Nat.succ_pos _))); have BB := bT BB B9; clear hb0_0 hb0_1 hb0_2 hb0_3 hb0_4 hb0_5 hb0_6 hb0_7; obtain ⟨hb0_0, hb0_1, hb0_2, hb0_3, hb0_4, hb0_5, hb0_6, hb0_7⟩ := vK8 HB0.out; clear B9; clear t3; have t4 : (1 : Nat) = 1 := rfl)
  | (have q2 := t2; go_at_call 9; refine (SG.out w2).mono ?_; rintro e9 w3 ⟨rfl, B9⟩; have HB0 := hdH (HB0.out.below B9 (range_lt HB0.out.1 (Nat.succ_pos _))); have BB := bT BB B9; clear hb0_0 hb0_1 hb0_2 hb0_3 hb0_4 hb0_5 hb0_6 hb0_7; obtain ⟨hb0_0, hb0_1, hb0_2, hb0_3, hb0_4, hb0_5, hb0_6, hb0_7⟩ := vK8 HB0.out; clear B9; clear t2; have t3 : (1 : Nat) = 1 := rfl)
  | (have q1 := t1; go_at_call 8; refine (SN.out w1 BB.out).mono ?_; rintro e9 w2 ⟨rfl, B9⟩; have HB0 := hdH (HB0.out.below B9 (range_lt HB0.out.1 (Nat.succ_pos _))); have BB := bT BB B9; clear hb0_0 hb0_1 hb0_2 hb0_3 hb0_4 hb0_5 hb0_6 hb0_7; obtain ⟨hb0_0, hb0_1, hb0_2, hb0_3, hb0_4, hb0_5, hb0_6, hb0_7⟩ := vK8 HB0.out; clear B9; clear t1; have t2 : (1 : Nat) = 1 := rfl)
  | (have q0 := t0; refine box_lawC _ [.int .i64 g0, .int .i64 g1, .int .i64 g2, .int .i64 g3, .int .i64 g4, .int .i64 g5, .slice po fs.length pc, .slice so ts.length sc] rfl ?_; intro w1 X9 B9 l9; have HB0 := hdH (X9); have BB := hdH (B9); obtain ⟨hb0_0, hb0_1, hb0_2, hb0_3, hb0_4, hb0_5, hb0_6, hb0_7⟩ := vK8 HB0.out; clear X9 B9 l9; clear t0; have t1 : (1 : Nat) = 1 := rfl))
 go_ret
 exact ⟨rfl, BB.out⟩
set_option maxHeartbeats 4000000 in
theorem run_B (g0 g1 g2 g3 g4 g5 : Int) (po so : Option Addr) (pc sc : Nat) (fs : List (Int × Bool × Value)) (ms : Nat → List Int) (ts : List Stp) (w : World) (hf : Fls w (.slice po fs.length pc) fs) (hm : Mks w fs ms) (hr : ge.Rt [g0, g1, g2, g3, g4, g5]) (hk : ¬ (fs.length ≤ 64 ∧ Okp fs ms fs.length)) :
  Calls Try.prog 3 #[.agg ([.int .i64 g0, .int .i64 g1, .int .i64 g2, .int .i64 g3, .int .i64 g4, .int .i64 g5, .slice po fs.length pc, .slice so ts.length sc] : List Value).toArray] w fun e w' => e = .returned (.bool true) ∧ Below w.heap.size w w' := by
 have SG : Hid (∀ w0, Calls Try.prog 9 #[.agg (ints .i64 [g0, g1, g2, g3, g4, g5])] w0 fun x w' => x = .returned (.bool true) ∧ Below w0.heap.size w0 w') := ge.right_yes [g0, g1, g2, g3, g4, g5] rfl hr
 have SU : Hid (∀ w0, Below w.heap.size w w0 → Calls Try.prog 10 #[.slice po fs.length pc] w0 fun x w' => x = .returned (.bool false) ∧ Below w0.heap.size w0 w') := fun w0 hb => (rright_any _ fs ms w0 (hf.below hb) (hm.below hb) false (by simpa using hk)).mono fun _ _ ⟨h1, n, h2⟩ => ⟨h1, by rw [h2]; exact below_drewN (Below.refl _ _) n⟩
 have SN : Hid (∀ w0, Below w.heap.size w w0 → Calls Try.prog 8 #[.agg (ints .i64 [g0, g1, g2, g3, g4, g5]), .slice po fs.length pc] w0 fun e w' => e = .returned (.tuple #[.pointer none, .int .i64 2]) ∧ Below w0.heap.size w0 w') := fun w0 hb => new_no [g0, g1, g2, g3, g4, g5] rfl _ fs ms w0 (hf.below hb) (hm.below hb) fun q => hk q.2
 clear hr hk hf hm
 have t0 : (0 : Nat) = 0 := rfl
 go_enter Try.func3, Try.ntmps3
 go_wp2_with (first
  | (have q4 := t4; go_at_call 11; refine (awake_any w4).mono ?_; rintro e9 w5 ⟨rfl, B9⟩; have HB0 := hdH (HB0.out.below B9 (range_lt HB0.out.1 (Nat.succ_pos _))); have BB := bT BB B9; clear hb0_0 hb0_1 hb0_2 hb0_3 hb0_4 hb0_5 hb0_6 hb0_7; obtain ⟨hb0_0, hb0_1, hb0_2, hb0_3, hb0_4, hb0_5, hb0_6, hb0_7⟩ := vK8 HB0.out; clear B9; clear t4; have t5 : (1 : Nat) = 1 := rfl)
  | (have q3 := t3; go_at_call 10; refine (SU.out w3 BB.out).mono ?_; rintro e9 w4 ⟨rfl, B9⟩; have HB0 := hdH (HB0.out.below B9 (range_lt HB0.out.1 (Nat.succ_pos _))); have BB := bT BB B9; clear hb0_0 hb0_1 hb0_2 hb0_3 hb0_4 hb0_5 hb0_6 hb0_7; obtain ⟨hb0_0, hb0_1, hb0_2, hb0_3, hb0_4, hb0_5, hb0_6, hb0_7⟩ := vK8 HB0.out; clear B9; clear t3; have t4 : (1 : Nat) = 1 := rfl)
  | (have q2 := t2; go_at_call 9; refine (SG.out w2).mono ?_; rintro e9 w3 ⟨rfl, B9⟩; have HB0 := hdH (HB0.out.below B9 (range_lt HB0.out.1 (Nat.succ_pos _))); have BB := bT BB B9; clear hb0_0 hb0_1 hb0_2 hb0_3 hb0_4 hb0_5 hb0_6 hb0_7; obtain ⟨hb0_0, hb0_1, hb0_2, hb0_3, hb0_4, hb0_5, hb0_6, hb0_7⟩ := vK8 HB0.out; clear B9; clear t2; have t3 : (1 : Nat) = 1 := rfl)
  | (have q1 := t1; go_at_call 8; refine (SN.out w1 BB.out).mono ?_; rintro e9 w2 ⟨rfl, B9⟩; have HB0 := hdH (HB0.out.below B9 (range_lt HB0.out.1 (Nat.succ_pos _))); have BB := bT BB B9; clear hb0_0 hb0_1 hb0_2 hb0_3 hb0_4 hb0_5 hb0_6 hb0_7; obtain ⟨hb0_0, hb0_1, hb0_2, hb0_3, hb0_4, hb0_5, hb0_6, hb0_7⟩ := vK8 HB0.out; clear B9; clear t1; have t2 : (1 : Nat) = 1 := rfl)
  | (have q0 := t0; refine box_lawC _ [.int .i64 g0, .int .i64 g1, .int .i64 g2, .int .i64 g3, .int .i64 g4, .int .i64 g5, .slice po fs.length pc, .slice so ts.length sc] rfl ?_; intro w1 X9 B9 l9; have HB0 := hdH (X9); have BB := hdH (B9); obtain ⟨hb0_0, hb0_1, hb0_2, hb0_3, hb0_4, hb0_5, hb0_6, hb0_7⟩ := vK8 HB0.out; clear X9 B9 l9; clear t0; have t1 : (1 : Nat) = 1 := rfl))
 go_ret
 exact ⟨rfl, BB.out⟩
set_option maxHeartbeats 4000000 in
theorem run_C (N P S : Nat) (g2 g3 g4 g5 : Int) (hs : Shp [(N : Int), P, g2, g3, g4, g5] N P S) (po so : Option Addr) (pc sc : Nat) (fs : List (Int × Bool × Value)) (ms : Nat → List Int) (ts : List Stp) (w : World) (hf : Fls w (.slice po fs.length pc) fs) (hm : Mks w fs ms) (hk : fs.length ≤ 64 ∧ Okp fs ms fs.length) (hl : ¬ ((N : Int) ≤ 16 ∧ (P : Int) ≤ 20 ∧ g2 ≤ 128)) :
  Calls Try.prog 3 #[.agg ([.int .i64 (N : Int), .int .i64 (P : Int), .int .i64 g2, .int .i64 g3, .int .i64 g4, .int .i64 g5, .slice po fs.length pc, .slice so ts.length sc] : List Value).toArray] w fun e w' => e = .returned (.bool true) ∧ Below w.heap.size w w' := by
 have hr := hs.2.1
 have SG : Hid (∀ w0, Calls Try.prog 9 #[.agg (ints .i64 [(N : Int), P, g2, g3, g4, g5])] w0 fun x w' => x = .returned (.bool true) ∧ Below w0.heap.size w0 w') := ge.right_yes [(N : Int), P, g2, g3, g4, g5] rfl hr
 have SU : Hid (∀ w0, Below w.heap.size w w0 → Calls Try.prog 10 #[.slice po fs.length pc] w0 fun x w' => x = .returned (.bool true) ∧ Below w0.heap.size w0 w') := fun w0 hb => (rright_any _ fs ms w0 (hf.below hb) (hm.below hb) true (by simpa using hk)).mono fun _ _ ⟨h1, n, h2⟩ => ⟨h1, by rw [h2]; exact below_drewN (Below.refl _ _) n⟩
 have SL : Hid (∀ w0, Calls Try.prog 12 #[.agg (ints .i64 [(N : Int), P, g2, g3, g4, g5])] w0 fun x w' => x = .returned (.bool false) ∧ Below w0.heap.size w0 w') := fun w0 => light_any N P g2 g3 g4 g5 w0 _ (by simp at hl ⊢; exact hl)
 have SN : Hid (∀ w0, Below w.heap.size w w0 → Calls Try.prog 8 #[.agg (ints .i64 [(N : Int), P, g2, g3, g4, g5]), .slice po fs.length pc] w0 (Made w0 [(N : Int), P, g2, g3, g4, g5] N P S (plnOf fs ms))) := fun w0 hb => new_yes g2 g3 g4 g5 N P S hs _ fs ms w0 (hf.below hb) (hm.below hb) hk.1 hk.2
 clear hr hs hf hm hk hl
 have t0 : (0 : Nat) = 0 := rfl
 go_enter Try.func3, Try.ntmps3
 go_wp2_with (first
  | (have q5 := t5; go_at_call 11; refine (awake_any w5).mono ?_; rintro e9 w6 ⟨rfl, B9⟩; have HB0 := hdH (HB0.out.below B9 (range_lt HB0.out.1 (Nat.succ_pos _))); have BB := bT BB B9; clear hb0_0 hb0_1 hb0_2 hb0_3 hb0_4 hb0_5 hb0_6 hb0_7; obtain ⟨hb0_0, hb0_1, hb0_2, hb0_3, hb0_4, hb0_5, hb0_6, hb0_7⟩ := vK8 HB0.out; clear B9; clear t5; have t6 : (1 : Nat) = 1 := rfl)
  | (have q4 := t4; go_at_call 12; refine (SL.out w4).mono ?_; rintro e9 w5 ⟨rfl, B9⟩; have HB0 := hdH (HB0.out.below B9 (range_lt HB0.out.1 (Nat.succ_pos _))); have BB := bT BB B9; clear hb0_0 hb0_1 hb0_2 hb0_3 hb0_4 hb0_5 hb0_6 hb0_7; obtain ⟨hb0_0, hb0_1, hb0_2, hb0_3, hb0_4, hb0_5, hb0_6, hb0_7⟩ := vK8 HB0.out; clear B9; clear t4; have t5 : (1 : Nat) = 1 := rfl)
  | (have q3 := t3; go_at_call 10; refine (SU.out w3 BB.out).mono ?_; rintro e9 w4 ⟨rfl, B9⟩; have HB0 := hdH (HB0.out.below B9 (range_lt HB0.out.1 (Nat.succ_pos _))); have BB := bT BB B9; clear hb0_0 hb0_1 hb0_2 hb0_3 hb0_4 hb0_5 hb0_6 hb0_7; obtain ⟨hb0_0, hb0_1, hb0_2, hb0_3, hb0_4, hb0_5, hb0_6, hb0_7⟩ := vK8 HB0.out; clear B9; clear t3; have t4 : (1 : Nat) = 1 := rfl)
  | (have q2 := t2; go_at_call 9; refine (SG.out w2).mono ?_; rintro e9 w3 ⟨rfl, B9⟩; have HB0 := hdH (HB0.out.below B9 (range_lt HB0.out.1 (Nat.succ_pos _))); have BB := bT BB B9; clear hb0_0 hb0_1 hb0_2 hb0_3 hb0_4 hb0_5 hb0_6 hb0_7; obtain ⟨hb0_0, hb0_1, hb0_2, hb0_3, hb0_4, hb0_5, hb0_6, hb0_7⟩ := vK8 HB0.out; clear B9; clear t2; have t3 : (1 : Nat) = 1 := rfl)
  | (have q1 := t1; go_at_call 8; refine (SN.out w1 BB.out).mono ?_; rintro e9 w2 ⟨M, c, r, d, q, pv, tv, rfl, L9, M9, G9, B9⟩; have HB0 := hdH (HB0.out.below B9 (range_lt HB0.out.1 (Nat.succ_pos _))); have BB := bT BB B9; clear hb0_0 hb0_1 hb0_2 hb0_3 hb0_4 hb0_5 hb0_6 hb0_7; obtain ⟨hb0_0, hb0_1, hb0_2, hb0_3, hb0_4, hb0_5, hb0_6, hb0_7⟩ := vK8 HB0.out; clear B9 L9 M9 G9; clear t1; have t2 : (1 : Nat) = 1 := rfl)
  | (have q0 := t0; refine box_lawC _ [.int .i64 (N : Int), .int .i64 (P : Int), .int .i64 g2, .int .i64 g3, .int .i64 g4, .int .i64 g5, .slice po fs.length pc, .slice so ts.length sc] rfl ?_; intro w1 X9 B9 l9; have HB0 := hdH (X9); have BB := hdH (B9); obtain ⟨hb0_0, hb0_1, hb0_2, hb0_3, hb0_4, hb0_5, hb0_6, hb0_7⟩ := vK8 HB0.out; clear X9 B9 l9; clear t0; have t1 : (1 : Nat) = 1 := rfl))
 go_ret
 exact ⟨rfl, BB.out⟩
set_option maxHeartbeats 8000000 in
theorem run_D (N P S : Nat) (g2 g3 g4 g5 : Int) (hs : Shp [(N : Int), P, g2, g3, g4, g5] N P S) (po so : Option Addr) (pc sc : Nat) (fs : List (Int × Bool × Value)) (ms : Nat → List Int) (ts : List Stp) (w : World) (hf : Fls w (.slice po fs.length pc) fs) (hm : Mks w fs ms) (hk : fs.length ≤ 64 ∧ Okp fs ms fs.length) (hl : (N : Int) ≤ 16 ∧ (P : Int) ≤ 20 ∧ g2 ≤ 128) (hst : Stps w (.slice so ts.length sc) ts) :
  Calls Try.prog 3 #[.agg ([.int .i64 (N : Int), .int .i64 (P : Int), .int .i64 g2, .int .i64 g3, .int .i64 g4, .int .i64 g5, .slice po fs.length pc, .slice so ts.length sc] : List Value).toArray] w fun e w' => e = .returned (.bool true) ∧ Below w.heap.size w w' := by
 have HSH := hdH (hs)
 have HF := hdH (hf)
 have HMK := hdH (hm)
 have HK := hdH (hk)
 have HST : Hid (Stps w (.slice so ts.length sc) ts) := hst
 have HN6 : Hid (N ≤ 64) := (by have := shp_num hs; show N ≤ 64; omega)
 have hr := hs.2.1
 have SG : Hid (∀ w0, Calls Try.prog 9 #[.agg (ints .i64 [(N : Int), P, g2, g3, g4, g5])] w0 fun x w' => x = .returned (.bool true) ∧ Below w0.heap.size w0 w') := ge.right_yes [(N : Int), P, g2, g3, g4, g5] rfl hr
 have SU : Hid (∀ w0, Below w.heap.size w w0 → Calls Try.prog 10 #[.slice po fs.length pc] w0 fun x w' => x = .returned (.bool true) ∧ Below w0.heap.size w0 w') := fun w0 hb => (rright_any _ fs ms w0 (hf.below hb) (hm.below hb) true (by simpa using hk)).mono fun _ _ ⟨h1, n, h2⟩ => ⟨h1, by rw [h2]; exact below_drewN (Below.refl _ _) n⟩
 have SL : Hid (∀ w0, Calls Try.prog 12 #[.agg (ints .i64 [(N : Int), P, g2, g3, g4, g5])] w0 fun x w' => x = .returned (.bool true) ∧ Below w0.heap.size w0 w') := fun w0 => light_any N P g2 g3 g4 g5 w0 _ (by simp [hl])
 have SN : Hid (∀ w0, Below w.heap.size w w0 → Calls Try.prog 8 #[.agg (ints .i64 [(N : Int), P, g2, g3, g4, g5]), .slice po fs.length pc] w0 (Made w0 [(N : Int), P, g2, g3, g4, g5] N P S (plnOf fs ms))) := fun w0 hb => new_yes g2 g3 g4 g5 N P S hs _ fs ms w0 (hf.below hb) (hm.below hb) hk.1 hk.2
 clear hr hs hf hm hk hl hst
 have t0 : (0 : Nat) = 0 := rfl
 go_enter Try.func3, Try.ntmps3
 go_wp2_with (first
  | (have q4 := t4; go_at_call 12; refine (SL.out w4).mono ?_; rintro e9 w5 ⟨rfl, B9⟩; have HB0 := hdH (HB0.out.below B9 (range_lt HB0.out.1 (Nat.succ_pos _))); have BB := bT BB B9; have BN := bT BN B9; have HL := hdH (HL.out.below B9); have HMM : Hid (Mlt M w5) := (fun k hk => Nat.lt_of_lt_of_le (HMM.out k hk) B9.size); clear hb0_0 hb0_1 hb0_2 hb0_3 hb0_4 hb0_5 hb0_6 hb0_7; obtain ⟨hb0_0, hb0_1, hb0_2, hb0_3, hb0_4, hb0_5, hb0_6, hb0_7⟩ := vK8 HB0.out; clear B9; clear t4; have t5 : (1 : Nat) = 1 := rfl)
  | (have q3 := t3; go_at_call 10; refine (SU.out w3 BB.out).mono ?_; rintro e9 w4 ⟨rfl, B9⟩; have HB0 := hdH (HB0.out.below B9 (range_lt HB0.out.1 (Nat.succ_pos _))); have BB := bT BB B9; have BN := bT BN B9; have HL := hdH (HL.out.below B9); have HMM : Hid (Mlt M w4) := (fun k hk => Nat.lt_of_lt_of_le (HMM.out k hk) B9.size); clear hb0_0 hb0_1 hb0_2 hb0_3 hb0_4 hb0_5 hb0_6 hb0_7; obtain ⟨hb0_0, hb0_1, hb0_2, hb0_3, hb0_4, hb0_5, hb0_6, hb0_7⟩ := vK8 HB0.out; clear B9; clear t3; have t4 : (1 : Nat) = 1 := rfl)
  | (have q2 := t2; go_at_call 9; refine (SG.out w2).mono ?_; rintro e9 w3 ⟨rfl, B9⟩; have HB0 := hdH (HB0.out.below B9 (range_lt HB0.out.1 (Nat.succ_pos _))); have BB := bT BB B9; have BN := bT BN B9; have HL := hdH (HL.out.below B9); have HMM : Hid (Mlt M w3) := (fun k hk => Nat.lt_of_lt_of_le (HMM.out k hk) B9.size); clear hb0_0 hb0_1 hb0_2 hb0_3 hb0_4 hb0_5 hb0_6 hb0_7; obtain ⟨hb0_0, hb0_1, hb0_2, hb0_3, hb0_4, hb0_5, hb0_6, hb0_7⟩ := vK8 HB0.out; clear B9; clear t2; have t3 : (1 : Nat) = 1 := rfl)
  | (have q1 := t1; go_at_call 8; refine (SN.out w1 BB.out).mono ?_; rintro e9 w2 ⟨M, c, r, d, q, pv, tv, rfl, L9, M9, G9, B9⟩; have BW1 := hdH (BB.out); have LW1 : Hid (w.heap.size < w1.heap.size) := range_lt HB0.out.1 (Nat.succ_pos _); have HB0 := hdH (HB0.out.below B9 (range_lt HB0.out.1 (Nat.succ_pos _))); have BB := bT BB B9; have BN := hdH (B9); have HL := hdH (L9); have HMM := hdH (M9); have HG0 := hdH (G9); clear hb0_0 hb0_1 hb0_2 hb0_3 hb0_4 hb0_5 hb0_6 hb0_7; obtain ⟨hb0_0, hb0_1, hb0_2, hb0_3, hb0_4, hb0_5, hb0_6, hb0_7⟩ := vK8 HB0.out; clear B9 L9 M9 G9; clear t1; have t2 : (1 : Nat) = 1 := rfl)
  | (have q0 := t0; refine box_lawC _ [.int .i64 (N : Int), .int .i64 (P : Int), .int .i64 g2, .int .i64 g3, .int .i64 g4, .int .i64 g5, .slice po fs.length pc, .slice so ts.length sc] rfl ?_; intro w1 X9 B9 l9; have HB0 := hdH (X9); have BB := hdH (B9); obtain ⟨hb0_0, hb0_1, hb0_2, hb0_3, hb0_4, hb0_5, hb0_6, hb0_7⟩ := vK8 HB0.out; clear X9 B9 l9; clear t0; have t1 : (1 : Nat) = 1 := rfl))
 refine wp_region_held_drew (S := fun w' => Below w5.heap.size w5 w') (by kernel_rfl) (Below.refl _ _).drew (fun hS => ?_)
 obtain ⟨u_1, hx0⟩ : ∃ x, x = w5.drew := ⟨_, rfl⟩
 rw [← hx0] at hS  ⊢
 clear hx0
 refine tkH 0 (some 43) (.int .i64 0) rfl rfl (Or.inl ⟨by rfl, fun w' hw' => by rfl⟩) hS ?_
 simp only [Act.put, zE1, zE2, zE3]
 refine tkH 1 (some 44) (.bool false) rfl rfl (Or.inl ⟨by rfl, fun w' hw' => by rfl⟩) hS ?_
 simp only [Act.put, zE1, zE2, zE3]
 refine tkH 2 (some 45) (.bool false) rfl rfl (Or.inl ⟨by rfl, fun w' hw' => by rfl⟩) hS ?_
 simp only [Act.put, zE1, zE2, zE3]
 refine tkH 3 (some 46) (.pointer (some ⟨c, 0, none⟩)) rfl rfl (Or.inl ⟨by rfl, fun w' hw' => by rfl⟩) hS ?_
 simp only [Act.put, zE1, zE2, zE3]
 refine tkH 5 (some 48) (.pointer (some ⟨w.heap.size, 0, none⟩)) rfl rfl (Or.inl ⟨by rfl, fun w' hw' => by go_simp⟩) hS ?_
 simp only [Act.put, zE1, zE2, zE3]
 refine tkH 6 (some 49) (.agg ([.int .i64 (N : Int), .int .i64 (P : Int), .int .i64 g2, .int .i64 g3, .int .i64 g4, .int .i64 g5] : List Value).toArray) rfl rfl (Or.inl ⟨by rfl, fun w' hw' => by exact exec_loadN 23 (.tmp 48) rfl _ rfl _ _ (load_cells rowy_geo (range6 (HB0.out.below hw' (range_lt HB0.out.1 (Nat.succ_pos _)))))⟩) hS ?_
 simp only [Act.put, zE1, zE2, zE3]
 refine wpAnyH_ready (rs := [4]) (by kernel_rfl) (by simp) ?_
 refine AllReadyH.cons rfl (fun K hK => ?_) AllReadyH.nil
 refine ge.step_callW _ (by rfl) (some 47) rfl 13 #[.tmp 46] #[28] rfl (fun q w' => by rfl) #[.pointer (some ⟨c, 0, none⟩)] (by simp only [List.map_toArray, List.map_cons, List.map_nil]; rfl) (fun v w' => v = .agg ([.int .i64 (N : Int), .int .i64 (P : Int), .int .i64 g2, .int .i64 g3, .int .i64 g4, .int .i64 g5] : List Value).toArray ∧ Below u_1.heap.size u_1 w') ?_ ?_
 ·exact (geometry_any (HL.out.below hS)).mono fun _ _ ⟨h1, h2⟩ => ⟨_, h1, rfl, h2⟩
 rintro _ u_2 ⟨rfl, B9⟩
 have hS : Below w5.heap.size w5 u_2 := hS.trans (B9.mono hS.size)
 clear B9
 refine hK.out _ _ hS (fun _ => ?_)
 simp only [Act.put, zE1, zE2, zE3]
 clear hK K
 refine tkH 7 (some 50) (.bool false) rfl rfl (Or.inl ⟨by rfl, fun w' hw' => by exact exec_neqG (.tmp 47) (.tmp 49) rfl N P g2 g3 g4 g5 rfl rfl w'⟩) hS ?_
 simp only [Act.put, zE1, zE2, zE3]
 refine tkH 8 (some 51) (.bool false) rfl rfl (Or.inl ⟨by rfl, fun w' hw' => by rfl⟩) hS ?_
 simp only [Act.put, zE1, zE2, zE3]
 refine wpAnyH_done (by kernel_rfl) ?_ _
 clear hb0_0 hb0_1 hb0_2 hb0_3 hb0_4 hb0_5 hb0_6 hb0_7
 have HB0 := hdH (HB0.out.below hS (range_lt HB0.out.1 (Nat.succ_pos _)))
 have BB := bT BB hS
 have BN := bT BN hS
 have HL := hdH (HL.out.below hS)
 have HMM : Hid (Mlt M u_2) := (fun k hk => Nat.lt_of_lt_of_le (HMM.out k hk) hS.size)
 clear hS
 have r0 := HB0.out.cell 0 _ rfl
 have r1 := HB0.out.cell 1 _ rfl
 have r2 := HB0.out.cell 2 _ rfl
 have r3 := HB0.out.cell 3 _ rfl
 have r4 := HB0.out.cell 4 _ rfl
 have r5 := HB0.out.cell 5 _ rfl
 have r6 := HB0.out.cell 6 _ rfl
 have r7 := HB0.out.cell 7 _ rfl
 have s0 : (1 : Nat) = 1 := rfl
 go_wp2_with (first
  | (have z2 := s2; (with_reducible refine at_store ?_); refine store_lawC _ (chr [(N : Int), P, g2, g3, g4, g5] (.slice bq N bc) (.slice po fs.length pc) false 0) wR.heap.size 0 rfl rfl HW.out.2 rowy_chipR.2 chr_one ?_; intro w8 E8 R8 T8 B8; have K8 : w7.grownBy w8 (some wR.heap.size) := (by rw [E8.out]; exact keep_cells _ _ _ _); have HNB0 := HNB.out; have HNB : Hid (NoB w8 wR.heap.size) := (by rw [E8.out]; exact HNB.out.set HW.out rfl chr_nobyte); have MW : Hid (M wR.heap.size = false) := not_hid HMM.out L6.out.2; have HS8 : Hid (Sim M (one wR.heap.size) w8 c r d q pv [(N : Int), P, g2, g3, g4, g5] N P S (plnOf fs ms) (new S) [] (.agg (chr [(N : Int), P, g2, g3, g4, g5] (.slice bq N bc) (.slice po fs.length pc) false 0).toArray)) := HS7.out.putN HNB0 MW.out K8; have HW : Hid (Vr w8 wR.heap.size (chr [(N : Int), P, g2, g3, g4, g5] (.slice bq N bc) (.slice po fs.length pc) false 0)) := ⟨R8, T8⟩; clear r0 r1 r2 r3 r4 r5 r6 r7; have HB0 := hdH (HB0.out.kept K8 (range_lt HB0.out.1 (Nat.succ_pos _)) (by have := LW1.out; have := L6.out; simp; omega)); have BB := hdH (BB.out.trans (B8.mono (by have := LW1.out; have := L6.out; omega))); obtain ⟨r0, r1, r2, r3, r4, r5, r6, r7⟩ := vK8 HB0.out; clear HNB0 E8 R8 T8 B8 K8 HS7 s2)
  | (have z1 := s1; (with_reducible refine at_alloc ?_); refine new_lawT _ _ zero_chr ?_; intro w7 X7 O7 B7 l7; have HW := hdH (X7); have HNB : Hid (NoB w7 wR.heap.size) := (by obtain ⟨fr, z⟩ := O7; exact obj_nobyte z zc_nobyte); have HS7 := hdH (HS6.out.below B7); clear r0 r1 r2 r3 r4 r5 r6 r7; have HB0 := hdH (HB0.out.below B7 (range_lt HB0.out.1 (Nat.succ_pos _))); have BB := bT BB B7; obtain ⟨r0, r1, r2, r3, r4, r5, r6, r7⟩ := vK8 HB0.out; clear X7 O7 B7 l7 HS6 s1; have s2 : (1 : Nat) = 1 := rfl)
  | (have z0 := s0; go_at_call 14; refine (rnew_any N P S g2 g3 g4 g5 HSH.out po fs.length pc u_2).mono ?_; rintro e9 wR ⟨bv, rfl, R6, B6⟩; have HS6 : Hid (Sim M (one wR.heap.size) wR c r d q pv [(N : Int), P, g2, g3, g4, g5] N P S (plnOf fs ms) (new S) [] (.agg (chr [(N : Int), P, g2, g3, g4, g5] bv (.slice po fs.length pc) false 0).toArray)) := sim_new HL.out HMM.out HG0.out BN.out (HF.out.below BW1.out) (HMK.out.below BW1.out) HK.out.1 HK.out.2 wR.heap.size (Nat.le_refl _) R6 B6; obtain ⟨bq, bc, rfl⟩ := bks_form R6; have L6 : Hid (w1.heap.size ≤ wR.heap.size ∧ u_2.heap.size ≤ wR.heap.size) := ⟨Nat.le_trans BN.out.size B6.size, B6.size⟩; clear r0 r1 r2 r3 r4 r5 r6 r7; have HB0 := hdH (HB0.out.below B6 (range_lt HB0.out.1 (Nat.succ_pos _))); have BB := bT BB B6; obtain ⟨r0, r1, r2, r3, r4, r5, r6, r7⟩ := vK8 HB0.out; clear R6 B6 s0; have s1 : (1 : Nat) = 1 := rfl))
 have LK : Hid (Lpr w w1.heap.size wR.heap.size [.int .i64 (N : Int), .int .i64 (P : Int), .int .i64 g2, .int .i64 g3, .int .i64 g4, .int .i64 g5, .slice po fs.length pc, .slice so ts.length sc] w.heap.size [.int .i64 (N : Int), .int .i64 (P : Int), .int .i64 g2, .int .i64 g3, .int .i64 g4, .int .i64 g5, .slice po fs.length pc, .slice so ts.length sc] c r d q pv N P S g2 g3 g4 g5 (plnOf fs ms) 0 w8) := ⟨M, new S, [], bq, bc, po, fs.length, pc, HS8.out, HW.out, HNB.out, HB0.out, HB0.out, inv_new N P S, Nat.le_refl _, HG0.out, MW.out, BB.out⟩
 have LZ : Hid (w.heap.size < w1.heap.size ∧ w1.heap.size ≤ wR.heap.size) := ⟨LW1.out, L6.out.1⟩
 clear HS8 HW HNB HB0 HG0 MW BB BN L6 LW1 BW1 HL HMM r0 r1 r2 r3 r4 r5 r6 r7
 go_loopw [6] (fun i wr => ∃ k : Nat, k ≤ ts.length ∧ k ≤ 20 ∧ i = .int .i64 (k : Int) ∧ Lpr w w1.heap.size wR.heap.size [.int .i64 (N : Int), .int .i64 (P : Int), .int .i64 g2, .int .i64 g3, .int .i64 g4, .int .i64 g5, .slice po fs.length pc, .slice so ts.length sc] w.heap.size [.int .i64 (N : Int), .int .i64 (P : Int), .int .i64 g2, .int .i64 g3, .int .i64 g4, .int .i64 g5, .slice po fs.length pc, .slice so ts.length sc] c r d q pv N P S g2 g3 g4 g5 (plnOf fs ms) k wr) (fun i _ => ts.length - (intOf i).toNat)
 case atStart => exact ⟨0, Nat.zero_le _, Nat.zero_le _, rfl, LK.out⟩
 case round =>
  clear LK
  obtain ⟨k, hk, hk2, rfl, ⟨M, s, l, bq, bc, pq, pn, pd, hS, hW, hNB, hC, -, hI, hO, hG, hMW, hB⟩⟩ := hrel
  have HS := hdH (hS)
  have HW := hdH (hW)
  have HNB : Hid (NoB wr wR.heap.size) := hNB
  have HC := hdH (hC)
  have HI : Hid (Inv N P S s l ∧ ops s ≤ k) := ⟨hI, hO⟩
  have HG : Hid ((∀ j, M j = true → w1.heap.size ≤ j) ∧ M wR.heap.size = false) := ⟨hG, hMW⟩
  have BB := hdH (hB)
  clear hS hW hNB hC hI hO hG hMW hB
  have r7 := HC.out.cell 7 _ rfl
  have lk0 : (0 : Int) ≤ (k : Int) := by omega
  by_cases hlt' : k < ts.length
  ·have lk : (k : Int) < (ts.length : Int) := by omega
   by_cases h20 : k < 20
   ·have lk2 : (k : Int) < 20 := by omega
    obtain ⟨sb, sf, rfl, hx, hrow⟩ := stps_at HST.out k hlt'
    generalize ts.getD k (0, 0, 0, 0, false) = tt at hx hrow
    obtain ⟨tk, tb, tp, tx, ton⟩ := tt
    have HX := hdH (hx)
    have HRW : Hid (∀ w', Below w.heap.size w w' → w'.rangeAt sb (sf + k * 5) [.int .i64 tk, .int .i64 tb, .int .i64 tp, .int .u8 tx, .bool ton]) := hrow
    obtain ⟨s2, l2, hnx⟩ : ∃ s2 l2, nxt N P S (plnOf fs ms) s l tk tb tp tx ton = (s2, l2) := ⟨_, _, rfl⟩
    have HNX : Hid (nxt N P S (plnOf fs ms) s l tk tb tp tx ton = (s2, l2)) := hnx
    clear hx hrow hnx
    go_wp2
    go_cut [7, 8] (fun r7 r8 wc => ∃ (gY : Nat) (M' : Nat → Bool) (bq2 : Option Addr) (bc2 : Nat) (pq2 : Option Addr) (pn2 pd2 : Nat), r7 = .pointer (some ⟨gY, 0, none⟩) ∧ r8 = .bool true ∧ Sim M' (one wR.heap.size) wc c r d q pv [(N : Int), P, g2, g3, g4, g5] N P S (plnOf fs ms) s2 l2 (.agg (chr [(N : Int), P, g2, g3, g4, g5] (.slice bq2 N bc2) (.slice pq2 pn2 pd2) (off s2) (ops s2 : Int)).toArray) ∧ Vr wc wR.heap.size (chr [(N : Int), P, g2, g3, g4, g5] (.slice bq N bc) (.slice pq pn pd) (off s) (ops s : Int)) ∧ NoB wc wR.heap.size ∧ Vr wc w.heap.size [.int .i64 (N : Int), .int .i64 (P : Int), .int .i64 g2, .int .i64 g3, .int .i64 g4, .int .i64 g5, .slice po fs.length pc, .slice (some ⟨sb, sf, none⟩) ts.length sc] ∧ Vr wc gY (chr [(N : Int), P, g2, g3, g4, g5] (.slice bq2 N bc2) (.slice pq2 pn2 pd2) (off s2) (ops s2 : Int)) ∧ ((∀ j, M' j = true → w1.heap.size ≤ j) ∧ M' wR.heap.size = false) ∧ Below w.heap.size w wc)
    case first =>
     have BB : Hid (Below w.heap.size w wr.drew) := BB.out.drew
     have HS : Hid (Sim M (one wR.heap.size) wr.drew c r d q pv [(N : Int), P, g2, g3, g4, g5] N P S (plnOf fs ms) s l (.agg (chr [(N : Int), P, g2, g3, g4, g5] (.slice bq N bc) (.slice pq pn pd) (off s) (ops s : Int)).toArray)) := Sim.below HS.out (below_drawn (Below.refl _ _) 1)
     have HW : Hid (Vr wr.drew wR.heap.size (chr [(N : Int), P, g2, g3, g4, g5] (.slice bq N bc) (.slice pq pn pd) (off s) (ops s : Int))) := HW.out.drewN 1
     have HNB : Hid (NoB wr.drew wR.heap.size) := HNB.out
     refine wp_region_held_drew (S := fun w' => Vr w' w.heap.size [.int .i64 (N : Int), .int .i64 (P : Int), .int .i64 g2, .int .i64 g3, .int .i64 g4, .int .i64 g5, .slice po fs.length pc, .slice (some ⟨sb, sf, none⟩) ts.length sc] ∧ w'.rangeAt sb (sf + k * 5) ([.int .i64 tk, .int .i64 tb, .int .i64 tp, .int .u8 tx, .bool ton] : List Value) ∧ w'.rangeAt wR.heap.size 0 (chr [(N : Int), P, g2, g3, g4, g5] (.slice bq N bc) (.slice pq pn pd) (off s) (ops s : Int))) (by kernel_rfl) ⟨HC.out, HRW.out _ BB.out, HW.out.1⟩ (fun hS => ?_)
     obtain ⟨y1, hx0⟩ : ∃ x, x = wr.drew := ⟨_, rfl⟩
     rw [← hx0] at hS BB HS HW HNB ⊢
     clear hx0
     refine tkH 0 (some 69) (.pointer (some ⟨c, 0, none⟩)) rfl rfl (Or.inl ⟨by rfl, fun w' hw' => by rfl⟩) hS ?_
     simp only [Act.put, zE1, zE2, zE3]
     refine tkH 1 (some 70) (.agg (chr [(N : Int), P, g2, g3, g4, g5] (.slice bq N bc) (.slice pq pn pd) (off s) (ops s : Int)).toArray) rfl rfl (Or.inl ⟨by rfl, fun w' hw' => by exact exec_loadN 38 (.tmp 5) rfl _ rfl _ _ (load_cells rowy_chipR hw'.2.2)⟩) hS ?_
     simp only [Act.put, zE1, zE2, zE3]
     refine tkH 2 (some 71) (.pointer (some ⟨w.heap.size, 7, none⟩)) rfl rfl (Or.inl ⟨by rfl, fun w' hw' => by go_simp⟩) hS ?_
     simp only [Act.put, zE1, zE2, zE3]
     refine tkH 3 (some 72) (.slice (some ⟨sb, sf, none⟩) ts.length sc) rfl rfl (Or.inl ⟨by rfl, fun w' hw' => by exact exec_loadN 25 (.tmp 71) rfl _ rfl _ _ (load_one one_steps (hw'.1.cell 7 _ rfl))⟩) hS ?_
     simp only [Act.put, zE1, zE2, zE3]
     refine tkH 4 (some 73) (.int .i64 (k : Int)) rfl rfl (Or.inl ⟨by rfl, fun w' hw' => by rfl⟩) hS ?_
     simp only [Act.put, zE1, zE2, zE3]
     refine tkH 5 (some 74) (.pointer (some ⟨sb, sf + k * 5, none⟩)) rfl rfl (Or.inl ⟨by rfl, fun w' hw' => by exact exec_idxS (.tmp 72) (.tmp 73) rfl sb sf ts.length sc k rfl rfl hlt' w'⟩) hS ?_
     simp only [Act.put, zE1, zE2, zE3]
     refine tkH 6 (some 75) (.agg ([.int .i64 tk, .int .i64 tb, .int .i64 tp, .int .u8 tx, .bool ton] : List Value).toArray) rfl rfl (Or.inl ⟨by rfl, fun w' hw' => by exact exec_loadN 45 (.tmp 74) rfl _ rfl _ _ (load_cells rowy_step hw'.2.1)⟩) hS ?_
     simp only [Act.put, zE1, zE2, zE3]
     refine wpAnyH_ready (rs := [7, 11]) (by kernel_rfl) (by simp) ?_
     refine AllReadyH.cons rfl (fun K hK => ?_) (AllReadyH.cons rfl (fun K hK => ?_) AllReadyH.nil)
     ·refine ge.step_callW _ (by rfl) (some 76) rfl 15 #[.tmp 69, .tmp 70, .tmp 75] #[28, 38, 45] rfl (fun q w' => by rfl) #[.pointer (some ⟨c, 0, none⟩), .agg (chr [(N : Int), P, g2, g3, g4, g5] (.slice bq N bc) (.slice pq pn pd) (off s) (ops s : Int)).toArray, .agg ([.int .i64 tk, .int .i64 tb, .int .i64 tp, .int .u8 tx, .bool ton] : List Value).toArray] (by simp only [List.map_toArray, List.map_cons, List.map_nil]; rfl) (fun v w' => ∃ M' v', v = .tuple #[v', .bool true] ∧ Sim M' (one wR.heap.size) w' c r d q pv [(N : Int), P, g2, g3, g4, g5] N P S (plnOf fs ms) s2 l2 v' ∧ (∀ k, k < y1.heap.size → M' k = M k) ∧ Frm M y1 w') ?_ ?_
      ·exact step_nx HSH.out HI.out.1 (by have := HI.out.2; omega) (one_lt (vlt HW.out)) HS.out tk tb tp tx HX.out ton HNX.out
      rintro v9 y2 ⟨M', v', rfl, S9, A9, F9⟩
      obtain ⟨bq2, bc2, pq2, pn2, pd2, rfl⟩ := sim_form S9
      have HS2 := hdH (S9)
      have B9 : Below w1.heap.size y1 y2 := F9.below (Nat.le_of_lt (Nat.lt_of_le_of_lt LZ.out.2 (vlt HW.out))) HG.out.1
      have eW : y2.heap[wR.heap.size]? = y1.heap[wR.heap.size]? := F9.block (vlt HW.out) HG.out.2
      have BB := hdH (BB.out.trans (B9.mono (by have := LZ.out; omega)))
      have hS : Vr y2 w.heap.size [.int .i64 (N : Int), .int .i64 (P : Int), .int .i64 g2, .int .i64 g3, .int .i64 g4, .int .i64 g5, .slice po fs.length pc, .slice (some ⟨sb, sf, none⟩) ts.length sc] ∧ y2.rangeAt sb (sf + k * 5) ([.int .i64 tk, .int .i64 tb, .int .i64 tp, .int .u8 tx, .bool ton] : List Value) ∧ y2.rangeAt wR.heap.size 0 (chr [(N : Int), P, g2, g3, g4, g5] (.slice bq N bc) (.slice pq pn pd) (off s) (ops s : Int)) := ⟨hS.1.below B9 (by have := LZ.out; omega), HRW.out _ BB.out, range_heap hS.2.2 eW⟩
      have lw9 : wR.heap.size < y1.heap.size := range_lt HW.out.1 (by simp [chr])
      have HW := hdH (HW.out.heap eW)
      have HNB := hdH (HNB.out.heap eW)
      have HGM : Hid ((∀ j, M' j = true → w1.heap.size ≤ j) ∧ M' wR.heap.size = false) := hgm HG.out A9 LZ.out.2 lw9
      clear S9 A9 F9 B9 eW lw9
      refine hK.out _ _ hS (fun _ => ?_)
      simp only [Act.put, zE1, zE2, zE3]
      clear hK K
      refine tkH 8 (some 68) (.tuple #[.agg (chr [(N : Int), P, g2, g3, g4, g5] (.slice bq2 N bc2) (.slice pq2 pn2 pd2) (off s2) (ops s2 : Int)).toArray, .bool true]) rfl rfl (Or.inl ⟨by rfl, fun w' hw' => by rfl⟩) hS ?_
      simp only [Act.put, zE1, zE2, zE3]
      refine tkH 9 (some 77) (.agg (chr [(N : Int), P, g2, g3, g4, g5] (.slice bq2 N bc2) (.slice pq2 pn2 pd2) (off s2) (ops s2 : Int)).toArray) rfl rfl (Or.inl ⟨by rfl, fun w' hw' => by rfl⟩) hS ?_
      simp only [Act.put, zE1, zE2, zE3]
      refine tkH 10 (some 78) (.bool true) rfl rfl (Or.inl ⟨by rfl, fun w' hw' => by rfl⟩) hS ?_
      simp only [Act.put, zE1, zE2, zE3]
      refine wpAnyH_ready (rs := [11]) (by kernel_rfl) (by simp) ?_
      refine AllReadyH.cons rfl (fun K hK => ?_) AllReadyH.nil
      refine step_newX _ rfl (some 7) rfl 38 rfl [.int .i64 0, .int .i64 0, .int .i64 0, .int .i64 0, .int .i64 0, .int .i64 0, .slice none 0 0, .slice none 0 0, .bool false, .int .i64 0] zero_chr zc_nobyte ?_
      intro y3 x9 n9 h9
      have HVY := hdH (x9)
      have NBY := hdH (n9)
      have MY : Hid (M' y2.heap.size = false) := not_hid HS2.out.mlt (Nat.le_refl _)
      have HS2 : Hid (Sim M' (two wR.heap.size y2.heap.size) y3 c r d q pv [(N : Int), P, g2, g3, g4, g5] N P S (plnOf fs ms) s2 l2 (.agg (chr [(N : Int), P, g2, g3, g4, g5] (.slice bq2 N bc2) (.slice pq2 pn2 pd2) (off s2) (ops s2 : Int)).toArray)) := HS2.out.more h9 (Nat.le_refl _)
      have LY : Hid (wR.heap.size < y2.heap.size) := range_lt HW.out.1 (by simp [chr])
      have HNB := hdH (HNB.out.heap (h9.block _ LY.out))
      have HW := hdH (HW.out.below h9 LY.out)
      have BB := bT BB h9
      have hS : Vr y3 w.heap.size [.int .i64 (N : Int), .int .i64 (P : Int), .int .i64 g2, .int .i64 g3, .int .i64 g4, .int .i64 g5, .slice po fs.length pc, .slice (some ⟨sb, sf, none⟩) ts.length sc] ∧ y3.rangeAt sb (sf + k * 5) ([.int .i64 tk, .int .i64 tb, .int .i64 tp, .int .u8 tx, .bool ton] : List Value) ∧ y3.rangeAt wR.heap.size 0 (chr [(N : Int), P, g2, g3, g4, g5] (.slice bq N bc) (.slice pq pn pd) (off s) (ops s : Int)) := ⟨hS.1.below h9 (range_lt hS.1.1 (by simp)), HRW.out _ BB.out, HW.out.1⟩
      clear x9 n9 h9
      refine hK.out _ _ hS (fun _ => ?_)
      simp only [Act.put, zE1, zE2, zE3]
      clear hK K
      refine wpAnyH_ready (rs := [12]) (by kernel_rfl) (by simp) ?_
      refine AllReadyH.cons rfl (fun K hK => ?_) AllReadyH.nil
      have LN : Hid (y2.heap.size ≤ y3.heap.size) := Nat.le_of_lt (range_lt HVY.out.1 (Nat.succ_pos _))
      refine step_storeX _ rfl none rfl (.tmp 7) (.tmp 77) 38 rfl y2.heap.size [.int .i64 0, .int .i64 0, .int .i64 0, .int .i64 0, .int .i64 0, .int .i64 0, .slice none 0 0, .slice none 0 0, .bool false, .int .i64 0] (chr [(N : Int), P, g2, g3, g4, g5] (.slice bq2 N bc2) (.slice pq2 pn2 pd2) (off s2) (ops s2 : Int)) rfl rfl HVY.out rfl rowy_chipR.2 chr_one ?_
      intro y4 E9 V9
      have K9 : y3.grownBy y4 (some y2.heap.size) := (by rw [E9.out]; exact keep_cells _ _ _ _)
      have HS2 : Hid (Sim M' (two wR.heap.size y2.heap.size) y4 c r d q pv [(N : Int), P, g2, g3, g4, g5] N P S (plnOf fs ms) s2 l2 (.agg (chr [(N : Int), P, g2, g3, g4, g5] (.slice bq2 N bc2) (.slice pq2 pn2 pd2) (off s2) (ops s2 : Int)).toArray)) := HS2.out.putE NBY.out MY.out (by simp [two]) K9
      have HW := hdH (HW.out.kept K9 (vlt HW.out) (by have := LY.out; simp; omega))
      have HNB := hdH (HNB.out.heap (K9.block _ (Nat.lt_of_lt_of_le LY.out LN.out) (by have := LY.out; simp; omega)))
      have HVY := hdH (V9)
      have BB := hdH (BB.out.trans ((Below.refl w.heap.size _).grown K9 BB.out.size (fun k e => by have e := Option.some.inj e; have := LZ.out; have := LY.out; omega)))
      have hS : Vr y4 w.heap.size [.int .i64 (N : Int), .int .i64 (P : Int), .int .i64 g2, .int .i64 g3, .int .i64 g4, .int .i64 g5, .slice po fs.length pc, .slice (some ⟨sb, sf, none⟩) ts.length sc] ∧ y4.rangeAt sb (sf + k * 5) ([.int .i64 tk, .int .i64 tb, .int .i64 tp, .int .u8 tx, .bool ton] : List Value) ∧ y4.rangeAt wR.heap.size 0 (chr [(N : Int), P, g2, g3, g4, g5] (.slice bq N bc) (.slice pq pn pd) (off s) (ops s : Int)) := ⟨hS.1.kept K9 (range_lt hS.1.1 (by simp)) (by have := LZ.out; have := LY.out; simp; omega), HRW.out _ BB.out, HW.out.1⟩
      clear E9 V9 K9
      refine hK.out _ _ hS (fun _ => ?_)
      simp only [Act.put]
      clear hK K
      refine tkH 13 (some 8) (.bool true) rfl rfl (Or.inl ⟨by rfl, fun w' hw' => by rfl⟩) hS ?_
      simp only [Act.put, zE1, zE2, zE3]
      refine wpAnyH_done (by kernel_rfl) ?_ _
      go_wp2
      go_meet
      exact ⟨_, M', bq2, bc2, pq2, pn2, pd2, rfl, rfl, HS2.out.less, HW.out, HNB.out, hS.1, HVY.out, HGM.out, BB.out⟩
     ·refine step_newX _ rfl (some 7) rfl 38 rfl [.int .i64 0, .int .i64 0, .int .i64 0, .int .i64 0, .int .i64 0, .int .i64 0, .slice none 0 0, .slice none 0 0, .bool false, .int .i64 0] zero_chr zc_nobyte ?_
      intro y5 x9 n9 h9
      have HVY := hdH (x9)
      have NBY := hdH (n9)
      have MY : Hid (M y1.heap.size = false) := not_hid HS.out.mlt (Nat.le_refl _)
      have HS : Hid (Sim M (two wR.heap.size y1.heap.size) y5 c r d q pv [(N : Int), P, g2, g3, g4, g5] N P S (plnOf fs ms) s l (.agg (chr [(N : Int), P, g2, g3, g4, g5] (.slice bq N bc) (.slice pq pn pd) (off s) (ops s : Int)).toArray)) := HS.out.more h9 (Nat.le_refl _)
      have LY : Hid (wR.heap.size < y1.heap.size) := range_lt HW.out.1 (by simp [chr])
      have HNB := hdH (HNB.out.heap (h9.block _ LY.out))
      have HW := hdH (HW.out.below h9 LY.out)
      have BB := bT BB h9
      have hS : Vr y5 w.heap.size [.int .i64 (N : Int), .int .i64 (P : Int), .int .i64 g2, .int .i64 g3, .int .i64 g4, .int .i64 g5, .slice po fs.length pc, .slice (some ⟨sb, sf, none⟩) ts.length sc] ∧ y5.rangeAt sb (sf + k * 5) ([.int .i64 tk, .int .i64 tb, .int .i64 tp, .int .u8 tx, .bool ton] : List Value) ∧ y5.rangeAt wR.heap.size 0 (chr [(N : Int), P, g2, g3, g4, g5] (.slice bq N bc) (.slice pq pn pd) (off s) (ops s : Int)) := ⟨hS.1.below h9 (range_lt hS.1.1 (by simp)), HRW.out _ BB.out, HW.out.1⟩
      clear x9 n9 h9
      refine hK.out _ _ hS (fun _ => ?_)
      simp only [Act.put, zE1, zE2, zE3]
      clear hK K
      refine wpAnyH_ready (rs := [7]) (by kernel_rfl) (by simp) ?_
      refine AllReadyH.cons rfl (fun K hK => ?_) AllReadyH.nil
      refine ge.step_callW _ (by rfl) (some 76) rfl 15 #[.tmp 69, .tmp 70, .tmp 75] #[28, 38, 45] rfl (fun q w' => by rfl) #[.pointer (some ⟨c, 0, none⟩), .agg (chr [(N : Int), P, g2, g3, g4, g5] (.slice bq N bc) (.slice pq pn pd) (off s) (ops s : Int)).toArray, .agg ([.int .i64 tk, .int .i64 tb, .int .i64 tp, .int .u8 tx, .bool ton] : List Value).toArray] (by simp only [List.map_toArray, List.map_cons, List.map_nil]; rfl) (fun v w' => ∃ M' v', v = .tuple #[v', .bool true] ∧ Sim M' (two wR.heap.size y1.heap.size) w' c r d q pv [(N : Int), P, g2, g3, g4, g5] N P S (plnOf fs ms) s2 l2 v' ∧ (∀ k, k < y5.heap.size → M' k = M k) ∧ Frm M y5 w') ?_ ?_
      ·exact step_nx HSH.out HI.out.1 (by have := HI.out.2; omega) (two_lt (vlt HW.out) (range_lt HVY.out.1 (Nat.succ_pos _))) HS.out tk tb tp tx HX.out ton HNX.out
      rintro v9 y6 ⟨M', v', rfl, S9, A9, F9⟩
      obtain ⟨bq2, bc2, pq2, pn2, pd2, rfl⟩ := sim_form S9
      have HS2 := hdH (S9)
      have B9 : Below w1.heap.size y5 y6 := F9.below (Nat.le_of_lt (Nat.lt_of_le_of_lt LZ.out.2 (vlt HW.out))) HG.out.1
      have eW : y6.heap[wR.heap.size]? = y5.heap[wR.heap.size]? := F9.block (vlt HW.out) HG.out.2
      have BB := hdH (BB.out.trans (B9.mono (by have := LZ.out; omega)))
      have hS : Vr y6 w.heap.size [.int .i64 (N : Int), .int .i64 (P : Int), .int .i64 g2, .int .i64 g3, .int .i64 g4, .int .i64 g5, .slice po fs.length pc, .slice (some ⟨sb, sf, none⟩) ts.length sc] ∧ y6.rangeAt sb (sf + k * 5) ([.int .i64 tk, .int .i64 tb, .int .i64 tp, .int .u8 tx, .bool ton] : List Value) ∧ y6.rangeAt wR.heap.size 0 (chr [(N : Int), P, g2, g3, g4, g5] (.slice bq N bc) (.slice pq pn pd) (off s) (ops s : Int)) := ⟨hS.1.below B9 (by have := LZ.out; omega), HRW.out _ BB.out, range_heap hS.2.2 eW⟩
      have lw9 : wR.heap.size < y5.heap.size := range_lt HW.out.1 (by simp [chr])
      have HW := hdH (HW.out.heap eW)
      have HNB := hdH (HNB.out.heap eW)
      have HGM : Hid ((∀ j, M' j = true → w1.heap.size ≤ j) ∧ M' wR.heap.size = false) := hgm HG.out A9 LZ.out.2 lw9
      have eY : y6.heap[y1.heap.size]? = y5.heap[y1.heap.size]? := F9.block (range_lt HVY.out.1 (Nat.succ_pos _)) MY.out
      have MY : Hid (M' y1.heap.size = false) := (by rw [A9 _ (range_lt HVY.out.1 (Nat.succ_pos _))]; exact MY.out)
      have NBY := hdH (NBY.out.heap eY)
      have HVY := hdH (HVY.out.heap eY)
      clear eY
      clear S9 A9 F9 B9 eW lw9
      refine hK.out _ _ hS (fun _ => ?_)
      simp only [Act.put, zE1, zE2, zE3]
      clear hK K
      refine tkH 8 (some 68) (.tuple #[.agg (chr [(N : Int), P, g2, g3, g4, g5] (.slice bq2 N bc2) (.slice pq2 pn2 pd2) (off s2) (ops s2 : Int)).toArray, .bool true]) rfl rfl (Or.inl ⟨by rfl, fun w' hw' => by rfl⟩) hS ?_
      simp only [Act.put, zE1, zE2, zE3]
      refine tkH 9 (some 77) (.agg (chr [(N : Int), P, g2, g3, g4, g5] (.slice bq2 N bc2) (.slice pq2 pn2 pd2) (off s2) (ops s2 : Int)).toArray) rfl rfl (Or.inl ⟨by rfl, fun w' hw' => by rfl⟩) hS ?_
      simp only [Act.put, zE1, zE2, zE3]
      refine tkH 10 (some 78) (.bool true) rfl rfl (Or.inl ⟨by rfl, fun w' hw' => by rfl⟩) hS ?_
      simp only [Act.put, zE1, zE2, zE3]
      refine wpAnyH_ready (rs := [12]) (by kernel_rfl) (by simp) ?_
      refine AllReadyH.cons rfl (fun K hK => ?_) AllReadyH.nil
      have LN : Hid (y1.heap.size ≤ y6.heap.size) := Nat.le_of_lt (range_lt HVY.out.1 (Nat.succ_pos _))
      refine step_storeX _ rfl none rfl (.tmp 7) (.tmp 77) 38 rfl y1.heap.size [.int .i64 0, .int .i64 0, .int .i64 0, .int .i64 0, .int .i64 0, .int .i64 0, .slice none 0 0, .slice none 0 0, .bool false, .int .i64 0] (chr [(N : Int), P, g2, g3, g4, g5] (.slice bq2 N bc2) (.slice pq2 pn2 pd2) (off s2) (ops s2 : Int)) rfl rfl HVY.out rfl rowy_chipR.2 chr_one ?_
      intro y7 E9 V9
      have K9 : y6.grownBy y7 (some y1.heap.size) := (by rw [E9.out]; exact keep_cells _ _ _ _)
      have HS2 : Hid (Sim M' (two wR.heap.size y1.heap.size) y7 c r d q pv [(N : Int), P, g2, g3, g4, g5] N P S (plnOf fs ms) s2 l2 (.agg (chr [(N : Int), P, g2, g3, g4, g5] (.slice bq2 N bc2) (.slice pq2 pn2 pd2) (off s2) (ops s2 : Int)).toArray)) := HS2.out.putE NBY.out MY.out (by simp [two]) K9
      have HW := hdH (HW.out.kept K9 (vlt HW.out) (by have := LY.out; simp; omega))
      have HNB := hdH (HNB.out.heap (K9.block _ (Nat.lt_of_lt_of_le LY.out LN.out) (by have := LY.out; simp; omega)))
      have HVY := hdH (V9)
      have BB := hdH (BB.out.trans ((Below.refl w.heap.size _).grown K9 BB.out.size (fun k e => by have e := Option.some.inj e; have := LZ.out; have := LY.out; omega)))
      have hS : Vr y7 w.heap.size [.int .i64 (N : Int), .int .i64 (P : Int), .int .i64 g2, .int .i64 g3, .int .i64 g4, .int .i64 g5, .slice po fs.length pc, .slice (some ⟨sb, sf, none⟩) ts.length sc] ∧ y7.rangeAt sb (sf + k * 5) ([.int .i64 tk, .int .i64 tb, .int .i64 tp, .int .u8 tx, .bool ton] : List Value) ∧ y7.rangeAt wR.heap.size 0 (chr [(N : Int), P, g2, g3, g4, g5] (.slice bq N bc) (.slice pq pn pd) (off s) (ops s : Int)) := ⟨hS.1.kept K9 (range_lt hS.1.1 (by simp)) (by have := LZ.out; have := LY.out; simp; omega), HRW.out _ BB.out, HW.out.1⟩
      clear E9 V9 K9
      refine hK.out _ _ hS (fun _ => ?_)
      simp only [Act.put]
      clear hK K
      refine tkH 13 (some 8) (.bool true) rfl rfl (Or.inl ⟨by rfl, fun w' hw' => by rfl⟩) hS ?_
      simp only [Act.put, zE1, zE2, zE3]
      refine wpAnyH_done (by kernel_rfl) ?_ _
      go_wp2
      go_meet
      exact ⟨_, M', bq2, bc2, pq2, pn2, pd2, rfl, rfl, HS2.out.less, HW.out, HNB.out, hS.1, HVY.out, HGM.out, BB.out⟩
    case rest =>
     obtain ⟨gY, M', bq2, bc2, pq2, pn2, pd2, rfl, rfl, x1, x2, x3, x4, x5, x6, x7⟩ := hcut
     have HS2 := hdH (x1)
     have HW := hdH (x2)
     have HNB := hdH (x3)
     have HC := hdH (x4)
     have HVY := hdH (x5)
     have HGM := hdH (x6)
     have BB := hdH (x7)
     clear x1 x2 x3 x4 x5 x6 x7 r7
     have y0 := HVY.out.cell 0 _ rfl
     have y1 := HVY.out.cell 1 _ rfl
     have y2 := HVY.out.cell 2 _ rfl
     have y3 := HVY.out.cell 3 _ rfl
     have y4 := HVY.out.cell 4 _ rfl
     have y5 := HVY.out.cell 5 _ rfl
     have y6 := HVY.out.cell 6 _ rfl
     have y7 := HVY.out.cell 7 _ rfl
     have y8 := HVY.out.cell 8 _ rfl
     have y9 := HVY.out.cell 9 _ rfl
     have HI2 : Hid (Inv N P S s2 l2) := (by have := inv_nxt HI.out.1 (plnOf fs ms) tk tb tp tx HX.out ton; rw [HNX.out] at this; exact this)
     have HOP : Hid (ops s2 ≤ k + 1) := (by have h1 : ops s2 ≤ ops s + 1 := (by have := nxt_le (N := N) (P := P) (S := S) (plnOf fs ms) s l tk tb tp tx ton; rw [HNX.out] at this; exact this); have h2 := HI.out.2; show _ ≤ _; omega)
     have s3 : (1 : Nat) = 1 := rfl
     go_wp2_with (first
      | (have z3 := s3; (with_reducible refine at_store ?_); refine store_lawC _ (chr [(N : Int), P, g2, g3, g4, g5] (.slice bq2 N bc2) (.slice pq2 pn2 pd2) (off s2) (ops s2 : Int)) wR.heap.size 0 rfl rfl HW.out.2 rowy_chipR.2 chr_one ?_; intro wd E8 R8 T8 B8; have K8 : wc.grownBy wd (some wR.heap.size) := (by rw [E8.out]; exact keep_cells _ _ _ _); have HS2 : Hid (Sim M' (one wR.heap.size) wd c r d q pv [(N : Int), P, g2, g3, g4, g5] N P S (plnOf fs ms) s2 l2 (.agg (chr [(N : Int), P, g2, g3, g4, g5] (.slice bq2 N bc2) (.slice pq2 pn2 pd2) (off s2) (ops s2 : Int)).toArray)) := HS2.out.putN HNB.out HGM.out.2 K8; have HNB : Hid (NoB wd wR.heap.size) := (by rw [E8.out]; exact HNB.out.set HW.out rfl chr_nobyte); have HW : Hid (Vr wd wR.heap.size (chr [(N : Int), P, g2, g3, g4, g5] (.slice bq2 N bc2) (.slice pq2 pn2 pd2) (off s2) (ops s2 : Int))) := ⟨R8, T8⟩; have HC := hdH (HC.out.kept K8 (vlt HC.out) (by have := LZ.out; simp; omega)); have BB := hdH (BB.out.trans (B8.mono (by have := LZ.out; omega))); clear y0 y1 y2 y3 y4 y5 y6 y7 y8 y9 E8 R8 T8 B8 K8 s3))
     refine wp_region_held_drew (S := fun w' => Below wd.heap.size wd w') (by kernel_rfl) (Below.refl _ _).drew (fun hS => ?_)
     obtain ⟨v1, hx0⟩ : ∃ x, x = wd.drew := ⟨_, rfl⟩
     rw [← hx0] at hS  ⊢
     clear hx0
     refine tkH 0 (some 80) (.bool true) rfl rfl (Or.inl ⟨by rfl, fun w' hw' => by rfl⟩) hS ?_
     simp only [Act.put, zE1, zE2, zE3]
     refine tkH 1 (some 81) (.bool false) rfl rfl (Or.inl ⟨by rfl, fun w' hw' => by rfl⟩) hS ?_
     simp only [Act.put, zE1, zE2, zE3]
     refine tkH 2 (some 82) (.bool false) rfl rfl (Or.inl ⟨by rfl, fun w' hw' => by rfl⟩) hS ?_
     simp only [Act.put, zE1, zE2, zE3]
     refine tkH 3 (some 83) (.pointer (some ⟨c, 0, none⟩)) rfl rfl (Or.inl ⟨by rfl, fun w' hw' => by rfl⟩) hS ?_
     simp only [Act.put, zE1, zE2, zE3]
     refine tkH 5 (some 85) (.pointer (some ⟨wR.heap.size, 9, none⟩)) rfl rfl (Or.inl ⟨by rfl, fun w' hw' => by go_simp⟩) hS ?_
     simp only [Act.put, zE1, zE2, zE3]
     refine tkH 6 (some 86) (.int .i64 (ops s2 : Int)) rfl rfl (Or.inl ⟨by rfl, fun w' hw' => by exact exec_loadN 3 (.tmp 85) rfl _ rfl _ _ (load_one one_int ((HW.out.below hw' (vlt HW.out)).cell 9 _ rfl))⟩) hS ?_
     simp only [Act.put, zE1, zE2, zE3]
     refine wpAnyH_ready (rs := [4]) (by kernel_rfl) (by simp) ?_
     refine AllReadyH.cons rfl (fun K hK => ?_) AllReadyH.nil
     refine ge.step_callW _ (by rfl) (some 84) rfl 16 #[.tmp 83] #[28] rfl (fun q w' => by rfl) #[.pointer (some ⟨c, 0, none⟩)] (by simp only [List.map_toArray, List.map_cons, List.map_nil]; rfl) (fun v w' => v = .int .i64 (ops s2 : Int) ∧ w' = v1) ?_ ?_
     ·exact (sim_ops (Sim.below HS2.out hS) HI2.out).mono fun _ _ ⟨h1, h2⟩ => ⟨_, h1, rfl, h2⟩
     rintro _ v2 ⟨rfl, h9⟩
     have hS : Below wd.heap.size wd v2 := (by rw [h9]; exact hS)
     clear h9
     refine hK.out _ _ hS (fun _ => ?_)
     simp only [Act.put, zE1, zE2, zE3]
     clear hK K
     refine tkH 7 (some 87) (.bool false) rfl rfl (Or.inl ⟨by rfl, fun w' hw' => by exact exec_neqI (.tmp 84) (.tmp 86) rfl (ops s2 : Int) rfl rfl w'⟩) hS ?_
     simp only [Act.put, zE1, zE2, zE3]
     refine tkH 8 (some 88) (.bool false) rfl rfl (Or.inl ⟨by rfl, fun w' hw' => by rfl⟩) hS ?_
     simp only [Act.put, zE1, zE2, zE3]
     refine tkH 9 (some 89) (.bool false) rfl rfl (Or.inl ⟨by rfl, fun w' hw' => by rfl⟩) hS ?_
     simp only [Act.put, zE1, zE2, zE3]
     refine tkH 10 (some 90) (.pointer (some ⟨c, 0, none⟩)) rfl rfl (Or.inl ⟨by rfl, fun w' hw' => by rfl⟩) hS ?_
     simp only [Act.put, zE1, zE2, zE3]
     refine tkH 12 (some 92) (.pointer (some ⟨wR.heap.size, 8, none⟩)) rfl rfl (Or.inl ⟨by rfl, fun w' hw' => by go_simp⟩) hS ?_
     simp only [Act.put, zE1, zE2, zE3]
     refine tkH 13 (some 93) (.bool (off s2)) rfl rfl (Or.inl ⟨by rfl, fun w' hw' => by exact exec_loadN 4 (.tmp 92) rfl _ rfl _ _ (load_one one_bool ((HW.out.below hw' (vlt HW.out)).cell 8 _ rfl))⟩) hS ?_
     simp only [Act.put, zE1, zE2, zE3]
     refine tkH 14 (some 94) (.bool (!off s2)) rfl rfl (Or.inl ⟨by rfl, fun w' hw' => by exact exec_notB (.tmp 93) rfl (off s2) rfl w'⟩) hS ?_
     simp only [Act.put, zE1, zE2, zE3]
     refine wpAnyH_ready (rs := [11]) (by kernel_rfl) (by simp) ?_
     refine AllReadyH.cons rfl (fun K hK => ?_) AllReadyH.nil
     refine ge.step_callW _ (by rfl) (some 91) rfl 17 #[.tmp 90] #[28] rfl (fun q w' => by rfl) #[.pointer (some ⟨c, 0, none⟩)] (by simp only [List.map_toArray, List.map_cons, List.map_nil]; rfl) (fun v w' => v = .bool (!off s2) ∧ w' = v2) ?_ ?_
     ·exact (sim_on (Sim.below HS2.out hS)).mono fun _ _ ⟨h1, h2⟩ => ⟨_, h1, rfl, h2⟩
     rintro _ v3 ⟨rfl, h9⟩
     have hS : Below wd.heap.size wd v3 := (by rw [h9]; exact hS)
     clear h9
     refine hK.out _ _ hS (fun _ => ?_)
     simp only [Act.put, zE1, zE2, zE3]
     clear hK K
     refine tkH 15 (some 95) (.bool false) rfl rfl (Or.inl ⟨by rfl, fun w' hw' => by exact exec_neqB (.tmp 91) (.tmp 94) rfl (!off s2) rfl rfl w'⟩) hS ?_
     simp only [Act.put, zE1, zE2, zE3]
     refine tkH 16 (some 96) (.bool false) rfl rfl (Or.inl ⟨by rfl, fun w' hw' => by rfl⟩) hS ?_
     simp only [Act.put, zE1, zE2, zE3]
     refine wpAnyH_done (by kernel_rfl) ?_ _
     go_wp2
     go_roundw
     case rel => exact ⟨k + 1, by omega, by omega, by go_num, M', s2, l2, bq2, bc2, pq2, pn2, pd2, Sim.below HS2.out hS, HW.out.below hS (vlt HW.out), HNB.out.heap (hS.block _ (vlt HW.out)), HC.out.below hS (vlt HC.out), HC.out.below hS (vlt HC.out), HI2.out, HOP.out, HGM.out.1, HGM.out.2, BB.out.trans (hS.mono BB.out.size)⟩
     case measure => simp [intOf]; omega
   ·have lk2 : ¬ ((k : Int) < 20) := by omega
    have LQ : Hid (∃ z : Int, z = -1 ∧ -1 ≤ z ∧ z ≤ (N : Int) + 1) := ⟨-1, rfl, by omega, by omega⟩
    have c0 := HC.out.cell 0 _ rfl
    go_wp2
    go_loopw [9] (fun i wq => ∃ z : Int, -1 ≤ z ∧ z ≤ (N : Int) + 1 ∧ i = .int .i64 z ∧ wq = wr) (fun i _ => ((N : Int) + 1 - intOf i).toNat)
    case atStart => exact ⟨-1, by omega, by omega, rfl, rfl⟩
    case round =>
     obtain ⟨z, hz1, hz2, rfl, hwq⟩ := hrel
     obtain rfl := hwq.symm
     have hN9 : (N : Int) ≤ 64 := by have := HN6.out; omega
     by_cases hzl : z ≤ (N : Int)
     ·have t0 : (1 : Nat) = 1 := rfl
      by_cases hz0 : 0 ≤ z
      ·by_cases hzN : z < (N : Int)
       ·obtain ⟨n, rfl⟩ : ∃ n : Nat, z = n := ⟨z.toNat, by omega⟩
        obtain ⟨bb, bo, gv, uv, rfl, hrw⟩ := ref_blk HS.out n (by omega)
        have y6 := HW.out.cell 6 _ rfl
        have y4 := hrw wr (Below.refl _ _) 4 _ rfl
        have nb : n < N := by omega
        have HE : Hid (Calls Try.prog 18 #[.pointer (some ⟨c, 0, none⟩), .int .i64 (n : Int)] wr fun e w' => e = .returned (.int .i64 (ers s n)) ∧ w' = wr) := sim_erases HS.out n _ (fun _ => by simp) (fun q => absurd ⟨hz0, hzN⟩ q)
        obtain ⟨ee, he⟩ : ∃ x, ers s n = x := ⟨_, rfl⟩
        rw [he] at HE y4
        clear hrw he
        go_wp2_with (first
         | (have q0 := t0; go_at_call 18; refine HE.out.mono ?_; rintro e9 w9 ⟨rfl, h9⟩; obtain rfl := h9.symm; clear t0))
        go_roundw
        case rel => exact ⟨(n : Int) + 1, by omega, by omega, by go_num, trivial⟩
        case measure => simp [intOf]; omega
       ·have HE : Hid (Calls Try.prog 18 #[.pointer (some ⟨c, 0, none⟩), .int .i64 z] wr fun e w' => e = .returned (.int .i64 0) ∧ w' = wr) := sim_erases HS.out z _ (fun q => absurd q.2 hzN) (fun _ => rfl)
        go_wp2_with (first
         | (have q0 := t0; go_at_call 18; refine HE.out.mono ?_; rintro e9 w9 ⟨rfl, h9⟩; obtain rfl := h9.symm; clear t0))
        go_roundw
        case rel => exact ⟨z + 1, by omega, by omega, by go_num, trivial⟩
        case measure => simp [intOf]; omega
      ·have HE : Hid (Calls Try.prog 18 #[.pointer (some ⟨c, 0, none⟩), .int .i64 z] wr fun e w' => e = .returned (.int .i64 0) ∧ w' = wr) := sim_erases HS.out z _ (fun q => absurd q.1 hz0) (fun _ => rfl)
       go_wp2_with (first
        | (have q0 := t0; go_at_call 18; refine HE.out.mono ?_; rintro e9 w9 ⟨rfl, h9⟩; obtain rfl := h9.symm; clear t0))
       go_roundw
       case rel => exact ⟨z + 1, by omega, by omega, by go_num, trivial⟩
       case measure => simp [intOf]; omega
     ·go_wp2
      refine wp_region_held_drew (S := fun w' => Below wr.heap.size wr w') (by kernel_rfl) (Below.refl _ _).drew (fun hS => ?_)
      obtain ⟨x1, hx0⟩ : ∃ x, x = wr.drew := ⟨_, rfl⟩
      rw [← hx0] at hS  ⊢
      clear hx0
      refine tkH 0 (some 124) (.pointer (some ⟨c, 0, none⟩)) rfl rfl (Or.inl ⟨by rfl, fun w' hw' => by rfl⟩) hS ?_
      simp only [Act.put, zE1, zE2, zE3]
      refine tkH 2 (some 126) (.agg (chr [(N : Int), P, g2, g3, g4, g5] (.slice bq N bc) (.slice pq pn pd) (off s) (ops s : Int)).toArray) rfl rfl (Or.inl ⟨by rfl, fun w' hw' => by exact exec_loadN 38 (.tmp 5) rfl _ rfl _ _ (load_cells rowy_chipR (HW.out.below hw' (vlt HW.out)).1)⟩) hS ?_
      simp only [Act.put, zE1, zE2, zE3]
      refine wpAnyH_ready (rs := [1]) (by kernel_rfl) (by simp) ?_
      refine AllReadyH.cons rfl (fun K hK => ?_) AllReadyH.nil
      refine ge.step_callW _ (by rfl) (some 125) rfl 20 #[.tmp 124] #[28] rfl (fun q w' => by rfl) #[.pointer (some ⟨c, 0, none⟩)] (by simp only [List.map_toArray, List.map_cons, List.map_nil]; rfl) (fun v w' => Byt w' v (img N P s) ∧ Below x1.heap.size x1 w') ?_ ?_
      ·exact (sim_image (Sim.below HS.out hS)).mono fun _ _ ⟨v, h1, h2, h3⟩ => ⟨v, h1, h2.1, h3⟩
      rintro iv x2 ⟨y9, B9⟩
      have HA := hdH (y9)
      have hS : Below wr.heap.size wr x2 := hS.trans (B9.mono hS.size)
      clear B9 y9
      refine hK.out _ _ hS (fun _ => ?_)
      simp only [Act.put, zE1, zE2, zE3]
      clear hK K
      refine wpAnyH_ready (rs := [3]) (by kernel_rfl) (by simp) ?_
      refine AllReadyH.cons rfl (fun K hK => ?_) AllReadyH.nil
      refine ge.step_callW _ (by rfl) (some 127) rfl 21 #[.tmp 126] #[38] rfl (fun q w' => by rfl) #[.agg (chr [(N : Int), P, g2, g3, g4, g5] (.slice bq N bc) (.slice pq pn pd) (off s) (ops s : Int)).toArray] (by simp only [List.map_toArray, List.map_cons, List.map_nil]; rfl) (fun v w' => Byt w' v (img N P s) ∧ Below x2.heap.size x2 w') ?_ ?_
      ·exact sim_rimage HI.out.1 HSH.out (Sim.below HS.out hS)
      rintro jv x3 ⟨y9, B9⟩
      have HA := hdH (HA.out.below B9)
      have HJ := hdH (y9)
      have hS : Below wr.heap.size wr x3 := hS.trans (B9.mono hS.size)
      clear B9 y9
      refine hK.out _ _ hS (fun _ => ?_)
      simp only [Act.put, zE1, zE2, zE3]
      clear hK K
      refine wpAnyH_ready (rs := [4]) (by kernel_rfl) (by simp) ?_
      refine AllReadyH.cons rfl (fun K hK => ?_) AllReadyH.nil
      refine ge.step_callW _ (by rfl) (some 128) rfl 19 #[.tmp 125, .tmp 127] #[53, 53] rfl (fun q w' => by rfl) #[iv, jv] (by simp only [List.map_toArray, List.map_cons, List.map_nil]; rfl) (fun v w' => v = .bool true ∧ Below x3.heap.size x3 w') ?_ ?_
      ·exact (same_ok _ _ _ _ HA.out HJ.out).mono fun _ _ ⟨h1, h2⟩ => ⟨_, h1, rfl, h2⟩
      rintro _ x4 ⟨rfl, B9⟩
      have hS : Below wr.heap.size wr x4 := hS.trans (B9.mono hS.size)
      clear B9
      refine hK.out _ _ hS (fun _ => ?_)
      simp only [Act.put, zE1, zE2, zE3]
      clear hK K
      refine tkH 5 (some 129) (.bool true) rfl rfl (Or.inl ⟨by rfl, fun w' hw' => by rfl⟩) hS ?_
      simp only [Act.put, zE1, zE2, zE3]
      refine wpAnyH_ready (rs := [6]) (by kernel_rfl) (by simp) ?_
      refine AllReadyH.cons rfl (fun K hK => ?_) AllReadyH.nil
      refine ge.step_callW _ (by rfl) (some 130) rfl 11 #[] #[] rfl (fun q w' => by rfl) #[] (by simp only [List.map_toArray, List.map_nil]) (fun v w' => v = .bool true ∧ Below x4.heap.size x4 w') ?_ ?_
      ·exact (awake_any _).mono fun _ _ ⟨h1, h2⟩ => ⟨_, h1, rfl, h2⟩
      rintro _ x5 ⟨rfl, B9⟩
      have hS : Below wr.heap.size wr x5 := hS.trans (B9.mono hS.size)
      clear B9
      refine hK.out _ _ hS (fun _ => ?_)
      simp only [Act.put, zE1, zE2, zE3]
      clear hK K
      refine tkH 7 (some 131) (.bool true) rfl rfl (Or.inl ⟨by rfl, fun w' hw' => by rfl⟩) hS ?_
      simp only [Act.put, zE1, zE2, zE3]
      refine tkH 8 (some 2) (.bool true) rfl rfl (Or.inl ⟨by rfl, fun w' hw' => by rfl⟩) hS ?_
      simp only [Act.put, zE1, zE2, zE3]
      refine wpAnyH_done (by kernel_rfl) ?_ _
      have BBz := bT BB hS
      clear hS
      go_wp2
      go_ret
      exact ⟨rfl, BBz.out⟩
  ·have lk : ¬ ((k : Int) < (ts.length : Int)) := by omega
   have LQ : Hid (∃ z : Int, z = -1 ∧ -1 ≤ z ∧ z ≤ (N : Int) + 1) := ⟨-1, rfl, by omega, by omega⟩
   have c0 := HC.out.cell 0 _ rfl
   go_wp2
   go_loopw [9] (fun i wq => ∃ z : Int, -1 ≤ z ∧ z ≤ (N : Int) + 1 ∧ i = .int .i64 z ∧ wq = wr) (fun i _ => ((N : Int) + 1 - intOf i).toNat)
   case atStart => exact ⟨-1, by omega, by omega, rfl, rfl⟩
   case round =>
    obtain ⟨z, hz1, hz2, rfl, hwq⟩ := hrel
    obtain rfl := hwq.symm
    have hN9 : (N : Int) ≤ 64 := by have := HN6.out; omega
    by_cases hzl : z ≤ (N : Int)
    ·have t0 : (1 : Nat) = 1 := rfl
     by_cases hz0 : 0 ≤ z
     ·by_cases hzN : z < (N : Int)
      ·obtain ⟨n, rfl⟩ : ∃ n : Nat, z = n := ⟨z.toNat, by omega⟩
       obtain ⟨bb, bo, gv, uv, rfl, hrw⟩ := ref_blk HS.out n (by omega)
       have y6 := HW.out.cell 6 _ rfl
       have y4 := hrw wr (Below.refl _ _) 4 _ rfl
       have nb : n < N := by omega
       have HE : Hid (Calls Try.prog 18 #[.pointer (some ⟨c, 0, none⟩), .int .i64 (n : Int)] wr fun e w' => e = .returned (.int .i64 (ers s n)) ∧ w' = wr) := sim_erases HS.out n _ (fun _ => by simp) (fun q => absurd ⟨hz0, hzN⟩ q)
       obtain ⟨ee, he⟩ : ∃ x, ers s n = x := ⟨_, rfl⟩
       rw [he] at HE y4
       clear hrw he
       go_wp2_with (first
        | (have q0 := t0; go_at_call 18; refine HE.out.mono ?_; rintro e9 w9 ⟨rfl, h9⟩; obtain rfl := h9.symm; clear t0))
       go_roundw
       case rel => exact ⟨(n : Int) + 1, by omega, by omega, by go_num, trivial⟩
       case measure => simp [intOf]; omega
      ·have HE : Hid (Calls Try.prog 18 #[.pointer (some ⟨c, 0, none⟩), .int .i64 z] wr fun e w' => e = .returned (.int .i64 0) ∧ w' = wr) := sim_erases HS.out z _ (fun q => absurd q.2 hzN) (fun _ => rfl)
       go_wp2_with (first
        | (have q0 := t0; go_at_call 18; refine HE.out.mono ?_; rintro e9 w9 ⟨rfl, h9⟩; obtain rfl := h9.symm; clear t0))
       go_roundw
       case rel => exact ⟨z + 1, by omega, by omega, by go_num, trivial⟩
       case measure => simp [intOf]; omega
     ·have HE : Hid (Calls Try.prog 18 #[.pointer (some ⟨c, 0, none⟩), .int .i64 z] wr fun e w' => e = .returned (.int .i64 0) ∧ w' = wr) := sim_erases HS.out z _ (fun q => absurd q.1 hz0) (fun _ => rfl)
      go_wp2_with (first
       | (have q0 := t0; go_at_call 18; refine HE.out.mono ?_; rintro e9 w9 ⟨rfl, h9⟩; obtain rfl := h9.symm; clear t0))
      go_roundw
      case rel => exact ⟨z + 1, by omega, by omega, by go_num, trivial⟩
      case measure => simp [intOf]; omega
    ·go_wp2
     refine wp_region_held_drew (S := fun w' => Below wr.heap.size wr w') (by kernel_rfl) (Below.refl _ _).drew (fun hS => ?_)
     obtain ⟨x1, hx0⟩ : ∃ x, x = wr.drew := ⟨_, rfl⟩
     rw [← hx0] at hS  ⊢
     clear hx0
     refine tkH 0 (some 124) (.pointer (some ⟨c, 0, none⟩)) rfl rfl (Or.inl ⟨by rfl, fun w' hw' => by rfl⟩) hS ?_
     simp only [Act.put, zE1, zE2, zE3]
     refine tkH 2 (some 126) (.agg (chr [(N : Int), P, g2, g3, g4, g5] (.slice bq N bc) (.slice pq pn pd) (off s) (ops s : Int)).toArray) rfl rfl (Or.inl ⟨by rfl, fun w' hw' => by exact exec_loadN 38 (.tmp 5) rfl _ rfl _ _ (load_cells rowy_chipR (HW.out.below hw' (vlt HW.out)).1)⟩) hS ?_
     simp only [Act.put, zE1, zE2, zE3]
     refine wpAnyH_ready (rs := [1]) (by kernel_rfl) (by simp) ?_
     refine AllReadyH.cons rfl (fun K hK => ?_) AllReadyH.nil
     refine ge.step_callW _ (by rfl) (some 125) rfl 20 #[.tmp 124] #[28] rfl (fun q w' => by rfl) #[.pointer (some ⟨c, 0, none⟩)] (by simp only [List.map_toArray, List.map_cons, List.map_nil]; rfl) (fun v w' => Byt w' v (img N P s) ∧ Below x1.heap.size x1 w') ?_ ?_
     ·exact (sim_image (Sim.below HS.out hS)).mono fun _ _ ⟨v, h1, h2, h3⟩ => ⟨v, h1, h2.1, h3⟩
     rintro iv x2 ⟨y9, B9⟩
     have HA := hdH (y9)
     have hS : Below wr.heap.size wr x2 := hS.trans (B9.mono hS.size)
     clear B9 y9
     refine hK.out _ _ hS (fun _ => ?_)
     simp only [Act.put, zE1, zE2, zE3]
     clear hK K
     refine wpAnyH_ready (rs := [3]) (by kernel_rfl) (by simp) ?_
     refine AllReadyH.cons rfl (fun K hK => ?_) AllReadyH.nil
     refine ge.step_callW _ (by rfl) (some 127) rfl 21 #[.tmp 126] #[38] rfl (fun q w' => by rfl) #[.agg (chr [(N : Int), P, g2, g3, g4, g5] (.slice bq N bc) (.slice pq pn pd) (off s) (ops s : Int)).toArray] (by simp only [List.map_toArray, List.map_cons, List.map_nil]; rfl) (fun v w' => Byt w' v (img N P s) ∧ Below x2.heap.size x2 w') ?_ ?_
     ·exact sim_rimage HI.out.1 HSH.out (Sim.below HS.out hS)
     rintro jv x3 ⟨y9, B9⟩
     have HA := hdH (HA.out.below B9)
     have HJ := hdH (y9)
     have hS : Below wr.heap.size wr x3 := hS.trans (B9.mono hS.size)
     clear B9 y9
     refine hK.out _ _ hS (fun _ => ?_)
     simp only [Act.put, zE1, zE2, zE3]
     clear hK K
     refine wpAnyH_ready (rs := [4]) (by kernel_rfl) (by simp) ?_
     refine AllReadyH.cons rfl (fun K hK => ?_) AllReadyH.nil
     refine ge.step_callW _ (by rfl) (some 128) rfl 19 #[.tmp 125, .tmp 127] #[53, 53] rfl (fun q w' => by rfl) #[iv, jv] (by simp only [List.map_toArray, List.map_cons, List.map_nil]; rfl) (fun v w' => v = .bool true ∧ Below x3.heap.size x3 w') ?_ ?_
     ·exact (same_ok _ _ _ _ HA.out HJ.out).mono fun _ _ ⟨h1, h2⟩ => ⟨_, h1, rfl, h2⟩
     rintro _ x4 ⟨rfl, B9⟩
     have hS : Below wr.heap.size wr x4 := hS.trans (B9.mono hS.size)
     clear B9
     refine hK.out _ _ hS (fun _ => ?_)
     simp only [Act.put, zE1, zE2, zE3]
     clear hK K
     refine tkH 5 (some 129) (.bool true) rfl rfl (Or.inl ⟨by rfl, fun w' hw' => by rfl⟩) hS ?_
     simp only [Act.put, zE1, zE2, zE3]
     refine wpAnyH_ready (rs := [6]) (by kernel_rfl) (by simp) ?_
     refine AllReadyH.cons rfl (fun K hK => ?_) AllReadyH.nil
     refine ge.step_callW _ (by rfl) (some 130) rfl 11 #[] #[] rfl (fun q w' => by rfl) #[] (by simp only [List.map_toArray, List.map_nil]) (fun v w' => v = .bool true ∧ Below x4.heap.size x4 w') ?_ ?_
     ·exact (awake_any _).mono fun _ _ ⟨h1, h2⟩ => ⟨_, h1, rfl, h2⟩
     rintro _ x5 ⟨rfl, B9⟩
     have hS : Below wr.heap.size wr x5 := hS.trans (B9.mono hS.size)
     clear B9
     refine hK.out _ _ hS (fun _ => ?_)
     simp only [Act.put, zE1, zE2, zE3]
     clear hK K
     refine tkH 7 (some 131) (.bool true) rfl rfl (Or.inl ⟨by rfl, fun w' hw' => by rfl⟩) hS ?_
     simp only [Act.put, zE1, zE2, zE3]
     refine tkH 8 (some 2) (.bool true) rfl rfl (Or.inl ⟨by rfl, fun w' hw' => by rfl⟩) hS ?_
     simp only [Act.put, zE1, zE2, zE3]
     refine wpAnyH_done (by kernel_rfl) ?_ _
     have BBz := bT BB hS
     clear hS
     go_wp2
     go_ret
     exact ⟨rfl, BBz.out⟩
end Go.Proofs.Ytoohbigedblklaa.na
namespace Go.Proofs.Ytoohbigedblklaa.nandRuns
open Go.ChangeShapes Go.WideShapes Go.ChangeAt Go.RowKit
set_option maxRecDepth 20000

open Go.Proofs.Ytoohbigedblklaa.na Go.Proofs.Ytoohbigedblklaa.fa
open Go.Proofs.Ytoohbigedblklaa.ge (place_open)

theorem walk (g : List Int) (pv sv : Value) (fs : List (Int × Bool × Value)) (ms : Nat → List Int) (ts : List Stp) (w : World) (hg : g.length = 6) (hf : Fls w pv fs) (hm : Mks w fs ms) (hst : Stps w sv ts) :
    Calls Try.prog 3 #[.agg ((g : List Int).map (Value.int .i64) ++ [pv, sv]).toArray] w fun e w' => e = .returned (.bool true) ∧ Below w.heap.size w w' := by
  obtain ⟨g0, g1, g2, g3, g4, g5, rfl⟩ : ∃ g0 g1 g2 g3 g4 g5, g = [g0, g1, g2, g3, g4, g5] := by
    match g, hg with
    | [g0, g1, g2, g3, g4, g5], _ => exact ⟨g0, g1, g2, g3, g4, g5, rfl⟩
  obtain ⟨po, pc, rfl⟩ : ∃ ao cap, pv = .slice ao fs.length cap := by obtain ⟨ao, cap, e, _⟩ := hf; exact ⟨ao, cap, e⟩
  obtain ⟨so, sc, rfl⟩ : ∃ ao cap, sv = .slice ao ts.length cap := by obtain ⟨⟨ao, cap, e, _⟩, _⟩ := hst; exact ⟨ao, cap, by rw [List.length_map] at e; exact e⟩
  by_cases hr : ge.Rt [g0, g1, g2, g3, g4, g5]
  · by_cases hk : fs.length ≤ 64 ∧ Okp fs ms fs.length
    · obtain ⟨N, P, S, rfl, rfl, hs⟩ := shp_of hr
      by_cases hl : (N : Int) ≤ 16 ∧ (P : Int) ≤ 20 ∧ g2 ≤ 128
      · exact run_D N P S g2 g3 g4 g5 hs po so pc sc fs ms ts w hf hm hk hl hst
      · exact run_C N P S g2 g3 g4 g5 hs po so pc sc fs ms ts w hf hm hk hl
    · exact run_B g0 g1 g2 g3 g4 g5 po so pc sc fs ms ts w hf hm hr hk
  · exact run_A g0 g1 g2 g3 g4 g5 po so pc sc fs ms ts w hf hm hr

theorem params : ∀ t ∈ Try.f3.params.toList, Try.prog.readableRec t = true ∧ t < Try.prog.types.size := by
  rw [Try.params3]
  intro t ht
  simp at ht
  subst ht
  exact ⟨by kernel_rfl, of_decide_eq_true (by kernel_rfl)⟩

theorem contract (H : Type) (enc : TypeId × Value → H) (W : World) (base : Nat) (args : Array Value) (ds gs : List (DataW H)) (before : List MemPlace)
    (hval : ∀ (j : Nat) t v, Try.f3.params[j]? = some t → args[j]? = some v → Value.okWide Try.prog W .any base t v)
    (hW : DataW.Whole enc Try.prog Try.f3.params.toList Rows.nandRunsSpec.vars false W args.toList ds gs before)
    (hsz : (DataW.weightsEach Try.prog (Try.f3.params.toList ++ (OpenSpec.ofChange Rows.nandRunsSpec).bare.plain.varTypes Try.prog) (ds ++ gs)).all (· ≤ reachBytes) = true) :
    Calls Try.prog 3 args W fun e W' => ∃ v, e = .returned v ∧ Rows.nandRunsSpec.post enc Try.prog Try.f3 false true false false W args v W' := by
  have hW' := hW
  obtain ⟨p, q, hA0, hV, rfl, hfz, hnd⟩ := hW
  have hA : DataW.TrodAll enc Try.prog W 0 (fun _ => true) true Try.f3.params.toList args.toList ds p := hA0
  rw [Try.params3] at hA hval
  obtain ⟨v0, d0, rfl, rfl, h0⟩ := trodAll_one hA
  obtain ⟨rfl, rfl⟩ := trodVars_none hV
  obtain ⟨g0, pv0, sv0, fs0, ms0, ts0, rfl, n0, b0, c0, e0⟩ := case_open (hval 0 27 v0 rfl rfl) h0 (fun n hn => by have := List.all_eq_true.1 hsz n (DataW.weights_mem_each (j := 0) (t := 27) (d := d0) (by rw [Try.params3]; rfl) rfl n hn); simpa using this)
  clear hA0
  refine (walk g0 pv0 sv0 fs0 ms0 ts0 W n0 b0 c0 e0).mono fun e W' ⟨he, hg⟩ => ?_
  subst he
  exact ⟨_, rfl, post_law rfl (by kernel_rfl) params rfl rfl rfl hW' hg⟩

theorem laid_met (os : Os) : laidMet Try.prog Rows.nandRunsRow.laid ((World.holding Try.prog os ⟨#[], #[], []⟩).forCall (fun _ _ => 0) ⟨#[], #[.agg #[.int .i64 0, .int .i64 0, .int .i64 0, .int .i64 0, .int .i64 0, .int .i64 0, .slice none 0 0, .slice none 0 0]], []⟩).memory :=
  laidMet_of_run' 8 (by kernel_rfl) (by kernel_rfl)
theorem reads (os : Os) {H : Type} (enc : TypeId × Value → H) : ∃ places, DataW.whole enc Try.prog ((World.holding Try.prog os ⟨#[], #[], []⟩).forCall (fun _ _ => 0) ⟨#[], #[.agg #[.int .i64 0, .int .i64 0, .int .i64 0, .int .i64 0, .int .i64 0, .int .i64 0, .slice none 0 0, .slice none 0 0]], []⟩).memory Try.f3.params.toList Rows.nandRunsSpec.vars false #[Value.agg #[.int .i64 0, .int .i64 0, .int .i64 0, .int .i64 0, .int .i64 0, .int .i64 0, .slice none 0 0, .slice none 0 0]].toList 8 = some ([.agg [.agg [.lit (.int .i64 0), .lit (.int .i64 0), .lit (.int .i64 0), .lit (.int .i64 0), .lit (.int .i64 0), .lit (.int .i64 0)], .nil, .nil]], [], places) :=
  ⟨[], by kernel_rfl⟩

set_option maxRecDepth 100000 in
theorem lifted (os : Os) (started : os.Started) (H : Type) (enc : TypeId × Value → H) (F : Stop.Interp) :
    ReturnsInHanded {} Try.checked os 3 .any ((OpenSpec.ofChange Rows.nandRunsSpec).preRow enc Try.prog Try.f3 Rows.nandRunsRow.domain false Rows.nandRunsRow.laid) (((OpenSpec.ofChange Rows.nandRunsSpec).at F).post enc Try.prog Try.f3 false true false false) := by
  obtain ⟨places, hx⟩ := reads os enc
  refine returnsInHanded_of_row (C := Try.checked) (s := OpenSpec.ofChange Rows.nandRunsSpec) own started (by kernel_rfl) Try.func3
    (witness_row_at (enc := enc) (C := Try.checked) false (World.holding Try.prog os ⟨#[], #[], []⟩) #[.agg #[.int .i64 0, .int .i64 0, .int .i64 0, .int .i64 0, .int .i64 0, .int .i64 0, .slice none 0 0, .slice none 0 0]] rfl (by kernel_rfl) (by kernel_rfl) (by kernel_rfl)
      (OpenSpec.preRow_of_cond 8 hx (by kernel_rfl) (fun k hk => by cases hk) (by kernel_rfl) (laid_met os))) ?_
  intro W base args ds gs before hval hW _ _ hsz _ _ _
  exact contract H enc W base args ds gs before hval hW hsz

theorem said : Rows.NandRunsSaid :=
  OpenClaim.holds_of_cond 3 Try.f3 rfl rfl rfl rfl rfl rfl rfl ⟨rfl, rfl, rfl, rfl, rfl⟩ rfl rfl rfl rfl rfl (by kernel_rfl) Try.func3 (by kernel_rfl)
    (of_decide_eq_true (by kernel_rfl)) (by unfold Func.isWrapper; first | (rw [if_pos (by decide +kernel)]; kernel_rfl) | (rw [if_neg (by decide +kernel)]; exact ⟨rfl, rfl⟩))
    (fun os started H enc _ F => by rw [OpenClaim.pre_eq_preRow]; exact lifted os started H enc F)
end Go.Proofs.Ytoohbigedblklaa.nandRuns

namespace Go.Proofs.Ytoohbigedblklaa
theorem nandRuns_said : Rows.NandRunsSaid := nandRuns.said
#print axioms nandRuns_said
end Go.Proofs.Ytoohbigedblklaa
