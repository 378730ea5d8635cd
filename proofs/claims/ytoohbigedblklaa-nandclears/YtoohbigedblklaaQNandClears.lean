/- Any operations, of which there are at most six, on an array of a right geometry that is small, with any plan that is right: each but an erase, and a byte changed, only clears; what was refused changes nothing. Of others: the program answers. No condition. -/
import Derived.Test.YtoohbigedblklaaPk32
import Derived.Test.YtoohbigedblklaaPk31
import Derived.Test.YtoohbigedblklaaPk02
namespace Go.Proofs.Ytoohbigedblklaa.na
open Go.RowKit Go.Proofs.Ytoohbigedblklaa.fa
set_option maxRecDepth 20000
set_option maxHeartbeats 2000000 in
theorem clr_A (g0 g1 g2 g3 g4 g5 : Int) (po so : Option Addr) (pc sc : Nat) (fs : List (Int × Bool × Value)) (ts : List Stp) (w : World) (hr : ¬ ge.Rt [g0, g1, g2, g3, g4, g5]) :
  Calls Try.prog 6 #[.agg ([.int .i64 g0, .int .i64 g1, .int .i64 g2, .int .i64 g3, .int .i64 g4, .int .i64 g5, .slice po fs.length pc, .slice so ts.length sc] : List Value).toArray] w fun e w' => e = .returned (.bool true) ∧ Below w.heap.size w w' := by
 have SG : Hid (∀ w0, Calls Try.prog 9 #[.agg (ints .i64 [g0, g1, g2, g3, g4, g5])] w0 fun x w' => x = .returned (.bool false) ∧ Below w0.heap.size w0 w') := ge.right_no [g0, g1, g2, g3, g4, g5] rfl hr
 clear hr
 have t0 : (0 : Nat) = 0 := rfl
 have ta : (0 : Nat) = 0 := rfl
 go_enter Try.func6, Try.ntmps6
 go_wp2_with (first
  | (have qa := ta; go_at_call 11; refine (awake_any _).mono ?_; rintro e9 wz ⟨rfl, Bz⟩; have BBz := bT BB Bz; clear Bz ta)
  | (have q1 := t1; go_at_call 9; refine (SG.out _).mono ?_; rintro e9 w2 ⟨rfl, B2⟩; clear r0 r1 r2 r3 r4 r5 r6 r7; have HC := vB HC B2 (vlt HC.out); have BB := bT BB B2; obtain ⟨r0, r1, r2, r3, r4, r5, r6, r7⟩ := vK8 HC.out; clear B2 t1; have t2 : (1 : Nat) = 1 := rfl)
  | (have q0 := t0; refine box_lawC _ [.int .i64 g0, .int .i64 g1, .int .i64 g2, .int .i64 g3, .int .i64 g4, .int .i64 g5, .slice po fs.length pc, .slice so ts.length sc] rfl ?_; intro w1 X1 B1 l1; have HC := hdH (X1); have BB := hdH (B1); obtain ⟨r0, r1, r2, r3, r4, r5, r6, r7⟩ := vK8 HC.out; clear X1 B1 l1 t0; have t1 : (1 : Nat) = 1 := rfl))
 go_ret
 exact ⟨rfl, BBz.out⟩
set_option maxHeartbeats 2000000 in
theorem clr_B (g0 g1 g2 g3 g4 g5 : Int) (po so : Option Addr) (pc sc : Nat) (fs : List (Int × Bool × Value)) (ms : Nat → List Int) (ts : List Stp) (w : World) (hf : Fls w (.slice po fs.length pc) fs) (hm : Mks w fs ms) (hr : ge.Rt [g0, g1, g2, g3, g4, g5]) (hk : ¬ (fs.length ≤ 64 ∧ Okp fs ms fs.length)) :
  Calls Try.prog 6 #[.agg ([.int .i64 g0, .int .i64 g1, .int .i64 g2, .int .i64 g3, .int .i64 g4, .int .i64 g5, .slice po fs.length pc, .slice so ts.length sc] : List Value).toArray] w fun e w' => e = .returned (.bool true) ∧ Below w.heap.size w w' := by
 have SG : Hid (∀ w0, Calls Try.prog 9 #[.agg (ints .i64 [g0, g1, g2, g3, g4, g5])] w0 fun x w' => x = .returned (.bool true) ∧ Below w0.heap.size w0 w') := ge.right_yes [g0, g1, g2, g3, g4, g5] rfl hr
 have SU : Hid (∀ w0, Below w.heap.size w w0 → Calls Try.prog 10 #[.slice po fs.length pc] w0 fun x w' => x = .returned (.bool false) ∧ Below w0.heap.size w0 w') := fun w0 hb => (rright_any _ fs ms w0 (hf.below hb) (hm.below hb) false (by simpa using hk)).mono fun _ _ ⟨h1, n, h2⟩ => ⟨h1, by rw [h2]; exact below_drewN (Below.refl _ _) n⟩
 clear hr hk hf hm
 have t0 : (0 : Nat) = 0 := rfl
 have ta : (0 : Nat) = 0 := rfl
 go_enter Try.func6, Try.ntmps6
 go_wp2_with (first
  | (have qa := ta; go_at_call 11; refine (awake_any _).mono ?_; rintro e9 wz ⟨rfl, Bz⟩; have BBz := bT BB Bz; clear Bz ta)
  | (have q2 := t2; go_at_call 10; refine (SU.out _ BB.out).mono ?_; rintro e9 w3 ⟨rfl, B3⟩; clear r0 r1 r2 r3 r4 r5 r6 r7; have HC := vB HC B3 (vlt HC.out); have BB := bT BB B3; obtain ⟨r0, r1, r2, r3, r4, r5, r6, r7⟩ := vK8 HC.out; clear B3 t2; have t3 : (1 : Nat) = 1 := rfl)
  | (have q1 := t1; go_at_call 9; refine (SG.out _).mono ?_; rintro e9 w2 ⟨rfl, B2⟩; clear r0 r1 r2 r3 r4 r5 r6 r7; have HC := vB HC B2 (vlt HC.out); have BB := bT BB B2; obtain ⟨r0, r1, r2, r3, r4, r5, r6, r7⟩ := vK8 HC.out; clear B2 t1; have t2 : (1 : Nat) = 1 := rfl)
  | (have q0 := t0; refine box_lawC _ [.int .i64 g0, .int .i64 g1, .int .i64 g2, .int .i64 g3, .int .i64 g4, .int .i64 g5, .slice po fs.length pc, .slice so ts.length sc] rfl ?_; intro w1 X1 B1 l1; have HC := hdH (X1); have BB := hdH (B1); obtain ⟨r0, r1, r2, r3, r4, r5, r6, r7⟩ := vK8 HC.out; clear X1 B1 l1 t0; have t1 : (1 : Nat) = 1 := rfl))
 go_ret
 exact ⟨rfl, BBz.out⟩
set_option maxHeartbeats 2000000 in
theorem clr_C (g0 g1 g2 g3 g4 g5 : Int) (po so : Option Addr) (pc sc : Nat) (fs : List (Int × Bool × Value)) (ms : Nat → List Int) (ts : List Stp) (w : World) (hf : Fls w (.slice po fs.length pc) fs) (hm : Mks w fs ms) (hr : ge.Rt [g0, g1, g2, g3, g4, g5]) (hk : fs.length ≤ 64 ∧ Okp fs ms fs.length) (hl : ¬ (g0 ≤ 16 ∧ g1 ≤ 20 ∧ g2 ≤ 128)) :
  Calls Try.prog 6 #[.agg ([.int .i64 g0, .int .i64 g1, .int .i64 g2, .int .i64 g3, .int .i64 g4, .int .i64 g5, .slice po fs.length pc, .slice so ts.length sc] : List Value).toArray] w fun e w' => e = .returned (.bool true) ∧ Below w.heap.size w w' := by
 have SG : Hid (∀ w0, Calls Try.prog 9 #[.agg (ints .i64 [g0, g1, g2, g3, g4, g5])] w0 fun x w' => x = .returned (.bool true) ∧ Below w0.heap.size w0 w') := ge.right_yes [g0, g1, g2, g3, g4, g5] rfl hr
 have SU : Hid (∀ w0, Below w.heap.size w w0 → Calls Try.prog 10 #[.slice po fs.length pc] w0 fun x w' => x = .returned (.bool true) ∧ Below w0.heap.size w0 w') := fun w0 hb => (rright_any _ fs ms w0 (hf.below hb) (hm.below hb) true (by simpa using hk)).mono fun _ _ ⟨h1, n, h2⟩ => ⟨h1, by rw [h2]; exact below_drewN (Below.refl _ _) n⟩
 have SL : Hid (∀ w0, Calls Try.prog 12 #[.agg (ints .i64 [g0, g1, g2, g3, g4, g5])] w0 fun x w' => x = .returned (.bool false) ∧ Below w0.heap.size w0 w') := fun w0 => light_any g0 g1 g2 g3 g4 g5 w0 _ (by simp at hl ⊢; exact hl)
 clear hr hk hl hf hm
 have t0 : (0 : Nat) = 0 := rfl
 have ta : (0 : Nat) = 0 := rfl
 go_enter Try.func6, Try.ntmps6
 go_wp2_with (first
  | (have qa := ta; go_at_call 11; refine (awake_any _).mono ?_; rintro e9 wz ⟨rfl, Bz⟩; have BBz := bT BB Bz; clear Bz ta)
  | (have q3 := t3; go_at_call 12; refine (SL.out _).mono ?_; rintro e9 w4 ⟨rfl, B4⟩; clear r0 r1 r2 r3 r4 r5 r6 r7; have HC := vB HC B4 (vlt HC.out); have BB := bT BB B4; obtain ⟨r0, r1, r2, r3, r4, r5, r6, r7⟩ := vK8 HC.out; clear B4 t3; have t4 : (1 : Nat) = 1 := rfl)
  | (have q2 := t2; go_at_call 10; refine (SU.out _ BB.out).mono ?_; rintro e9 w3 ⟨rfl, B3⟩; clear r0 r1 r2 r3 r4 r5 r6 r7; have HC := vB HC B3 (vlt HC.out); have BB := bT BB B3; obtain ⟨r0, r1, r2, r3, r4, r5, r6, r7⟩ := vK8 HC.out; clear B3 t2; have t3 : (1 : Nat) = 1 := rfl)
  | (have q1 := t1; go_at_call 9; refine (SG.out _).mono ?_; rintro e9 w2 ⟨rfl, B2⟩; clear r0 r1 r2 r3 r4 r5 r6 r7; have HC := vB HC B2 (vlt HC.out); have BB := bT BB B2; obtain ⟨r0, r1, r2, r3, r4, r5, r6, r7⟩ := vK8 HC.out; clear B2 t1; have t2 : (1 : Nat) = 1 := rfl)
  | (have q0 := t0; refine box_lawC _ [.int .i64 g0, .int .i64 g1, .int .i64 g2, .int .i64 g3, .int .i64 g4, .int .i64 g5, .slice po fs.length pc, .slice so ts.length sc] rfl ?_; intro w1 X1 B1 l1; have HC := hdH (X1); have BB := hdH (B1); obtain ⟨r0, r1, r2, r3, r4, r5, r6, r7⟩ := vK8 HC.out; clear X1 B1 l1 t0; have t1 : (1 : Nat) = 1 := rfl))
 go_ret
 exact ⟨rfl, BBz.out⟩
set_option maxHeartbeats 2000000 in
theorem clr_D (g0 g1 g2 g3 g4 g5 : Int) (po so : Option Addr) (pc sc : Nat) (fs : List (Int × Bool × Value)) (ms : Nat → List Int) (ts : List Stp) (w : World) (hf : Fls w (.slice po fs.length pc) fs) (hm : Mks w fs ms) (hr : ge.Rt [g0, g1, g2, g3, g4, g5]) (hk : fs.length ≤ 64 ∧ Okp fs ms fs.length) (hl : g0 ≤ 16 ∧ g1 ≤ 20 ∧ g2 ≤ 128) (hn : 6 < ts.length) :
  Calls Try.prog 6 #[.agg ([.int .i64 g0, .int .i64 g1, .int .i64 g2, .int .i64 g3, .int .i64 g4, .int .i64 g5, .slice po fs.length pc, .slice so ts.length sc] : List Value).toArray] w fun e w' => e = .returned (.bool true) ∧ Below w.heap.size w w' := by
 have SG : Hid (∀ w0, Calls Try.prog 9 #[.agg (ints .i64 [g0, g1, g2, g3, g4, g5])] w0 fun x w' => x = .returned (.bool true) ∧ Below w0.heap.size w0 w') := ge.right_yes [g0, g1, g2, g3, g4, g5] rfl hr
 have SU : Hid (∀ w0, Below w.heap.size w w0 → Calls Try.prog 10 #[.slice po fs.length pc] w0 fun x w' => x = .returned (.bool true) ∧ Below w0.heap.size w0 w') := fun w0 hb => (rright_any _ fs ms w0 (hf.below hb) (hm.below hb) true (by simpa using hk)).mono fun _ _ ⟨h1, n, h2⟩ => ⟨h1, by rw [h2]; exact below_drewN (Below.refl _ _) n⟩
 have SL : Hid (∀ w0, Calls Try.prog 12 #[.agg (ints .i64 [g0, g1, g2, g3, g4, g5])] w0 fun x w' => x = .returned (.bool true) ∧ Below w0.heap.size w0 w') := fun w0 => light_any g0 g1 g2 g3 g4 g5 w0 _ (by simp [hl])
 have hn' : (6 : Int) < (ts.length : Int) := by omega
 clear hr hk hl hn hf hm
 have t0 : (0 : Nat) = 0 := rfl
 have ta : (0 : Nat) = 0 := rfl
 go_enter Try.func6, Try.ntmps6
 go_wp2_with (first
  | (have qa := ta; go_at_call 11; refine (awake_any _).mono ?_; rintro e9 wz ⟨rfl, Bz⟩; have BBz := bT BB Bz; clear Bz ta)
  | (have q3 := t3; go_at_call 12; refine (SL.out _).mono ?_; rintro e9 w4 ⟨rfl, B4⟩; clear r0 r1 r2 r3 r4 r5 r6 r7; have HC := vB HC B4 (vlt HC.out); have BB := bT BB B4; obtain ⟨r0, r1, r2, r3, r4, r5, r6, r7⟩ := vK8 HC.out; clear B4 t3; have t4 : (1 : Nat) = 1 := rfl)
  | (have q2 := t2; go_at_call 10; refine (SU.out _ BB.out).mono ?_; rintro e9 w3 ⟨rfl, B3⟩; clear r0 r1 r2 r3 r4 r5 r6 r7; have HC := vB HC B3 (vlt HC.out); have BB := bT BB B3; obtain ⟨r0, r1, r2, r3, r4, r5, r6, r7⟩ := vK8 HC.out; clear B3 t2; have t3 : (1 : Nat) = 1 := rfl)
  | (have q1 := t1; go_at_call 9; refine (SG.out _).mono ?_; rintro e9 w2 ⟨rfl, B2⟩; clear r0 r1 r2 r3 r4 r5 r6 r7; have HC := vB HC B2 (vlt HC.out); have BB := bT BB B2; obtain ⟨r0, r1, r2, r3, r4, r5, r6, r7⟩ := vK8 HC.out; clear B2 t1; have t2 : (1 : Nat) = 1 := rfl)
  | (have q0 := t0; refine box_lawC _ [.int .i64 g0, .int .i64 g1, .int .i64 g2, .int .i64 g3, .int .i64 g4, .int .i64 g5, .slice po fs.length pc, .slice so ts.length sc] rfl ?_; intro w1 X1 B1 l1; have HC := hdH (X1); have BB := hdH (B1); obtain ⟨r0, r1, r2, r3, r4, r5, r6, r7⟩ := vK8 HC.out; clear X1 B1 l1 t0; have t1 : (1 : Nat) = 1 := rfl))
 go_ret
 exact ⟨rfl, BBz.out⟩
set_option maxHeartbeats 4000000 in
theorem clr_E (N P S : Nat) (g2 g3 g4 g5 : Int) (hs : Shp [(N : Int), P, g2, g3, g4, g5] N P S) (po so : Option Addr) (pc sc : Nat) (fs : List (Int × Bool × Value)) (ms : Nat → List Int) (ts : List Stp) (w : World) (hf : Fls w (.slice po fs.length pc) fs) (hm : Mks w fs ms) (hk : fs.length ≤ 64 ∧ Okp fs ms fs.length) (hl : (N : Int) ≤ 16 ∧ (P : Int) ≤ 20 ∧ g2 ≤ 128) (hn : ts.length ≤ 6) (hst : Stps w (.slice so ts.length sc) ts) :
  Calls Try.prog 6 #[.agg ([.int .i64 (N : Int), .int .i64 (P : Int), .int .i64 g2, .int .i64 g3, .int .i64 g4, .int .i64 g5, .slice po fs.length pc, .slice so ts.length sc] : List Value).toArray] w fun e w' => e = .returned (.bool true) ∧ Below w.heap.size w w' := by
 have HSH := hdH (hs)
 have HF := hdH (hf)
 have HMK := hdH (hm)
 have HK := hdH (hk)
 have HST : Hid (Stps w (.slice so ts.length sc) ts) := hst
 have SG : Hid (∀ w0, Calls Try.prog 9 #[.agg (ints .i64 [(N : Int), P, g2, g3, g4, g5])] w0 fun x w' => x = .returned (.bool true) ∧ Below w0.heap.size w0 w') := ge.right_yes [(N : Int), P, g2, g3, g4, g5] rfl hs.2.1
 have SU : Hid (∀ w0, Below w.heap.size w w0 → Calls Try.prog 10 #[.slice po fs.length pc] w0 fun x w' => x = .returned (.bool true) ∧ Below w0.heap.size w0 w') := fun w0 hb => (rright_any _ fs ms w0 (hf.below hb) (hm.below hb) true (by simpa using hk)).mono fun _ _ ⟨h1, n, h2⟩ => ⟨h1, by rw [h2]; exact below_drewN (Below.refl _ _) n⟩
 have SL : Hid (∀ w0, Calls Try.prog 12 #[.agg (ints .i64 [(N : Int), P, g2, g3, g4, g5])] w0 fun x w' => x = .returned (.bool true) ∧ Below w0.heap.size w0 w') := fun w0 => light_any N P g2 g3 g4 g5 w0 _ (by simp [hl])
 have SN : Hid (∀ w0, Below w.heap.size w w0 → Calls Try.prog 8 #[.agg (ints .i64 [(N : Int), P, g2, g3, g4, g5]), .slice po fs.length pc] w0 (Made w0 [(N : Int), P, g2, g3, g4, g5] N P S (plnOf fs ms))) := fun w0 hb => new_yes g2 g3 g4 g5 N P S hs _ fs ms w0 (hf.below hb) (hm.below hb) hk.1 hk.2
 have HBG : Hid (N * (P * S) ≤ 1048576) := (by have := shp_num hs; have h5 : g2 + 88 = (S : Int) := hs.2.2.2.2; have h6 : P * S ≤ 20 * 216 := Nat.mul_le_mul (by omega) (by omega); exact Nat.le_trans (Nat.mul_le_mul (show N ≤ 16 by omega) h6) (by omega))
 have hn' : ¬ ((6 : Int) < (ts.length : Int)) := by omega
 clear hs hf hm hk hl hst
 have t0 : (0 : Nat) = 0 := rfl
 go_enter Try.func6, Try.ntmps6
 go_wp2_with (first
  | (have q8 := t8; go_at_call 20; refine (sim_image HS8.out).mono ?_; rintro e9 w9 ⟨v9, rfl, Y9, B9⟩; have HWA : Hid (Byt (hid (uni M (one w6.heap.size)) w9) v9 (img N P (new S))) := bow_hid Y9 (uni_lt (fun k hk => Nat.lt_of_lt_of_le (HM5.out k hk) (by have := L6.out; have := HW.out.1; have := range_lt this (by simp [chr]); omega)) (one_lt (vlt HW.out))); have HS9 := hdH (HS8.out.below B9); have HNB := hdH (HNB.out.heap (B9.block _ (vlt HW.out))); have HW := vB HW B9 (vlt HW.out); clear r0 r1 r2 r3 r4 r5 r6 r7; have HC := vB HC B9 (vlt HC.out); have BB := bT BB B9; obtain ⟨r0, r1, r2, r3, r4, r5, r6, r7⟩ := vK8 HC.out; clear Y9 B9 HS8 t8)
  | (have q7 := t7; (with_reducible refine at_store ?_); refine store_lawC _ (chr [(N : Int), P, g2, g3, g4, g5] (.slice bq N bc) (.slice po fs.length pc) false 0) w6.heap.size 0 rfl rfl HW.out.2 rowy_chipR.2 chr_one ?_; intro w8 E8 R8 T8 B8; have K8 : w7.grownBy w8 (some w6.heap.size) := (by rw [E8.out]; exact keep_cells _ _ _ _); have HNB0 := HNB.out; have HNB : Hid (NoB w8 w6.heap.size) := (by rw [E8.out]; exact HNB.out.set HW.out rfl chr_nobyte); have MW : Hid (M w6.heap.size = false) := not_hid HM5.out L6.out.1; have HS8 : Hid (Sim M (one w6.heap.size) w8 c r d q pv [(N : Int), P, g2, g3, g4, g5] N P S (plnOf fs ms) (new S) [] (.agg (chr [(N : Int), P, g2, g3, g4, g5] (.slice bq N bc) (.slice po fs.length pc) false 0).toArray)) := HS7.out.putN HNB0 MW.out K8; have HW : Hid (Vr w8 w6.heap.size (chr [(N : Int), P, g2, g3, g4, g5] (.slice bq N bc) (.slice po fs.length pc) false 0)) := ⟨R8, T8⟩; clear r0 r1 r2 r3 r4 r5 r6 r7; have HC := hdH (HC.out.kept K8 (vlt HC.out) (by have := L4.out; have := L6.out; simp; omega)); have BB := hdH (BB.out.trans (B8.mono (by have := L4.out; have := L6.out; omega))); obtain ⟨r0, r1, r2, r3, r4, r5, r6, r7⟩ := vK8 HC.out; clear HNB0 E8 R8 T8 B8 K8 HS7 t7; have t8 : (1 : Nat) = 1 := rfl)
  | (have q6 := t6; (with_reducible refine at_alloc ?_); refine new_lawT _ _ zero_chr ?_; intro w7 X7 O7 B7 l7; have HW := hdH (X7); have HNB : Hid (NoB w7 w6.heap.size) := (by obtain ⟨fr, z⟩ := O7; exact obj_nobyte z zc_nobyte); have HS7 := hdH (HS6.out.below B7); clear r0 r1 r2 r3 r4 r5 r6 r7; have HC := vB HC B7 (vlt HC.out); have BB := bT BB B7; obtain ⟨r0, r1, r2, r3, r4, r5, r6, r7⟩ := vK8 HC.out; clear X7 O7 B7 l7 HS6 t6; have t7 : (1 : Nat) = 1 := rfl)
  | (have q5 := t5; go_at_call 14; refine (rnew_any N P S g2 g3 g4 g5 HSH.out po fs.length pc w5).mono ?_; rintro e9 w6 ⟨bv, rfl, R6, B6⟩; have HS6 : Hid (Sim M (one w6.heap.size) w6 c r d q pv [(N : Int), P, g2, g3, g4, g5] N P S (plnOf fs ms) (new S) [] (.agg (chr [(N : Int), P, g2, g3, g4, g5] bv (.slice po fs.length pc) false 0).toArray)) := sim_new HL5.out HM5.out HG5.out.1 HG5.out.2 (HF.out.below B4.out) (HMK.out.below B4.out) HK.out.1 HK.out.2 w6.heap.size (Nat.le_refl _) R6 B6; obtain ⟨bq, bc, rfl⟩ := bks_form R6; have L6 : Hid (w5.heap.size ≤ w6.heap.size ∧ w4.heap.size ≤ w5.heap.size) := ⟨B6.size, HG5.out.2.size⟩; clear r0 r1 r2 r3 r4 r5 r6 r7; have HC := vB HC B6 (vlt HC.out); have BB := bT BB B6; obtain ⟨r0, r1, r2, r3, r4, r5, r6, r7⟩ := vK8 HC.out; clear R6 B6 t5; have t6 : (1 : Nat) = 1 := rfl)
  | (have q4 := t4; go_at_call 8; refine (SN.out _ BB.out).mono ?_; rintro e9 w5 ⟨M, c, r, d, q, pv, tv, rfl, L5, M5, G5, B5⟩; have HL5 := hdH (L5); have HM5 := hdH (M5); have HG5 : Hid ((∀ k, M k = true → w4.heap.size ≤ k) ∧ Below w4.heap.size w4 w5) := ⟨G5, B5⟩; have B4 := hdH (BB.out); have L4 : Hid (w.heap.size < w4.heap.size) := range_lt HC.out.1 (by simp); clear r0 r1 r2 r3 r4 r5 r6 r7; have HC := vB HC B5 (vlt HC.out); have BB := bT BB B5; obtain ⟨r0, r1, r2, r3, r4, r5, r6, r7⟩ := vK8 HC.out; clear L5 M5 G5 B5 t4; have t5 : (1 : Nat) = 1 := rfl)
  | (have q3 := t3; go_at_call 12; refine (SL.out _).mono ?_; rintro e9 w4 ⟨rfl, B4⟩; clear r0 r1 r2 r3 r4 r5 r6 r7; have HC := vB HC B4 (vlt HC.out); have BB := bT BB B4; obtain ⟨r0, r1, r2, r3, r4, r5, r6, r7⟩ := vK8 HC.out; clear B4 t3; have t4 : (1 : Nat) = 1 := rfl)
  | (have q2 := t2; go_at_call 10; refine (SU.out _ BB.out).mono ?_; rintro e9 w3 ⟨rfl, B3⟩; clear r0 r1 r2 r3 r4 r5 r6 r7; have HC := vB HC B3 (vlt HC.out); have BB := bT BB B3; obtain ⟨r0, r1, r2, r3, r4, r5, r6, r7⟩ := vK8 HC.out; clear B3 t2; have t3 : (1 : Nat) = 1 := rfl)
  | (have q1 := t1; go_at_call 9; refine (SG.out _).mono ?_; rintro e9 w2 ⟨rfl, B2⟩; clear r0 r1 r2 r3 r4 r5 r6 r7; have HC := vB HC B2 (vlt HC.out); have BB := bT BB B2; obtain ⟨r0, r1, r2, r3, r4, r5, r6, r7⟩ := vK8 HC.out; clear B2 t1; have t2 : (1 : Nat) = 1 := rfl)
  | (have q0 := t0; refine box_lawC _ [.int .i64 (N : Int), .int .i64 (P : Int), .int .i64 g2, .int .i64 g3, .int .i64 g4, .int .i64 g5, .slice po fs.length pc, .slice so ts.length sc] rfl ?_; intro w1 X1 B1 l1; have HC := hdH (X1); have BB := hdH (B1); obtain ⟨r0, r1, r2, r3, r4, r5, r6, r7⟩ := vK8 HC.out; clear X1 B1 l1 t0; have t1 : (1 : Nat) = 1 := rfl))
 have LK : Hid (Lpc w w4.heap.size w6.heap.size [.int .i64 (N : Int), .int .i64 (P : Int), .int .i64 g2, .int .i64 g3, .int .i64 g4, .int .i64 g5, .slice po fs.length pc, .slice so ts.length sc] c r d q pv N P S g2 g3 g4 g5 (plnOf fs ms) 0 v9 w9) := ⟨M, new S, [], bq, bc, po, fs.length, pc, HS9.out, HW.out, HNB.out, HC.out, inv_new N P S, Nat.le_refl _, HG5.out.1, MW.out, HWA.out, BB.out⟩
 have LZ : Hid (w.heap.size < w4.heap.size ∧ w4.heap.size ≤ w6.heap.size) := ⟨L4.out, by have := L6.out; omega⟩
 clear HS9 HW HNB HC HG5 MW HWA BB L4 L6 HL5 HM5 B4 r0 r1 r2 r3 r4 r5 r6 r7
 go_loopw [6, 7] (fun was i wr => ∃ k : Nat, k ≤ ts.length ∧ i = .int .i64 (k : Int) ∧ Lpc w w4.heap.size w6.heap.size [.int .i64 (N : Int), .int .i64 (P : Int), .int .i64 g2, .int .i64 g3, .int .i64 g4, .int .i64 g5, .slice po fs.length pc, .slice so ts.length sc] c r d q pv N P S g2 g3 g4 g5 (plnOf fs ms) k was wr) (fun _ i _ => ts.length - (intOf i).toNat)
 case atStart => exact ⟨0, Nat.zero_le _, rfl, LK.out⟩
 case round =>
  clear LK
  obtain ⟨k, hk, rfl, ⟨M, s, l, bq, bc, pq, pn, pd, hS, hW, hNB, hC, hI, hO, hG, hMW, hWA, hB⟩⟩ := hrel
  obtain ⟨wq, wc, rfl⟩ := byt_form hWA
  rw [img_len hI.1] at hWA ⊢
  have HS : Hid _ := hS
  have HW := hdH (hW)
  have HNB : Hid (NoB wr w6.heap.size) := hNB
  have HC := hdH (hC)
  have HI : Hid (Inv N P S s l ∧ ops s ≤ k) := ⟨hI, hO⟩
  have HG : Hid ((∀ j, M j = true → w4.heap.size ≤ j) ∧ M w6.heap.size = false) := ⟨hG, hMW⟩
  have HWA : Hid (Byt (hid (uni M (one w6.heap.size)) wr) (.slice wq (N * (P * S)) wc) (img N P s)) := hWA
  have BB := hdH (hB)
  clear hS hW hNB hC hI hO hG hMW hWA hB
  have r7 := HC.out.cell 7 _ rfl
  by_cases hlt' : k < ts.length
  ·have lk : (k : Int) < (ts.length : Int) := by omega
   obtain ⟨sb, sf, rfl, hx, hrow⟩ := stps_at HST.out k hlt'
   generalize ts.getD k (0, 0, 0, 0, false) = tt at hx hrow
   obtain ⟨tk, tb, tp, tx, ton⟩ := tt
   have HX := hdH (hx)
   have HRW : Hid (∀ w', Below w.heap.size w w' → w'.rangeAt sb (sf + k * 5) [.int .i64 tk, .int .i64 tb, .int .i64 tp, .int .u8 tx, .bool ton]) := hrow
   obtain ⟨s2, l2, hnx⟩ : ∃ s2 l2, nxt N P S (plnOf fs ms) s l tk tb tp tx ton = (s2, l2) := ⟨_, _, rfl⟩
   have HNX : Hid (nxt N P S (plnOf fs ms) s l tk tb tp tx ton = (s2, l2)) := hnx
   clear hx hrow hnx
   have t0 : (0 : Nat) = 0 := rfl
   go_wp2_with (first
    | (have q0 := t0; go_at_call 16; refine (sim_ops HS.out HI.out.1).mono ?_; rintro e9 w1 ⟨rfl, hw1⟩; obtain rfl := hw1.symm; clear t0))
   have BB : Hid (Below w.heap.size w wr.drew) := BB.out.drew
   have HS : Hid (Sim M (one w6.heap.size) wr.drew c r d q pv [(N : Int), P, g2, g3, g4, g5] N P S (plnOf fs ms) s l (.agg (chr [(N : Int), P, g2, g3, g4, g5] (.slice bq N bc) (.slice pq pn pd) (off s) (ops s : Int)).toArray)) := Sim.below HS.out (below_drawn (Below.refl _ _) 1)
   have HW : Hid (Vr wr.drew w6.heap.size (chr [(N : Int), P, g2, g3, g4, g5] (.slice bq N bc) (.slice pq pn pd) (off s) (ops s : Int))) := HW.out.drewN 1
   have HNB : Hid (NoB wr.drew w6.heap.size) := HNB.out
   have HWA : Hid (Byt (hid (uni M (one w6.heap.size)) wr.drew) (.slice wq (N * (P * S)) wc) (img N P s)) := HWA.out
   refine wp_region_held_drew (S := fun w' => Vr w' w.heap.size [.int .i64 (N : Int), .int .i64 (P : Int), .int .i64 g2, .int .i64 g3, .int .i64 g4, .int .i64 g5, .slice po fs.length pc, .slice (some ⟨sb, sf, none⟩) ts.length sc] ∧ w'.rangeAt sb (sf + k * 5) ([.int .i64 tk, .int .i64 tb, .int .i64 tp, .int .u8 tx, .bool ton] : List Value)) (by kernel_rfl) ⟨HC.out, HRW.out _ BB.out⟩ (fun hS => ?_)
   obtain ⟨y1, hx0⟩ : ∃ x, x = wr.drew := ⟨_, rfl⟩
   rw [← hx0] at hS BB HS HW HNB HWA ⊢
   clear hx0
   refine tkH 0 (some 59) (.pointer (some ⟨c, 0, none⟩)) rfl rfl (Or.inl ⟨by rfl, fun w' hw' => by rfl⟩) hS ?_
   simp only [Act.put, zE1, zE2, zE3]
   refine tkH 2 (some 61) (.pointer (some ⟨w.heap.size, 7, none⟩)) rfl rfl (Or.inl ⟨by rfl, fun w' hw' => by go_simp⟩) hS ?_
   simp only [Act.put, zE1, zE2, zE3]
   refine tkH 3 (some 62) (.slice (some ⟨sb, sf, none⟩) ts.length sc) rfl rfl (Or.inl ⟨by rfl, fun w' hw' => by exact exec_loadN 25 (.tmp 61) rfl _ rfl _ _ (load_one one_steps (hw'.1.cell 7 _ rfl))⟩) hS ?_
   simp only [Act.put, zE1, zE2, zE3]
   refine tkH 4 (some 63) (.int .i64 (k : Int)) rfl rfl (Or.inl ⟨by rfl, fun w' hw' => by rfl⟩) hS ?_
   simp only [Act.put, zE1, zE2, zE3]
   refine tkH 5 (some 64) (.pointer (some ⟨sb, sf + k * 5, none⟩)) rfl rfl (Or.inl ⟨by rfl, fun w' hw' => by exact exec_idxS (.tmp 62) (.tmp 63) rfl sb sf ts.length sc k rfl rfl hlt' w'⟩) hS ?_
   simp only [Act.put, zE1, zE2, zE3]
   refine tkH 6 (some 65) (.agg ([.int .i64 tk, .int .i64 tb, .int .i64 tp, .int .u8 tx, .bool ton] : List Value).toArray) rfl rfl (Or.inl ⟨by rfl, fun w' hw' => by exact exec_loadN 45 (.tmp 64) rfl _ rfl _ _ (load_cells rowy_step hw'.2)⟩) hS ?_
   simp only [Act.put, zE1, zE2, zE3]
   refine wpAnyH_ready (rs := [1]) (by kernel_rfl) (by simp) ?_
   refine AllReadyH.cons rfl (fun K hK => ?_) AllReadyH.nil
   refine step_load _ rfl (some 60) rfl (.tmp 5) 38 rfl (.pointer (some ⟨w6.heap.size, 0, none⟩)) (.agg (chr [(N : Int), P, g2, g3, g4, g5] (.slice bq N bc) (.slice pq pn pd) (off s) (ops s : Int)).toArray) rfl (load_cells rowy_chipR HW.out.1) ?_
   refine hK.out _ _ hS (fun _ => ?_)
   simp only [Act.put, zE1, zE2, zE3]
   clear hK K
   refine wpAnyH_ready (rs := [7]) (by kernel_rfl) (by simp) ?_
   refine AllReadyH.cons rfl (fun K hK => ?_) AllReadyH.nil
   refine ge.step_callW _ (by rfl) (some 66) rfl 15 #[.tmp 59, .tmp 60, .tmp 65] #[28, 38, 45] rfl (fun q w' => by rfl) #[.pointer (some ⟨c, 0, none⟩), .agg (chr [(N : Int), P, g2, g3, g4, g5] (.slice bq N bc) (.slice pq pn pd) (off s) (ops s : Int)).toArray, .agg ([.int .i64 tk, .int .i64 tb, .int .i64 tp, .int .u8 tx, .bool ton] : List Value).toArray] (by simp only [List.map_toArray, List.map_cons, List.map_nil]; rfl) (fun v w' => ∃ M' v', v = .tuple #[v', .bool true] ∧ Sim M' (one w6.heap.size) w' c r d q pv [(N : Int), P, g2, g3, g4, g5] N P S (plnOf fs ms) s2 l2 v' ∧ (∀ k, k < y1.heap.size → M' k = M k) ∧ Frm M y1 w') ?_ ?_
   ·exact step_nx HSH.out HI.out.1 (by have := HI.out.2; omega) (one_lt (vlt HW.out)) HS.out tk tb tp tx HX.out ton HNX.out
   rintro v9 y2 ⟨M', v', rfl, S9, A9, F9⟩
   obtain ⟨bq2, bc2, pq2, pn2, pd2, rfl⟩ := sim_form S9
   have HS2 := hdH (S9)
   have B9 : Below w4.heap.size y1 y2 := F9.below (Nat.le_of_lt (Nat.lt_of_le_of_lt LZ.out.2 (vlt HW.out))) HG.out.1
   have eW : y2.heap[w6.heap.size]? = y1.heap[w6.heap.size]? := F9.block (vlt HW.out) HG.out.2
   have BB := hdH (BB.out.trans (B9.mono (Nat.le_of_lt LZ.out.1)))
   have hS : Vr y2 w.heap.size [.int .i64 (N : Int), .int .i64 (P : Int), .int .i64 g2, .int .i64 g3, .int .i64 g4, .int .i64 g5, .slice po fs.length pc, .slice (some ⟨sb, sf, none⟩) ts.length sc] ∧ y2.rangeAt sb (sf + k * 5) ([.int .i64 tk, .int .i64 tb, .int .i64 tp, .int .u8 tx, .bool ton] : List Value) := ⟨hS.1.below B9 LZ.out.1, HRW.out _ BB.out⟩
   have lw9 : w6.heap.size < y1.heap.size := range_lt HW.out.1 (by simp [chr])
   have HW := hdH (HW.out.heap eW)
   have HNB := hdH (HNB.out.heap eW)
   have HGM : Hid ((∀ j, M' j = true → w4.heap.size ≤ j) ∧ M' w6.heap.size = false) := hgm HG.out A9 LZ.out.2 lw9
   have HWA : Hid (Byt (hid (uni M' (one w6.heap.size)) y2) (.slice wq (N * (P * S)) wc) (img N P s)) := HWA.out.below ((uni_frm F9).hid fun k hk => by simp [uni, A9 k hk])
   clear S9 A9 F9 B9 eW lw9
   refine hK.out _ _ hS (fun _ => ?_)
   simp only [Act.put, zE1, zE2, zE3]
   clear hK K
   refine tkH 8 (some 58) (.tuple #[.agg (chr [(N : Int), P, g2, g3, g4, g5] (.slice bq2 N bc2) (.slice pq2 pn2 pd2) (off s2) (ops s2 : Int)).toArray, .bool true]) rfl rfl (Or.inl ⟨by rfl, fun w' hw' => by rfl⟩) hS ?_
   simp only [Act.put, zE1, zE2, zE3]
   refine tkH 9 (some 67) (.agg (chr [(N : Int), P, g2, g3, g4, g5] (.slice bq2 N bc2) (.slice pq2 pn2 pd2) (off s2) (ops s2 : Int)).toArray) rfl rfl (Or.inl ⟨by rfl, fun w' hw' => by rfl⟩) hS ?_
   simp only [Act.put, zE1, zE2, zE3]
   refine tkH 10 (some 68) (.bool true) rfl rfl (Or.inl ⟨by rfl, fun w' hw' => by rfl⟩) hS ?_
   simp only [Act.put, zE1, zE2, zE3]
   refine wpAnyH_ready (rs := [11]) (by kernel_rfl) (by simp) ?_
   refine AllReadyH.cons rfl (fun K hK => ?_) AllReadyH.nil
   refine step_storeX _ rfl none rfl (.tmp 5) (.tmp 67) 38 rfl w6.heap.size (chr [(N : Int), P, g2, g3, g4, g5] (.slice bq N bc) (.slice pq pn pd) (off s) (ops s : Int)) (chr [(N : Int), P, g2, g3, g4, g5] (.slice bq2 N bc2) (.slice pq2 pn2 pd2) (off s2) (ops s2 : Int)) rfl rfl HW.out rfl rowy_chipR.2 chr_one ?_
   intro y3 E9 V9
   have K9 : y2.grownBy y3 (some w6.heap.size) := (by rw [E9.out]; exact keep_cells _ _ _ _)
   have HNB2 : Hid (NoB y3 w6.heap.size) := (by rw [E9.out]; exact HNB.out.set HW.out rfl chr_nobyte)
   have HS2 : Hid (Sim M' (one w6.heap.size) y3 c r d q pv [(N : Int), P, g2, g3, g4, g5] N P S (plnOf fs ms) s2 l2 (.agg (chr [(N : Int), P, g2, g3, g4, g5] (.slice bq2 N bc2) (.slice pq2 pn2 pd2) (off s2) (ops s2 : Int)).toArray)) := Sim.putN HS2.out HNB.out HGM.out.2 K9
   have HC : Hid (Vr y3 w.heap.size [.int .i64 (N : Int), .int .i64 (P : Int), .int .i64 g2, .int .i64 g3, .int .i64 g4, .int .i64 g5, .slice po fs.length pc, .slice (some ⟨sb, sf, none⟩) ts.length sc]) := hS.1.kept K9 (range_lt hS.1.1 (by simp)) (by have := LZ.out; simp; omega)
   have HW := hdH (V9)
   have HWA := hdH (HWA.out.below (Frm.grown K9 (fun k e => by injection e with e; subst e; simp [uni, one])).hid0)
   have BB := hdH (BB.out.trans ((Below.refl w.heap.size _).grown K9 BB.out.size (fun k e => by have e := Option.some.inj e; have := LZ.out; omega)))
   have hS : Vr y3 w.heap.size [.int .i64 (N : Int), .int .i64 (P : Int), .int .i64 g2, .int .i64 g3, .int .i64 g4, .int .i64 g5, .slice po fs.length pc, .slice (some ⟨sb, sf, none⟩) ts.length sc] ∧ y3.rangeAt sb (sf + k * 5) ([.int .i64 tk, .int .i64 tb, .int .i64 tp, .int .u8 tx, .bool ton] : List Value) := ⟨HC.out, HRW.out _ BB.out⟩
   clear E9 V9 K9 HNB HS
   refine hK.out _ _ hS (fun _ => ?_)
   simp only [Act.put]
   clear hK K
   refine wpAnyH_done (by kernel_rfl) ?_ _
   have HI2 : Hid (Inv N P S s2 l2) := (by have := inv_nxt HI.out.1 (plnOf fs ms) tk tb tp tx HX.out ton; rw [HNX.out] at this; exact this)
   have HLN : Hid ((img N P s2).length = N * (P * S)) := img_len HI2.out.1
   have HLL : Hid ((img N P s).length = (img N P s2).length ∧ (img N P s).length ≤ 1048576) := ⟨by rw [HLN.out]; exact img_len HI.out.1.1, by rw [img_len HI.out.1.1]; exact HBG.out⟩
   have HML : Hid (Mlt M' y3) := (by obtain ⟨_, _, _, z, _⟩ := HS2.out; exact z)
   have HOP : Hid (ops s2 ≤ k + 1) := (by have h1 : ops s2 ≤ ops s + 1 := (by have := nxt_le (N := N) (P := P) (S := S) (plnOf fs ms) s l tk tb tp tx ton; rw [HNX.out] at this; exact this); have h2 := HI.out.2; show _ ≤ _; omega)
   have lk0 : (0 : Int) ≤ (k : Int) := by omega
   clear r7
   by_cases k4 : tk = 4
   ·subst k4
    have t1 : (1 : Nat) = 1 := rfl
    go_wp2_with (first
     | (have q1 := t1; go_at_call 20; refine (sim_image HS2.out).mono ?_; rintro e9 wi ⟨vi, rfl, Yi, Bi⟩; obtain ⟨iq, ic, rfl⟩ := byt_form Yi.1; rw [HLN.out] at Yi ⊢; have HYI : Hid (Byt (hid (uni M' (one w6.heap.size)) wi) (.slice iq (N * (P * S)) ic) (img N P s2)) := bow_hid Yi (uni_lt HML.out (one_lt (vlt HW.out))); have HWA := hdH (HWA.out.below (below_hid Bi)); have HS2 := hdH (Sim.below HS2.out Bi); have HNB2 := hdH (HNB2.out.heap (Bi.block _ (vlt HW.out))); have HW := vB HW Bi (vlt HW.out); have HC := vB HC Bi (vlt HC.out); have BB := bT BB Bi; have r7 := HC.out.cell 7 _ rfl; have c0 := HRW.out _ BB.out 0 _ rfl; rw [Nat.add_zero] at c0; clear Yi Bi t1; have t2 : (1 : Nat) = 1 := rfl))
    go_roundw
    case rel => exact ⟨k + 1, by omega, by go_num, M', s2, l2, bq2, bc2, pq2, pn2, pd2, HS2.out, HW.out, HNB2.out, HC.out, HI2.out, HOP.out, HGM.out.1, HGM.out.2, HYI.out, BB.out⟩
    case measure => simp [intOf]; omega
   ·have HK4 := hdH (k4)
    have n4 : (tk != 4) = true := bne_iff_ne.2 k4
    by_cases ho : ops s2 = ops s
    ·have eo : ((ops s2 : Int) == (ops s : Int)) = true := by rw [ho]; simp
     have HEQ : Hid (img N P s2 = img N P s) := (by have := nxt_ops (N := N) (P := P) (S := S) (l := l) (plnOf fs ms) tk tb tp tx ton k4 (by rw [HNX.out]; exact ho); rw [HNX.out] at this; exact this)
     clear ho k4
     have t1 : (1 : Nat) = 1 := rfl
     by_cases k2 : tk = 2
     ·subst k2
      go_wp2_with (first
       | (have q5 := t5; go_at_call 19; have ye := hid_byt HYI.out; rw [HEQ.out] at ye; refine (same_ok _ _ _ _ (hid_byt HWA.out) ye).mono ?_; rintro e9 wm ⟨rfl, Bm⟩; clear ye; clear r7 c0; have HYI := hdH (HYI.out.below (below_hid Bm)); have HWA := hdH (HWA.out.below (below_hid Bm)); have HS2 := hdH (Sim.below HS2.out Bm); have HNB2 := hdH (HNB2.out.heap (Bm.block _ (vlt HW.out))); have HW := vB HW Bm (vlt HW.out); have HC := vB HC Bm (vlt HC.out); have BB := bT BB Bm; have r7 := HC.out.cell 7 _ rfl; have c0 := HRW.out _ BB.out 0 _ rfl; rw [Nat.add_zero] at c0; clear Bm t5)
       | (have q2 := t2; go_at_call 16; refine (sim_ops HS2.out HI2.out).mono ?_; rintro e9 wl ⟨rfl, hwl⟩; obtain rfl := hwl.symm; clear t2; have t5 : (1 : Nat) = 1 := rfl)
       | (have q1 := t1; go_at_call 20; refine (sim_image HS2.out).mono ?_; rintro e9 wi ⟨vi, rfl, Yi, Bi⟩; obtain ⟨iq, ic, rfl⟩ := byt_form Yi.1; rw [HLN.out] at Yi ⊢; have HYI : Hid (Byt (hid (uni M' (one w6.heap.size)) wi) (.slice iq (N * (P * S)) ic) (img N P s2)) := bow_hid Yi (uni_lt HML.out (one_lt (vlt HW.out))); have HWA := hdH (HWA.out.below (below_hid Bi)); have HS2 := hdH (Sim.below HS2.out Bi); have HNB2 := hdH (HNB2.out.heap (Bi.block _ (vlt HW.out))); have HW := vB HW Bi (vlt HW.out); have HC := vB HC Bi (vlt HC.out); have BB := bT BB Bi; have r7 := HC.out.cell 7 _ rfl; have c0 := HRW.out _ BB.out 0 _ rfl; rw [Nat.add_zero] at c0; clear Yi Bi t1; have t2 : (1 : Nat) = 1 := rfl))
      go_roundw
      case rel => exact ⟨k + 1, by omega, by go_num, M', s2, l2, bq2, bc2, pq2, pn2, pd2, HS2.out, HW.out, HNB2.out, HC.out, HI2.out, HOP.out, HGM.out.1, HGM.out.2, HYI.out, BB.out⟩
      case measure => simp [intOf]; omega
     ·have n2 : (tk != 2) = true := bne_iff_ne.2 k2
      have HCL : Hid (andl (img N P s) (img N P s2) = img N P s2) := (by have := nxt_cl HI.out.1 (plnOf fs ms) tk tb tp tx ton k2 HK4.out; rw [HNX.out] at this; exact this.andl)
      clear k2
      go_wp2_with (first
       | (have q5 := t5; go_at_call 19; have ye := hid_byt HYI.out; rw [HEQ.out] at ye; refine (same_ok _ _ _ _ (hid_byt HWA.out) ye).mono ?_; rintro e9 wm ⟨rfl, Bm⟩; clear ye; clear r7 c0; have HYI := hdH (HYI.out.below (below_hid Bm)); have HWA := hdH (HWA.out.below (below_hid Bm)); have HS2 := hdH (Sim.below HS2.out Bm); have HNB2 := hdH (HNB2.out.heap (Bm.block _ (vlt HW.out))); have HW := vB HW Bm (vlt HW.out); have HC := vB HC Bm (vlt HC.out); have BB := bT BB Bm; have r7 := HC.out.cell 7 _ rfl; have c0 := HRW.out _ BB.out 0 _ rfl; rw [Nat.add_zero] at c0; clear Bm t5)
       | (have q4 := t4; go_at_call 16; refine (sim_ops HS2.out HI2.out).mono ?_; rintro e9 wl ⟨rfl, hwl⟩; obtain rfl := hwl.symm; clear t4; have t5 : (1 : Nat) = 1 := rfl)
       | (have q3 := t3; go_at_call 19; refine (same_ok _ _ _ _ HYJ.out (hid_byt HYI.out)).mono ?_; rintro e9 wk ⟨rfl, Bk⟩; clear r7 c0; have HYI := hdH (HYI.out.below (below_hid Bk)); have HWA := hdH (HWA.out.below (below_hid Bk)); have HS2 := hdH (Sim.below HS2.out Bk); have HNB2 := hdH (HNB2.out.heap (Bk.block _ (vlt HW.out))); have HW := vB HW Bk (vlt HW.out); have HC := vB HC Bk (vlt HC.out); have BB := bT BB Bk; have r7 := HC.out.cell 7 _ rfl; have c0 := HRW.out _ BB.out 0 _ rfl; rw [Nat.add_zero] at c0; clear Bk t3; have t4 : (1 : Nat) = 1 := rfl)
       | (have q2 := t2; go_at_call 27; refine (rand_any _ _ _ _ _ (hid_byt HWA.out) (hid_byt HYI.out) HLL.out.1 HLL.out.2).mono ?_; rintro e9 wj ⟨vj, rfl, Yj, Bj⟩; rw [HCL.out] at Yj; have HYJ := hdH (Yj); clear r7 c0; have HYI := hdH (HYI.out.below (below_hid Bj)); have HWA := hdH (HWA.out.below (below_hid Bj)); have HS2 := hdH (Sim.below HS2.out Bj); have HNB2 := hdH (HNB2.out.heap (Bj.block _ (vlt HW.out))); have HW := vB HW Bj (vlt HW.out); have HC := vB HC Bj (vlt HC.out); have BB := bT BB Bj; have r7 := HC.out.cell 7 _ rfl; have c0 := HRW.out _ BB.out 0 _ rfl; rw [Nat.add_zero] at c0; clear Yj Bj t2; have t3 : (1 : Nat) = 1 := rfl)
       | (have q1 := t1; go_at_call 20; refine (sim_image HS2.out).mono ?_; rintro e9 wi ⟨vi, rfl, Yi, Bi⟩; obtain ⟨iq, ic, rfl⟩ := byt_form Yi.1; rw [HLN.out] at Yi ⊢; have HYI : Hid (Byt (hid (uni M' (one w6.heap.size)) wi) (.slice iq (N * (P * S)) ic) (img N P s2)) := bow_hid Yi (uni_lt HML.out (one_lt (vlt HW.out))); have HWA := hdH (HWA.out.below (below_hid Bi)); have HS2 := hdH (Sim.below HS2.out Bi); have HNB2 := hdH (HNB2.out.heap (Bi.block _ (vlt HW.out))); have HW := vB HW Bi (vlt HW.out); have HC := vB HC Bi (vlt HC.out); have BB := bT BB Bi; have r7 := HC.out.cell 7 _ rfl; have c0 := HRW.out _ BB.out 0 _ rfl; rw [Nat.add_zero] at c0; clear Yi Bi t1; have t2 : (1 : Nat) = 1 := rfl))
      go_roundw
      case rel => exact ⟨k + 1, by omega, by go_num, M', s2, l2, bq2, bc2, pq2, pn2, pd2, HS2.out, HW.out, HNB2.out, HC.out, HI2.out, HOP.out, HGM.out.1, HGM.out.2, HYI.out, BB.out⟩
      case measure => simp [intOf]; omega
    ·have eo : ((ops s2 : Int) == (ops s : Int)) = false := beq_eq_false_iff_ne.2 (by omega)
     clear ho k4
     have t1 : (1 : Nat) = 1 := rfl
     by_cases k2 : tk = 2
     ·subst k2
      go_wp2_with (first
       | (have q2 := t2; go_at_call 16; refine (sim_ops HS2.out HI2.out).mono ?_; rintro e9 wl ⟨rfl, hwl⟩; obtain rfl := hwl.symm; clear t2; have t5 : (1 : Nat) = 1 := rfl)
       | (have q1 := t1; go_at_call 20; refine (sim_image HS2.out).mono ?_; rintro e9 wi ⟨vi, rfl, Yi, Bi⟩; obtain ⟨iq, ic, rfl⟩ := byt_form Yi.1; rw [HLN.out] at Yi ⊢; have HYI : Hid (Byt (hid (uni M' (one w6.heap.size)) wi) (.slice iq (N * (P * S)) ic) (img N P s2)) := bow_hid Yi (uni_lt HML.out (one_lt (vlt HW.out))); have HWA := hdH (HWA.out.below (below_hid Bi)); have HS2 := hdH (Sim.below HS2.out Bi); have HNB2 := hdH (HNB2.out.heap (Bi.block _ (vlt HW.out))); have HW := vB HW Bi (vlt HW.out); have HC := vB HC Bi (vlt HC.out); have BB := bT BB Bi; have r7 := HC.out.cell 7 _ rfl; have c0 := HRW.out _ BB.out 0 _ rfl; rw [Nat.add_zero] at c0; clear Yi Bi t1; have t2 : (1 : Nat) = 1 := rfl))
      go_roundw
      case rel => exact ⟨k + 1, by omega, by go_num, M', s2, l2, bq2, bc2, pq2, pn2, pd2, HS2.out, HW.out, HNB2.out, HC.out, HI2.out, HOP.out, HGM.out.1, HGM.out.2, HYI.out, BB.out⟩
      case measure => simp [intOf]; omega
     ·have n2 : (tk != 2) = true := bne_iff_ne.2 k2
      have HCL : Hid (andl (img N P s) (img N P s2) = img N P s2) := (by have := nxt_cl HI.out.1 (plnOf fs ms) tk tb tp tx ton k2 HK4.out; rw [HNX.out] at this; exact this.andl)
      clear k2
      go_wp2_with (first
       | (have q4 := t4; go_at_call 16; refine (sim_ops HS2.out HI2.out).mono ?_; rintro e9 wl ⟨rfl, hwl⟩; obtain rfl := hwl.symm; clear t4; have t5 : (1 : Nat) = 1 := rfl)
       | (have q3 := t3; go_at_call 19; refine (same_ok _ _ _ _ HYJ.out (hid_byt HYI.out)).mono ?_; rintro e9 wk ⟨rfl, Bk⟩; clear r7 c0; have HYI := hdH (HYI.out.below (below_hid Bk)); have HWA := hdH (HWA.out.below (below_hid Bk)); have HS2 := hdH (Sim.below HS2.out Bk); have HNB2 := hdH (HNB2.out.heap (Bk.block _ (vlt HW.out))); have HW := vB HW Bk (vlt HW.out); have HC := vB HC Bk (vlt HC.out); have BB := bT BB Bk; have r7 := HC.out.cell 7 _ rfl; have c0 := HRW.out _ BB.out 0 _ rfl; rw [Nat.add_zero] at c0; clear Bk t3; have t4 : (1 : Nat) = 1 := rfl)
       | (have q2 := t2; go_at_call 27; refine (rand_any _ _ _ _ _ (hid_byt HWA.out) (hid_byt HYI.out) HLL.out.1 HLL.out.2).mono ?_; rintro e9 wj ⟨vj, rfl, Yj, Bj⟩; rw [HCL.out] at Yj; have HYJ := hdH (Yj); clear r7 c0; have HYI := hdH (HYI.out.below (below_hid Bj)); have HWA := hdH (HWA.out.below (below_hid Bj)); have HS2 := hdH (Sim.below HS2.out Bj); have HNB2 := hdH (HNB2.out.heap (Bj.block _ (vlt HW.out))); have HW := vB HW Bj (vlt HW.out); have HC := vB HC Bj (vlt HC.out); have BB := bT BB Bj; have r7 := HC.out.cell 7 _ rfl; have c0 := HRW.out _ BB.out 0 _ rfl; rw [Nat.add_zero] at c0; clear Yj Bj t2; have t3 : (1 : Nat) = 1 := rfl)
       | (have q1 := t1; go_at_call 20; refine (sim_image HS2.out).mono ?_; rintro e9 wi ⟨vi, rfl, Yi, Bi⟩; obtain ⟨iq, ic, rfl⟩ := byt_form Yi.1; rw [HLN.out] at Yi ⊢; have HYI : Hid (Byt (hid (uni M' (one w6.heap.size)) wi) (.slice iq (N * (P * S)) ic) (img N P s2)) := bow_hid Yi (uni_lt HML.out (one_lt (vlt HW.out))); have HWA := hdH (HWA.out.below (below_hid Bi)); have HS2 := hdH (Sim.below HS2.out Bi); have HNB2 := hdH (HNB2.out.heap (Bi.block _ (vlt HW.out))); have HW := vB HW Bi (vlt HW.out); have HC := vB HC Bi (vlt HC.out); have BB := bT BB Bi; have r7 := HC.out.cell 7 _ rfl; have c0 := HRW.out _ BB.out 0 _ rfl; rw [Nat.add_zero] at c0; clear Yi Bi t1; have t2 : (1 : Nat) = 1 := rfl))
      go_roundw
      case rel => exact ⟨k + 1, by omega, by go_num, M', s2, l2, bq2, bc2, pq2, pn2, pd2, HS2.out, HW.out, HNB2.out, HC.out, HI2.out, HOP.out, HGM.out.1, HGM.out.2, HYI.out, BB.out⟩
      case measure => simp [intOf]; omega
  ·have lk : ¬ ((k : Int) < (ts.length : Int)) := by omega
   have ta : (0 : Nat) = 0 := rfl
   go_wp2_with (first
    | (have qa := ta; go_at_call 11; refine (awake_any _).mono ?_; rintro e9 wz ⟨rfl, Bz⟩; have BBz := bT BB Bz; clear Bz ta))
   go_ret
   exact ⟨rfl, BBz.out⟩
end Go.Proofs.Ytoohbigedblklaa.na
namespace Go.Proofs.Ytoohbigedblklaa.nandClears
open Go.ChangeShapes Go.WideShapes Go.ChangeAt Go.RowKit
set_option maxRecDepth 20000

open Go.Proofs.Ytoohbigedblklaa.na Go.Proofs.Ytoohbigedblklaa.fa
open Go.Proofs.Ytoohbigedblklaa.ge (place_open)

theorem walk (g : List Int) (pv sv : Value) (fs : List (Int × Bool × Value)) (ms : Nat → List Int) (ts : List Stp) (w : World) (hg : g.length = 6) (hf : Fls w pv fs) (hm : Mks w fs ms) (hst : Stps w sv ts) :
    Calls Try.prog 6 #[.agg ((g : List Int).map (Value.int .i64) ++ [pv, sv]).toArray] w fun e w' => e = .returned (.bool true) ∧ Below w.heap.size w w' := by
  obtain ⟨g0, g1, g2, g3, g4, g5, rfl⟩ : ∃ g0 g1 g2 g3 g4 g5, g = [g0, g1, g2, g3, g4, g5] := by
    match g, hg with
    | [g0, g1, g2, g3, g4, g5], _ => exact ⟨g0, g1, g2, g3, g4, g5, rfl⟩
  obtain ⟨po, pc, rfl⟩ : ∃ ao cap, pv = .slice ao fs.length cap := by obtain ⟨ao, cap, e, _⟩ := hf; exact ⟨ao, cap, e⟩
  obtain ⟨so, sc, rfl⟩ : ∃ ao cap, sv = .slice ao ts.length cap := by obtain ⟨⟨ao, cap, e, _⟩, _⟩ := hst; exact ⟨ao, cap, by rw [List.length_map] at e; exact e⟩
  by_cases hr : ge.Rt [g0, g1, g2, g3, g4, g5]
  · by_cases hk : fs.length ≤ 64 ∧ Okp fs ms fs.length
    · by_cases hl : g0 ≤ 16 ∧ g1 ≤ 20 ∧ g2 ≤ 128
      · by_cases hn : ts.length ≤ 6
        · obtain ⟨N, P, S, rfl, rfl, hs⟩ := shp_of hr
          exact clr_E N P S g2 g3 g4 g5 hs po so pc sc fs ms ts w hf hm hk hl hn hst
        · exact clr_D g0 g1 g2 g3 g4 g5 po so pc sc fs ms ts w hf hm hr hk hl (by omega)
      · exact clr_C g0 g1 g2 g3 g4 g5 po so pc sc fs ms ts w hf hm hr hk hl
    · exact clr_B g0 g1 g2 g3 g4 g5 po so pc sc fs ms ts w hf hm hr hk
  · exact clr_A g0 g1 g2 g3 g4 g5 po so pc sc fs ts w hr

theorem params : ∀ t ∈ Try.f6.params.toList, Try.prog.readableRec t = true ∧ t < Try.prog.types.size := by
  rw [Try.params6]
  intro t ht
  simp at ht
  subst ht
  exact ⟨by kernel_rfl, of_decide_eq_true (by kernel_rfl)⟩

theorem contract (H : Type) (enc : TypeId × Value → H) (W : World) (base : Nat) (args : Array Value) (ds gs : List (DataW H)) (before : List MemPlace)
    (hval : ∀ (j : Nat) t v, Try.f6.params[j]? = some t → args[j]? = some v → Value.okWide Try.prog W .any base t v)
    (hW : DataW.Whole enc Try.prog Try.f6.params.toList Rows.nandClearsSpec.vars false W args.toList ds gs before)
    (hsz : (DataW.weightsEach Try.prog (Try.f6.params.toList ++ (OpenSpec.ofChange Rows.nandClearsSpec).bare.plain.varTypes Try.prog) (ds ++ gs)).all (· ≤ reachBytes) = true) :
    Calls Try.prog 6 args W fun e W' => ∃ v, e = .returned v ∧ Rows.nandClearsSpec.post enc Try.prog Try.f6 false true false false W args v W' := by
  have hW' := hW
  obtain ⟨p, q, hA0, hV, rfl, hfz, hnd⟩ := hW
  have hA : DataW.TrodAll enc Try.prog W 0 (fun _ => true) true Try.f6.params.toList args.toList ds p := hA0
  rw [Try.params6] at hA hval
  obtain ⟨v0, d0, rfl, rfl, h0⟩ := trodAll_one hA
  obtain ⟨rfl, rfl⟩ := trodVars_none hV
  obtain ⟨g0, pv0, sv0, fs0, ms0, ts0, rfl, n0, b0, c0, e0⟩ := case_open (hval 0 27 v0 rfl rfl) h0 (fun n hn => by have := List.all_eq_true.1 hsz n (DataW.weights_mem_each (j := 0) (t := 27) (d := d0) (by rw [Try.params6]; rfl) rfl n hn); simpa using this)
  clear hA0
  refine (walk g0 pv0 sv0 fs0 ms0 ts0 W n0 b0 c0 e0).mono fun e W' ⟨he, hg⟩ => ?_
  subst he
  exact ⟨_, rfl, post_law rfl (by kernel_rfl) params rfl rfl rfl hW' hg⟩

theorem laid_met (os : Os) : laidMet Try.prog Rows.nandClearsRow.laid ((World.holding Try.prog os ⟨#[], #[], []⟩).forCall (fun _ _ => 0) ⟨#[], #[.agg #[.int .i64 0, .int .i64 0, .int .i64 0, .int .i64 0, .int .i64 0, .int .i64 0, .slice none 0 0, .slice none 0 0]], []⟩).memory :=
  laidMet_of_run' 8 (by kernel_rfl) (by kernel_rfl)
theorem reads (os : Os) {H : Type} (enc : TypeId × Value → H) : ∃ places, DataW.whole enc Try.prog ((World.holding Try.prog os ⟨#[], #[], []⟩).forCall (fun _ _ => 0) ⟨#[], #[.agg #[.int .i64 0, .int .i64 0, .int .i64 0, .int .i64 0, .int .i64 0, .int .i64 0, .slice none 0 0, .slice none 0 0]], []⟩).memory Try.f6.params.toList Rows.nandClearsSpec.vars false #[Value.agg #[.int .i64 0, .int .i64 0, .int .i64 0, .int .i64 0, .int .i64 0, .int .i64 0, .slice none 0 0, .slice none 0 0]].toList 8 = some ([.agg [.agg [.lit (.int .i64 0), .lit (.int .i64 0), .lit (.int .i64 0), .lit (.int .i64 0), .lit (.int .i64 0), .lit (.int .i64 0)], .nil, .nil]], [], places) :=
  ⟨[], by kernel_rfl⟩

set_option maxRecDepth 100000 in
theorem lifted (os : Os) (started : os.Started) (H : Type) (enc : TypeId × Value → H) (F : Stop.Interp) :
    ReturnsInHanded {} Try.checked os 6 .any ((OpenSpec.ofChange Rows.nandClearsSpec).preRow enc Try.prog Try.f6 Rows.nandClearsRow.domain false Rows.nandClearsRow.laid) (((OpenSpec.ofChange Rows.nandClearsSpec).at F).post enc Try.prog Try.f6 false true false false) := by
  obtain ⟨places, hx⟩ := reads os enc
  refine returnsInHanded_of_row (C := Try.checked) (s := OpenSpec.ofChange Rows.nandClearsSpec) own started (by kernel_rfl) Try.func6
    (witness_row_at (enc := enc) (C := Try.checked) false (World.holding Try.prog os ⟨#[], #[], []⟩) #[.agg #[.int .i64 0, .int .i64 0, .int .i64 0, .int .i64 0, .int .i64 0, .int .i64 0, .slice none 0 0, .slice none 0 0]] rfl (by kernel_rfl) (by kernel_rfl) (by kernel_rfl)
      (OpenSpec.preRow_of_cond 8 hx (by kernel_rfl) (fun k hk => by cases hk) (by kernel_rfl) (laid_met os))) ?_
  intro W base args ds gs before hval hW _ _ hsz _ _ _
  exact contract H enc W base args ds gs before hval hW hsz

theorem said : Rows.NandClearsSaid :=
  OpenClaim.holds_of_cond 6 Try.f6 rfl rfl rfl rfl rfl rfl rfl ⟨rfl, rfl, rfl, rfl, rfl⟩ rfl rfl rfl rfl rfl (by kernel_rfl) Try.func6 (by kernel_rfl)
    (of_decide_eq_true (by kernel_rfl)) (by unfold Func.isWrapper; first | (rw [if_pos (by decide +kernel)]; kernel_rfl) | (rw [if_neg (by decide +kernel)]; exact ⟨rfl, rfl⟩))
    (fun os started H enc _ F => by rw [OpenClaim.pre_eq_preRow]; exact lifted os started H enc F)
end Go.Proofs.Ytoohbigedblklaa.nandClears

namespace Go.Proofs.Ytoohbigedblklaa
theorem nandClears_said : Rows.NandClearsSaid := nandClears.said
#print axioms nandClears_said
end Go.Proofs.Ytoohbigedblklaa
