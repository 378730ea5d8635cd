/- Any page's bytes behind any operations, of which the first twenty are done, on an array of a right geometry that is small, with any plan that is right, or why they can't be read; what was told stays as it is. Of others: the program answers. No condition. -/
import Derived.Test.YtoohbigedblklaaPk32
import Derived.Test.YtoohbigedblklaaPk31
import Derived.Test.YtoohbigedblklaaPk02
namespace Go.Proofs.Ytoohbigedblklaa.na
open Go.RowKit Go.Proofs.Ytoohbigedblklaa.fa
set_option maxRecDepth 20000
set_option maxHeartbeats 2000000 in
theorem rds_A (p0 p1 : Int) (g0 g1 g2 g3 g4 g5 : Int) (po so : Option Addr) (pc sc : Nat) (fs : List (Int × Bool × Value)) (ts : List Stp) (w : World) (hr : ¬ ge.Rt [g0, g1, g2, g3, g4, g5]) :
  Calls Try.prog 4 #[.agg ([.int .i64 g0, .int .i64 g1, .int .i64 g2, .int .i64 g3, .int .i64 g4, .int .i64 g5, .slice po fs.length pc, .slice so ts.length sc] : List Value).toArray, .agg (ints .i64 [p0, p1])] w fun e w' => e = .returned (.bool true) ∧ Below w.heap.size w w' := by
 have SG : Hid (∀ w0, Calls Try.prog 9 #[.agg (ints .i64 [g0, g1, g2, g3, g4, g5])] w0 fun x w' => x = .returned (.bool false) ∧ Below w0.heap.size w0 w') := ge.right_no [g0, g1, g2, g3, g4, g5] rfl hr
 clear hr
 have t0 : (0 : Nat) = 0 := rfl
 have ta : (0 : Nat) = 0 := rfl
 go_enter Try.func4, Try.ntmps4
 go_wp2_with (first
  | (have qa := ta; go_at_call 11; refine (awake_any _).mono ?_; rintro e9 wz ⟨rfl, Bz⟩; have BBz := bT BB Bz; clear Bz ta)
  | (have q1 := t1; go_at_call 9; refine (SG.out _).mono ?_; rintro e9 w2 ⟨rfl, B2⟩; clear r0 r1 r2 r3 r4 r5 r6 r7; have HC := vB HC B2 (vlt HC.out); have BB := bT BB B2; obtain ⟨r0, r1, r2, r3, r4, r5, r6, r7⟩ := vK8 HC.out; clear B2 t1; have t2 : (1 : Nat) = 1 := rfl)
  | (have qb := tb; refine box_lawC _ [.int .i64 p0, .int .i64 p1] rfl ?_; intro wb Xb Bb lb; clear r0 r1 r2 r3 r4 r5 r6 r7; have HC := vB HC Bb (vlt HC.out); have BB := bT BB Bb; obtain ⟨r0, r1, r2, r3, r4, r5, r6, r7⟩ := vK8 HC.out; clear Xb Bb lb tb; have t1 : (1 : Nat) = 1 := rfl)
  | (have q0 := t0; refine box_lawC _ [.int .i64 g0, .int .i64 g1, .int .i64 g2, .int .i64 g3, .int .i64 g4, .int .i64 g5, .slice po fs.length pc, .slice so ts.length sc] rfl ?_; intro w1 X1 B1 l1; have HC := hdH (X1); have BB := hdH (B1); obtain ⟨r0, r1, r2, r3, r4, r5, r6, r7⟩ := vK8 HC.out; clear X1 B1 l1 t0; have tb : (1 : Nat) = 1 := rfl))
 go_ret
 exact ⟨rfl, BBz.out⟩
set_option maxHeartbeats 2000000 in
theorem rds_B (p0 p1 : Int) (g0 g1 g2 g3 g4 g5 : Int) (po so : Option Addr) (pc sc : Nat) (fs : List (Int × Bool × Value)) (ms : Nat → List Int) (ts : List Stp) (w : World) (hf : Fls w (.slice po fs.length pc) fs) (hm : Mks w fs ms) (hr : ge.Rt [g0, g1, g2, g3, g4, g5]) (hk : ¬ (fs.length ≤ 64 ∧ Okp fs ms fs.length)) :
  Calls Try.prog 4 #[.agg ([.int .i64 g0, .int .i64 g1, .int .i64 g2, .int .i64 g3, .int .i64 g4, .int .i64 g5, .slice po fs.length pc, .slice so ts.length sc] : List Value).toArray, .agg (ints .i64 [p0, p1])] w fun e w' => e = .returned (.bool true) ∧ Below w.heap.size w w' := by
 have SG : Hid (∀ w0, Calls Try.prog 9 #[.agg (ints .i64 [g0, g1, g2, g3, g4, g5])] w0 fun x w' => x = .returned (.bool true) ∧ Below w0.heap.size w0 w') := ge.right_yes [g0, g1, g2, g3, g4, g5] rfl hr
 have SU : Hid (∀ w0, Below w.heap.size w w0 → Calls Try.prog 10 #[.slice po fs.length pc] w0 fun x w' => x = .returned (.bool false) ∧ Below w0.heap.size w0 w') := fun w0 hb => (rright_any _ fs ms w0 (hf.below hb) (hm.below hb) false (by simpa using hk)).mono fun _ _ ⟨h1, n, h2⟩ => ⟨h1, by rw [h2]; exact below_drewN (Below.refl _ _) n⟩
 clear hr hk hf hm
 have t0 : (0 : Nat) = 0 := rfl
 have ta : (0 : Nat) = 0 := rfl
 go_enter Try.func4, Try.ntmps4
 go_wp2_with (first
  | (have qa := ta; go_at_call 11; refine (awake_any _).mono ?_; rintro e9 wz ⟨rfl, Bz⟩; have BBz := bT BB Bz; clear Bz ta)
  | (have q2 := t2; go_at_call 10; refine (SU.out _ BB.out).mono ?_; rintro e9 w3 ⟨rfl, B3⟩; clear r0 r1 r2 r3 r4 r5 r6 r7; have HC := vB HC B3 (vlt HC.out); have BB := bT BB B3; obtain ⟨r0, r1, r2, r3, r4, r5, r6, r7⟩ := vK8 HC.out; clear B3 t2; have t3 : (1 : Nat) = 1 := rfl)
  | (have q1 := t1; go_at_call 9; refine (SG.out _).mono ?_; rintro e9 w2 ⟨rfl, B2⟩; clear r0 r1 r2 r3 r4 r5 r6 r7; have HC := vB HC B2 (vlt HC.out); have BB := bT BB B2; obtain ⟨r0, r1, r2, r3, r4, r5, r6, r7⟩ := vK8 HC.out; clear B2 t1; have t2 : (1 : Nat) = 1 := rfl)
  | (have qb := tb; refine box_lawC _ [.int .i64 p0, .int .i64 p1] rfl ?_; intro wb Xb Bb lb; clear r0 r1 r2 r3 r4 r5 r6 r7; have HC := vB HC Bb (vlt HC.out); have BB := bT BB Bb; obtain ⟨r0, r1, r2, r3, r4, r5, r6, r7⟩ := vK8 HC.out; clear Xb Bb lb tb; have t1 : (1 : Nat) = 1 := rfl)
  | (have q0 := t0; refine box_lawC _ [.int .i64 g0, .int .i64 g1, .int .i64 g2, .int .i64 g3, .int .i64 g4, .int .i64 g5, .slice po fs.length pc, .slice so ts.length sc] rfl ?_; intro w1 X1 B1 l1; have HC := hdH (X1); have BB := hdH (B1); obtain ⟨r0, r1, r2, r3, r4, r5, r6, r7⟩ := vK8 HC.out; clear X1 B1 l1 t0; have tb : (1 : Nat) = 1 := rfl))
 go_ret
 exact ⟨rfl, BBz.out⟩
set_option maxHeartbeats 2000000 in
theorem rds_C (p0 p1 : Int) (g0 g1 g2 g3 g4 g5 : Int) (po so : Option Addr) (pc sc : Nat) (fs : List (Int × Bool × Value)) (ms : Nat → List Int) (ts : List Stp) (w : World) (hf : Fls w (.slice po fs.length pc) fs) (hm : Mks w fs ms) (hr : ge.Rt [g0, g1, g2, g3, g4, g5]) (hk : fs.length ≤ 64 ∧ Okp fs ms fs.length) (hl : ¬ (g0 ≤ 16 ∧ g1 ≤ 20 ∧ g2 ≤ 128)) :
  Calls Try.prog 4 #[.agg ([.int .i64 g0, .int .i64 g1, .int .i64 g2, .int .i64 g3, .int .i64 g4, .int .i64 g5, .slice po fs.length pc, .slice so ts.length sc] : List Value).toArray, .agg (ints .i64 [p0, p1])] w fun e w' => e = .returned (.bool true) ∧ Below w.heap.size w w' := by
 have SG : Hid (∀ w0, Calls Try.prog 9 #[.agg (ints .i64 [g0, g1, g2, g3, g4, g5])] w0 fun x w' => x = .returned (.bool true) ∧ Below w0.heap.size w0 w') := ge.right_yes [g0, g1, g2, g3, g4, g5] rfl hr
 have SU : Hid (∀ w0, Below w.heap.size w w0 → Calls Try.prog 10 #[.slice po fs.length pc] w0 fun x w' => x = .returned (.bool true) ∧ Below w0.heap.size w0 w') := fun w0 hb => (rright_any _ fs ms w0 (hf.below hb) (hm.below hb) true (by simpa using hk)).mono fun _ _ ⟨h1, n, h2⟩ => ⟨h1, by rw [h2]; exact below_drewN (Below.refl _ _) n⟩
 have SL : Hid (∀ w0, Calls Try.prog 12 #[.agg (ints .i64 [g0, g1, g2, g3, g4, g5])] w0 fun x w' => x = .returned (.bool false) ∧ Below w0.heap.size w0 w') := fun w0 => light_any g0 g1 g2 g3 g4 g5 w0 _ (by simp at hl ⊢; exact hl)
 clear hr hk hl hf hm
 have t0 : (0 : Nat) = 0 := rfl
 have ta : (0 : Nat) = 0 := rfl
 go_enter Try.func4, Try.ntmps4
 go_wp2_with (first
  | (have qa := ta; go_at_call 11; refine (awake_any _).mono ?_; rintro e9 wz ⟨rfl, Bz⟩; have BBz := bT BB Bz; clear Bz ta)
  | (have q3 := t3; go_at_call 12; refine (SL.out _).mono ?_; rintro e9 w4 ⟨rfl, B4⟩; clear r0 r1 r2 r3 r4 r5 r6 r7; have HC := vB HC B4 (vlt HC.out); have BB := bT BB B4; obtain ⟨r0, r1, r2, r3, r4, r5, r6, r7⟩ := vK8 HC.out; clear B4 t3; have t4 : (1 : Nat) = 1 := rfl)
  | (have q2 := t2; go_at_call 10; refine (SU.out _ BB.out).mono ?_; rintro e9 w3 ⟨rfl, B3⟩; clear r0 r1 r2 r3 r4 r5 r6 r7; have HC := vB HC B3 (vlt HC.out); have BB := bT BB B3; obtain ⟨r0, r1, r2, r3, r4, r5, r6, r7⟩ := vK8 HC.out; clear B3 t2; have t3 : (1 : Nat) = 1 := rfl)
  | (have q1 := t1; go_at_call 9; refine (SG.out _).mono ?_; rintro e9 w2 ⟨rfl, B2⟩; clear r0 r1 r2 r3 r4 r5 r6 r7; have HC := vB HC B2 (vlt HC.out); have BB := bT BB B2; obtain ⟨r0, r1, r2, r3, r4, r5, r6, r7⟩ := vK8 HC.out; clear B2 t1; have t2 : (1 : Nat) = 1 := rfl)
  | (have qb := tb; refine box_lawC _ [.int .i64 p0, .int .i64 p1] rfl ?_; intro wb Xb Bb lb; clear r0 r1 r2 r3 r4 r5 r6 r7; have HC := vB HC Bb (vlt HC.out); have BB := bT BB Bb; obtain ⟨r0, r1, r2, r3, r4, r5, r6, r7⟩ := vK8 HC.out; clear Xb Bb lb tb; have t1 : (1 : Nat) = 1 := rfl)
  | (have q0 := t0; refine box_lawC _ [.int .i64 g0, .int .i64 g1, .int .i64 g2, .int .i64 g3, .int .i64 g4, .int .i64 g5, .slice po fs.length pc, .slice so ts.length sc] rfl ?_; intro w1 X1 B1 l1; have HC := hdH (X1); have BB := hdH (B1); obtain ⟨r0, r1, r2, r3, r4, r5, r6, r7⟩ := vK8 HC.out; clear X1 B1 l1 t0; have tb : (1 : Nat) = 1 := rfl))
 go_ret
 exact ⟨rfl, BBz.out⟩
set_option maxHeartbeats 8000000 in
theorem rds_D (p0 p1 : Int) (N P S : Nat) (g2 g3 g4 g5 : Int) (hs : Shp [(N : Int), P, g2, g3, g4, g5] N P S) (po so : Option Addr) (pc sc : Nat) (fs : List (Int × Bool × Value)) (ms : Nat → List Int) (ts : List Stp) (w : World) (hf : Fls w (.slice po fs.length pc) fs) (hm : Mks w fs ms) (hk : fs.length ≤ 64 ∧ Okp fs ms fs.length) (hl : (N : Int) ≤ 16 ∧ (P : Int) ≤ 20 ∧ g2 ≤ 128) (hst : Stps w (.slice so ts.length sc) ts) :
  Calls Try.prog 4 #[.agg ([.int .i64 (N : Int), .int .i64 (P : Int), .int .i64 g2, .int .i64 g3, .int .i64 g4, .int .i64 g5, .slice po fs.length pc, .slice so ts.length sc] : List Value).toArray, .agg (ints .i64 [p0, p1])] w fun e w' => e = .returned (.bool true) ∧ Below w.heap.size w w' := by
 have HSH := hdH (hs)
 have HF := hdH (hf)
 have HMK := hdH (hm)
 have HK := hdH (hk)
 have HST : Hid (Stps w (.slice so ts.length sc) ts) := hst
 have SG : Hid (∀ w0, Calls Try.prog 9 #[.agg (ints .i64 [(N : Int), P, g2, g3, g4, g5])] w0 fun x w' => x = .returned (.bool true) ∧ Below w0.heap.size w0 w') := ge.right_yes [(N : Int), P, g2, g3, g4, g5] rfl hs.2.1
 have SU : Hid (∀ w0, Below w.heap.size w w0 → Calls Try.prog 10 #[.slice po fs.length pc] w0 fun x w' => x = .returned (.bool true) ∧ Below w0.heap.size w0 w') := fun w0 hb => (rright_any _ fs ms w0 (hf.below hb) (hm.below hb) true (by simpa using hk)).mono fun _ _ ⟨h1, n, h2⟩ => ⟨h1, by rw [h2]; exact below_drewN (Below.refl _ _) n⟩
 have SL : Hid (∀ w0, Calls Try.prog 12 #[.agg (ints .i64 [(N : Int), P, g2, g3, g4, g5])] w0 fun x w' => x = .returned (.bool true) ∧ Below w0.heap.size w0 w') := fun w0 => light_any N P g2 g3 g4 g5 w0 _ (by simp [hl])
 have SN : Hid (∀ w0, Below w.heap.size w w0 → Calls Try.prog 8 #[.agg (ints .i64 [(N : Int), P, g2, g3, g4, g5]), .slice po fs.length pc] w0 (Made w0 [(N : Int), P, g2, g3, g4, g5] N P S (plnOf fs ms))) := fun w0 hb => new_yes g2 g3 g4 g5 N P S hs _ fs ms w0 (hf.below hb) (hm.below hb) hk.1 hk.2
 have HBG : Hid (N * (P * S) ≤ 1048576) := (by have := shp_num hs; have h5 : g2 + 88 = (S : Int) := hs.2.2.2.2; have h6 : P * S ≤ 20 * 216 := Nat.mul_le_mul (by omega) (by omega); exact Nat.le_trans (Nat.mul_le_mul (show N ≤ 16 by omega) h6) (by omega))
 have HSP : Hid (0 < S) := (by have h5 : g2 + 88 = (S : Int) := hs.2.2.2.2; have := hs.2.1.1.2.2.1; simp [gb, List.getD] at this; show 0 < S; omega)
 clear hs hf hm hk hl hst
 have t0 : (0 : Nat) = 0 := rfl
 go_enter Try.func4, Try.ntmps4
 go_wp2_with (first
  | (have q7 := t7; (with_reducible refine at_store ?_); refine store_lawC _ (chr [(N : Int), P, g2, g3, g4, g5] (.slice bq N bc) (.slice po fs.length pc) false 0) w6.heap.size 0 rfl rfl HW.out.2 rowy_chipR.2 chr_one ?_; intro w8 E8 R8 T8 B8; have K8 : w7.grownBy w8 (some w6.heap.size) := (by rw [E8.out]; exact keep_cells _ _ _ _); have HNB0 := HNB.out; have HNB : Hid (NoB w8 w6.heap.size) := (by rw [E8.out]; exact HNB.out.set HW.out rfl chr_nobyte); have MW : Hid (M w6.heap.size = false) := not_hid HM5.out L6.out.1; have HS8 : Hid (Sim M (one w6.heap.size) w8 c r d q pv [(N : Int), P, g2, g3, g4, g5] N P S (plnOf fs ms) (new S) [] (.agg (chr [(N : Int), P, g2, g3, g4, g5] (.slice bq N bc) (.slice po fs.length pc) false 0).toArray)) := HS7.out.putN HNB0 MW.out K8; have HW : Hid (Vr w8 w6.heap.size (chr [(N : Int), P, g2, g3, g4, g5] (.slice bq N bc) (.slice po fs.length pc) false 0)) := ⟨R8, T8⟩; clear r0 r1 r2 r3 r4 r5 r6 r7; have HC := hdH (HC.out.kept K8 (vlt HC.out) (by have := L4.out; have := L6.out; simp; omega)); have HPL := hdH (HPL.out.kept K8 (vlt HPL.out) (by have := L4.out; have := L6.out; simp; omega)); have BB := hdH (BB.out.trans (B8.mono (by have := L4.out; have := L6.out; omega))); obtain ⟨r0, r1, r2, r3, r4, r5, r6, r7⟩ := vK8 HC.out; clear HNB0 E8 R8 T8 B8 K8 HS7 t7)
  | (have q6 := t6; (with_reducible refine at_alloc ?_); refine new_lawT _ _ zero_chr ?_; intro w7 X7 O7 B7 l7; have HW := hdH (X7); have HNB : Hid (NoB w7 w6.heap.size) := (by obtain ⟨fr, z⟩ := O7; exact obj_nobyte z zc_nobyte); have HS7 := hdH (HS6.out.below B7); clear r0 r1 r2 r3 r4 r5 r6 r7; have HC := vB HC B7 (vlt HC.out); have HPL := vB HPL B7 (vlt HPL.out); have BB := bT BB B7; obtain ⟨r0, r1, r2, r3, r4, r5, r6, r7⟩ := vK8 HC.out; clear X7 O7 B7 l7 HS6 t6; have t7 : (1 : Nat) = 1 := rfl)
  | (have q5 := t5; go_at_call 14; refine (rnew_any N P S g2 g3 g4 g5 HSH.out po fs.length pc w5).mono ?_; rintro e9 w6 ⟨bv, rfl, R6, B6⟩; have HS6 : Hid (Sim M (one w6.heap.size) w6 c r d q pv [(N : Int), P, g2, g3, g4, g5] N P S (plnOf fs ms) (new S) [] (.agg (chr [(N : Int), P, g2, g3, g4, g5] bv (.slice po fs.length pc) false 0).toArray)) := sim_new HL5.out HM5.out HG5.out.1 HG5.out.2 (HF.out.below B4.out) (HMK.out.below B4.out) HK.out.1 HK.out.2 w6.heap.size (Nat.le_refl _) R6 B6; obtain ⟨bq, bc, rfl⟩ := bks_form R6; have L6 : Hid (w5.heap.size ≤ w6.heap.size ∧ w4.heap.size ≤ w5.heap.size) := ⟨B6.size, HG5.out.2.size⟩; clear r0 r1 r2 r3 r4 r5 r6 r7; have HC := vB HC B6 (vlt HC.out); have HPL := vB HPL B6 (vlt HPL.out); have BB := bT BB B6; obtain ⟨r0, r1, r2, r3, r4, r5, r6, r7⟩ := vK8 HC.out; clear R6 B6 t5; have t6 : (1 : Nat) = 1 := rfl)
  | (have q4 := t4; go_at_call 8; refine (SN.out _ BB.out).mono ?_; rintro e9 w5 ⟨M, c, r, d, q, pv, tv, rfl, L5, M5, G5, B5⟩; have HL5 := hdH (L5); have HM5 := hdH (M5); have HG5 : Hid ((∀ k, M k = true → w4.heap.size ≤ k) ∧ Below w4.heap.size w4 w5) := ⟨G5, B5⟩; have B4 := hdH (BB.out); have L4 : Hid (w.heap.size < w1.heap.size ∧ w1.heap.size < w4.heap.size) := ⟨L1.out, range_lt HPL.out.1 (by simp)⟩; clear r0 r1 r2 r3 r4 r5 r6 r7; have HC := vB HC B5 (vlt HC.out); have HPL := vB HPL B5 (vlt HPL.out); have BB := bT BB B5; obtain ⟨r0, r1, r2, r3, r4, r5, r6, r7⟩ := vK8 HC.out; clear L5 M5 G5 B5 t4; have t5 : (1 : Nat) = 1 := rfl)
  | (have q3 := t3; go_at_call 12; refine (SL.out _).mono ?_; rintro e9 w4 ⟨rfl, B4⟩; clear r0 r1 r2 r3 r4 r5 r6 r7; have HC := vB HC B4 (vlt HC.out); have HPL := vB HPL B4 (vlt HPL.out); have BB := bT BB B4; obtain ⟨r0, r1, r2, r3, r4, r5, r6, r7⟩ := vK8 HC.out; clear B4 t3; have t4 : (1 : Nat) = 1 := rfl)
  | (have q2 := t2; go_at_call 10; refine (SU.out _ BB.out).mono ?_; rintro e9 w3 ⟨rfl, B3⟩; clear r0 r1 r2 r3 r4 r5 r6 r7; have HC := vB HC B3 (vlt HC.out); have HPL := vB HPL B3 (vlt HPL.out); have BB := bT BB B3; obtain ⟨r0, r1, r2, r3, r4, r5, r6, r7⟩ := vK8 HC.out; clear B3 t2; have t3 : (1 : Nat) = 1 := rfl)
  | (have q1 := t1; go_at_call 9; refine (SG.out _).mono ?_; rintro e9 w2 ⟨rfl, B2⟩; clear r0 r1 r2 r3 r4 r5 r6 r7; have HC := vB HC B2 (vlt HC.out); have HPL := vB HPL B2 (vlt HPL.out); have BB := bT BB B2; obtain ⟨r0, r1, r2, r3, r4, r5, r6, r7⟩ := vK8 HC.out; clear B2 t1; have t2 : (1 : Nat) = 1 := rfl)
  | (have qb := tb; refine box_lawC _ [.int .i64 p0, .int .i64 p1] rfl ?_; intro wb Xb Bb lb; have HPL := hdH (Xb); clear r0 r1 r2 r3 r4 r5 r6 r7; have HC := vB HC Bb (vlt HC.out); have BB := bT BB Bb; obtain ⟨r0, r1, r2, r3, r4, r5, r6, r7⟩ := vK8 HC.out; clear Xb Bb lb tb; have t1 : (1 : Nat) = 1 := rfl)
  | (have q0 := t0; refine box_lawC _ [.int .i64 (N : Int), .int .i64 (P : Int), .int .i64 g2, .int .i64 g3, .int .i64 g4, .int .i64 g5, .slice po fs.length pc, .slice so ts.length sc] rfl ?_; intro w1 X1 B1 l1; have HC := hdH (X1); have BB := hdH (B1); obtain ⟨r0, r1, r2, r3, r4, r5, r6, r7⟩ := vK8 HC.out; have L1 : Hid (w.heap.size < w1.heap.size) := range_lt HC.out.1 (by simp); clear X1 B1 l1 t0; have tb : (1 : Nat) = 1 := rfl))
 have LK : Hid (Lpr w w4.heap.size w6.heap.size [.int .i64 (N : Int), .int .i64 (P : Int), .int .i64 g2, .int .i64 g3, .int .i64 g4, .int .i64 g5, .slice po fs.length pc, .slice so ts.length sc] w1.heap.size [.int .i64 p0, .int .i64 p1] c r d q pv N P S g2 g3 g4 g5 (plnOf fs ms) 0 w8) := ⟨M, new S, [], bq, bc, po, fs.length, pc, HS8.out, HW.out, HNB.out, HC.out, HPL.out, inv_new N P S, Nat.le_refl _, HG5.out.1, MW.out, BB.out⟩
 have LZ : Hid (w.heap.size < w1.heap.size ∧ w1.heap.size < w4.heap.size ∧ w4.heap.size ≤ w6.heap.size) := ⟨L4.out.1, L4.out.2, by have := L6.out; omega⟩
 clear HS8 HW HNB HC HPL HG5 MW BB L4 L6 HL5 HM5 B4 r0 r1 r2 r3 r4 r5 r6 r7
 go_loopw [8] (fun i wr => ∃ k : Nat, k ≤ ts.length ∧ k ≤ 20 ∧ i = .int .i64 (k : Int) ∧ Lpr w w4.heap.size w6.heap.size [.int .i64 (N : Int), .int .i64 (P : Int), .int .i64 g2, .int .i64 g3, .int .i64 g4, .int .i64 g5, .slice po fs.length pc, .slice so ts.length sc] w1.heap.size [.int .i64 p0, .int .i64 p1] c r d q pv N P S g2 g3 g4 g5 (plnOf fs ms) k wr) (fun i _ => ts.length - (intOf i).toNat)
 case atStart => exact ⟨0, Nat.zero_le _, Nat.zero_le _, rfl, LK.out⟩
 case round =>
  clear LK
  obtain ⟨k, hk, hk2, rfl, ⟨M, s, l, bq, bc, pq, pn, pd, hS, hW, hNB, hC, hPL, hI, hO, hG, hMW, hB⟩⟩ := hrel
  have HS := hdH (hS)
  have HW := hdH (hW)
  have HNB : Hid (NoB wr w6.heap.size) := hNB
  have HC := hdH (hC)
  have HPL : Hid (Vr wr w1.heap.size [.int .i64 p0, .int .i64 p1]) := hPL
  have HI : Hid (Inv N P S s l ∧ ops s ≤ k) := ⟨hI, hO⟩
  have HG : Hid ((∀ j, M j = true → w4.heap.size ≤ j) ∧ M w6.heap.size = false) := ⟨hG, hMW⟩
  have BB := hdH (hB)
  clear hS hW hNB hC hPL hI hO hG hMW hB
  have r7 := HC.out.cell 7 _ rfl
  have lk0 : (0 : Int) ≤ (k : Int) := by omega
  by_cases hlt' : k < ts.length
  ·have lk : (k : Int) < (ts.length : Int) := by omega
   by_cases h20 : k < 20
   ·have lk2 : (k : Int) < 20 := by omega
    obtain ⟨sb, sf, rfl, hx, hrow⟩ := stps_at HST.out k hlt'
    generalize ts.getD k (0, 0, 0, 0, false) = tt at hx hrow
    obtain ⟨tk, tb, tp, tx, ton⟩ := tt
    have HX := hdH (hx)
    have HRW : Hid (∀ w', Below w.heap.size w w' → w'.rangeAt sb (sf + k * 5) [.int .i64 tk, .int .i64 tb, .int .i64 tp, .int .u8 tx, .bool ton]) := hrow
    obtain ⟨s2, l2, hnx⟩ : ∃ s2 l2, nxt N P S (plnOf fs ms) s l tk tb tp tx ton = (s2, l2) := ⟨_, _, rfl⟩
    have HNX : Hid (nxt N P S (plnOf fs ms) s l tk tb tp tx ton = (s2, l2)) := hnx
    clear hx hrow hnx
    go_wp2
    have BB : Hid (Below w.heap.size w wr.drew) := BB.out.drew
    have HS : Hid (Sim M (one w6.heap.size) wr.drew c r d q pv [(N : Int), P, g2, g3, g4, g5] N P S (plnOf fs ms) s l (.agg (chr [(N : Int), P, g2, g3, g4, g5] (.slice bq N bc) (.slice pq pn pd) (off s) (ops s : Int)).toArray)) := Sim.below HS.out (below_drawn (Below.refl _ _) 1)
    have HW : Hid (Vr wr.drew w6.heap.size (chr [(N : Int), P, g2, g3, g4, g5] (.slice bq N bc) (.slice pq pn pd) (off s) (ops s : Int))) := HW.out.drewN 1
    have HPL : Hid (Vr wr.drew w1.heap.size [.int .i64 p0, .int .i64 p1]) := HPL.out.drewN 1
    have HNB : Hid (NoB wr.drew w6.heap.size) := HNB.out
    refine wp_region_held_drew (S := fun w' => Vr w' w.heap.size [.int .i64 (N : Int), .int .i64 (P : Int), .int .i64 g2, .int .i64 g3, .int .i64 g4, .int .i64 g5, .slice po fs.length pc, .slice (some ⟨sb, sf, none⟩) ts.length sc] ∧ w'.rangeAt sb (sf + k * 5) ([.int .i64 tk, .int .i64 tb, .int .i64 tp, .int .u8 tx, .bool ton] : List Value)) (by kernel_rfl) ⟨HC.out, HRW.out _ BB.out⟩ (fun hS => ?_)
    obtain ⟨y1, hx0⟩ : ∃ x, x = wr.drew := ⟨_, rfl⟩
    rw [← hx0] at hS BB HS HW HPL HNB ⊢
    clear hx0
    refine tkH 0 (some 55) (.pointer (some ⟨c, 0, none⟩)) rfl rfl (Or.inl ⟨by rfl, fun w' hw' => by rfl⟩) hS ?_
    simp only [Act.put, zE1, zE2, zE3]
    refine tkH 2 (some 57) (.pointer (some ⟨w.heap.size, 7, none⟩)) rfl rfl (Or.inl ⟨by rfl, fun w' hw' => by go_simp⟩) hS ?_
    simp only [Act.put, zE1, zE2, zE3]
    refine tkH 3 (some 58) (.slice (some ⟨sb, sf, none⟩) ts.length sc) rfl rfl (Or.inl ⟨by rfl, fun w' hw' => by exact exec_loadN 25 (.tmp 57) rfl _ rfl _ _ (load_one one_steps (hw'.1.cell 7 _ rfl))⟩) hS ?_
    simp only [Act.put, zE1, zE2, zE3]
    refine tkH 4 (some 59) (.int .i64 (k : Int)) rfl rfl (Or.inl ⟨by rfl, fun w' hw' => by rfl⟩) hS ?_
    simp only [Act.put, zE1, zE2, zE3]
    refine tkH 5 (some 60) (.pointer (some ⟨sb, sf + k * 5, none⟩)) rfl rfl (Or.inl ⟨by rfl, fun w' hw' => by exact exec_idxS (.tmp 58) (.tmp 59) rfl sb sf ts.length sc k rfl rfl hlt' w'⟩) hS ?_
    simp only [Act.put, zE1, zE2, zE3]
    refine tkH 6 (some 61) (.agg ([.int .i64 tk, .int .i64 tb, .int .i64 tp, .int .u8 tx, .bool ton] : List Value).toArray) rfl rfl (Or.inl ⟨by rfl, fun w' hw' => by exact exec_loadN 45 (.tmp 60) rfl _ rfl _ _ (load_cells rowy_step hw'.2)⟩) hS ?_
    simp only [Act.put, zE1, zE2, zE3]
    refine wpAnyH_ready (rs := [1]) (by kernel_rfl) (by simp) ?_
    refine AllReadyH.cons rfl (fun K hK => ?_) AllReadyH.nil
    refine step_load _ rfl (some 56) rfl (.tmp 7) 38 rfl (.pointer (some ⟨w6.heap.size, 0, none⟩)) (.agg (chr [(N : Int), P, g2, g3, g4, g5] (.slice bq N bc) (.slice pq pn pd) (off s) (ops s : Int)).toArray) rfl (load_cells rowy_chipR HW.out.1) ?_
    refine hK.out _ _ hS (fun _ => ?_)
    simp only [Act.put, zE1, zE2, zE3]
    clear hK K
    refine wpAnyH_ready (rs := [7]) (by kernel_rfl) (by simp) ?_
    refine AllReadyH.cons rfl (fun K hK => ?_) AllReadyH.nil
    refine ge.step_callW _ (by rfl) (some 62) rfl 15 #[.tmp 55, .tmp 56, .tmp 61] #[28, 38, 45] rfl (fun q w' => by rfl) #[.pointer (some ⟨c, 0, none⟩), .agg (chr [(N : Int), P, g2, g3, g4, g5] (.slice bq N bc) (.slice pq pn pd) (off s) (ops s : Int)).toArray, .agg ([.int .i64 tk, .int .i64 tb, .int .i64 tp, .int .u8 tx, .bool ton] : List Value).toArray] (by simp only [List.map_toArray, List.map_cons, List.map_nil]; rfl) (fun v w' => ∃ M' v', v = .tuple #[v', .bool true] ∧ Sim M' (one w6.heap.size) w' c r d q pv [(N : Int), P, g2, g3, g4, g5] N P S (plnOf fs ms) s2 l2 v' ∧ (∀ k, k < y1.heap.size → M' k = M k) ∧ Frm M y1 w') ?_ ?_
    ·exact step_nx HSH.out HI.out.1 (by have := HI.out.2; omega) (one_lt (vlt HW.out)) HS.out tk tb tp tx HX.out ton HNX.out
    rintro v9 y2 ⟨M', v', rfl, S9, A9, F9⟩
    obtain ⟨bq2, bc2, pq2, pn2, pd2, rfl⟩ := sim_form S9
    have HS2 := hdH (S9)
    have B9 : Below w4.heap.size y1 y2 := F9.below (Nat.le_of_lt (Nat.lt_of_le_of_lt LZ.out.2.2 (vlt HW.out))) HG.out.1
    have eW : y2.heap[w6.heap.size]? = y1.heap[w6.heap.size]? := F9.block (vlt HW.out) HG.out.2
    have BB := hdH (BB.out.trans (B9.mono (by have := LZ.out; omega)))
    have hS : Vr y2 w.heap.size [.int .i64 (N : Int), .int .i64 (P : Int), .int .i64 g2, .int .i64 g3, .int .i64 g4, .int .i64 g5, .slice po fs.length pc, .slice (some ⟨sb, sf, none⟩) ts.length sc] ∧ y2.rangeAt sb (sf + k * 5) ([.int .i64 tk, .int .i64 tb, .int .i64 tp, .int .u8 tx, .bool ton] : List Value) := ⟨hS.1.below B9 (by have := LZ.out; omega), HRW.out _ BB.out⟩
    have lw9 : w6.heap.size < y1.heap.size := range_lt HW.out.1 (by simp [chr])
    have HW := hdH (HW.out.heap eW)
    have HPL := hdH (HPL.out.below B9 LZ.out.2.1)
    have HNB := hdH (HNB.out.heap eW)
    have HGM : Hid ((∀ j, M' j = true → w4.heap.size ≤ j) ∧ M' w6.heap.size = false) := hgm HG.out A9 LZ.out.2.2 lw9
    clear S9 A9 F9 B9 eW lw9
    refine hK.out _ _ hS (fun _ => ?_)
    simp only [Act.put, zE1, zE2, zE3]
    clear hK K
    refine tkH 8 (some 54) (.tuple #[.agg (chr [(N : Int), P, g2, g3, g4, g5] (.slice bq2 N bc2) (.slice pq2 pn2 pd2) (off s2) (ops s2 : Int)).toArray, .bool true]) rfl rfl (Or.inl ⟨by rfl, fun w' hw' => by rfl⟩) hS ?_
    simp only [Act.put, zE1, zE2, zE3]
    refine tkH 9 (some 63) (.agg (chr [(N : Int), P, g2, g3, g4, g5] (.slice bq2 N bc2) (.slice pq2 pn2 pd2) (off s2) (ops s2 : Int)).toArray) rfl rfl (Or.inl ⟨by rfl, fun w' hw' => by rfl⟩) hS ?_
    simp only [Act.put, zE1, zE2, zE3]
    refine tkH 10 (some 64) (.bool true) rfl rfl (Or.inl ⟨by rfl, fun w' hw' => by rfl⟩) hS ?_
    simp only [Act.put, zE1, zE2, zE3]
    refine wpAnyH_ready (rs := [11]) (by kernel_rfl) (by simp) ?_
    refine AllReadyH.cons rfl (fun K hK => ?_) AllReadyH.nil
    refine step_storeX _ rfl none rfl (.tmp 7) (.tmp 63) 38 rfl w6.heap.size (chr [(N : Int), P, g2, g3, g4, g5] (.slice bq N bc) (.slice pq pn pd) (off s) (ops s : Int)) (chr [(N : Int), P, g2, g3, g4, g5] (.slice bq2 N bc2) (.slice pq2 pn2 pd2) (off s2) (ops s2 : Int)) rfl rfl HW.out rfl rowy_chipR.2 chr_one ?_
    intro y3 E9 V9
    have K9 : y2.grownBy y3 (some w6.heap.size) := (by rw [E9.out]; exact keep_cells _ _ _ _)
    have HNB2 : Hid (NoB y3 w6.heap.size) := (by rw [E9.out]; exact HNB.out.set HW.out rfl chr_nobyte)
    have HS2 : Hid (Sim M' (one w6.heap.size) y3 c r d q pv [(N : Int), P, g2, g3, g4, g5] N P S (plnOf fs ms) s2 l2 (.agg (chr [(N : Int), P, g2, g3, g4, g5] (.slice bq2 N bc2) (.slice pq2 pn2 pd2) (off s2) (ops s2 : Int)).toArray)) := Sim.putN HS2.out HNB.out HGM.out.2 K9
    have HC : Hid (Vr y3 w.heap.size [.int .i64 (N : Int), .int .i64 (P : Int), .int .i64 g2, .int .i64 g3, .int .i64 g4, .int .i64 g5, .slice po fs.length pc, .slice (some ⟨sb, sf, none⟩) ts.length sc]) := hS.1.kept K9 (range_lt hS.1.1 (by simp)) (by have := LZ.out; simp; omega)
    have HPL := hdH (HPL.out.kept K9 (vlt HPL.out) (by have := LZ.out; simp; omega))
    have HW := hdH (V9)
    have BB := hdH (BB.out.trans ((Below.refl w.heap.size _).grown K9 BB.out.size (fun k e => by have e := Option.some.inj e; have := LZ.out; omega)))
    have hS : Vr y3 w.heap.size [.int .i64 (N : Int), .int .i64 (P : Int), .int .i64 g2, .int .i64 g3, .int .i64 g4, .int .i64 g5, .slice po fs.length pc, .slice (some ⟨sb, sf, none⟩) ts.length sc] ∧ y3.rangeAt sb (sf + k * 5) ([.int .i64 tk, .int .i64 tb, .int .i64 tp, .int .u8 tx, .bool ton] : List Value) := ⟨HC.out, HRW.out _ BB.out⟩
    clear E9 V9 K9 HNB HS
    refine hK.out _ _ hS (fun _ => ?_)
    simp only [Act.put]
    clear hK K
    refine wpAnyH_done (by kernel_rfl) ?_ _
    have HI2 : Hid (Inv N P S s2 l2) := (by have := inv_nxt HI.out.1 (plnOf fs ms) tk tb tp tx HX.out ton; rw [HNX.out] at this; exact this)
    have HOP : Hid (ops s2 ≤ k + 1) := (by have h1 : ops s2 ≤ ops s + 1 := (by have := nxt_le (N := N) (P := P) (S := S) (plnOf fs ms) s l tk tb tp tx ton; rw [HNX.out] at this; exact this); have h2 := HI.out.2; show _ ≤ _; omega)
    clear r7 hS
    go_wp2
    go_roundw
    case rel => exact ⟨k + 1, by omega, by omega, by go_num, M', s2, l2, bq2, bc2, pq2, pn2, pd2, HS2.out, HW.out, HNB2.out, HC.out, HPL.out, HI2.out, HOP.out, HGM.out.1, HGM.out.2, BB.out⟩
    case measure => simp [intOf]; omega
   ·have lk2 : ¬ ((k : Int) < 20) := by omega
    have s0 := HPL.out.cell 0 _ rfl
    have s1 := HPL.out.cell 1 _ rfl
    have c8 := HW.out.cell 8 _ rfl
    have t0 : (0 : Nat) = 0 := rfl
    have ta : (0 : Nat) = 0 := rfl
    by_cases ho : off s = true
    ·have HOF := hdH (ho)
     rw [ho] at c8
     clear ho
     go_wp2_with (first
      | (have qa := ta; go_at_call 11; refine (awake_any _).mono ?_; rintro e9 wz ⟨rfl, Bz⟩; have BBz := hdH (BB.out.trans ((BE.out.trans (Bz.mono BE.out.size)).mono BB.out.size)); clear Bz ta)
      | (have q0 := t0; go_at_call 22; refine (sim_read_off HS.out [p0, p1] HOF.out).mono ?_; rintro e9 wA ⟨rfl, B1⟩; clear r7 s0 s1 c8; have r0 := (HC.out.below B1 (vlt HC.out)).cell 0 _ rfl; have r1 := (HC.out.below B1 (vlt HC.out)).cell 1 _ rfl; have r2 := (HC.out.below B1 (vlt HC.out)).cell 2 _ rfl; have r3 := (HC.out.below B1 (vlt HC.out)).cell 3 _ rfl; have r4 := (HC.out.below B1 (vlt HC.out)).cell 4 _ rfl; have r5 := (HC.out.below B1 (vlt HC.out)).cell 5 _ rfl; have r6 := (HC.out.below B1 (vlt HC.out)).cell 6 _ rfl; have r7 := (HC.out.below B1 (vlt HC.out)).cell 7 _ rfl; have s0 := (HPL.out.below B1 (vlt HPL.out)).cell 0 _ rfl; have s1 := (HPL.out.below B1 (vlt HPL.out)).cell 1 _ rfl; have c8 := (HW.out.below B1 (vlt HW.out)).cell 8 _ rfl; rw [HOF.out] at c8; have BE := hdH (B1); clear B1 t0))
     go_ret
     exact ⟨rfl, BBz.out⟩
    ·have ho : off s = false := by simpa using ho
     have HOF := hdH (ho)
     rw [ho] at c8
     clear ho
     by_cases hp : 0 ≤ p0 ∧ p0 < N ∧ 0 ≤ p1 ∧ p1 < P
     ·obtain ⟨b, rfl⟩ : ∃ n : Nat, p0 = n := ⟨p0.toNat, by omega⟩
      obtain ⟨p, rfl⟩ : ∃ n : Nat, p1 = n := ⟨p1.toNat, by omega⟩
      have hb : b < N := by omega
      have hj : p < P := by omega
      have HBJ : Hid (b < N ∧ p < P) := ⟨hb, hj⟩
      have SP : Hid (∀ w0, Calls Try.prog 23 #[.agg (ints .i64 [(N : Int), P, g2, g3, g4, g5]), .agg (ints .i64 [(b : Int), (p : Int)])] w0 fun e w' => e = .returned (.bool true) ∧ Below w0.heap.size w0 w') := fun w0 => (place_any _ N P S HSH.out b p w0).mono fun _ _ ⟨h1, h2⟩ => ⟨by rw [h1, decide_eq_true hp], h2⟩
      obtain ⟨bb, bo, gb, go, gc, uv, xv, rfl, hpg⟩ := ref_page HS.out b p hb hj
      have HPG : Hid (∀ w', Below wr.heap.size wr w' → w'.rangeAt bb (bo + b * 5) (bkc (.slice (some ⟨gb, go, none⟩) P gc) uv (lsp s b) (scr s b) (ers s b)) ∧ w'.cell? ⟨gb, go + p, none⟩ = some xv ∧ Byt w' xv (pgs s b p)) := hpg
      have HLS : Hid ((pgs s b p).length = S) := ((HI.out.1.1 b hb).1 p hj).1
      clear hp hb hj hpg
      go_wp2_with (first
       | (have q1 := t1; go_at_call 23; refine (SP.out _).mono ?_; rintro e9 wB ⟨rfl, B2⟩; clear r0 r1 r2 r3 r4 r5 r6 r7 s0 s1 c8; have BE := bT BE B2; have HYB := hdH (HYB.out.below B2); have HFZ : Hid (wB.frozen? ⟨vb, vo, none⟩ = false ∧ wr.heap.size ≤ vb) := ⟨frz_below HFZ.out.1 B2 HVL.out, HFZ.out.2⟩; have HVL : Hid (vb < wB.heap.size) := Nat.lt_of_lt_of_le HVL.out B2.size; have r0 := (HC.out.below BE.out (vlt HC.out)).cell 0 _ rfl; have r1 := (HC.out.below BE.out (vlt HC.out)).cell 1 _ rfl; have r2 := (HC.out.below BE.out (vlt HC.out)).cell 2 _ rfl; have r3 := (HC.out.below BE.out (vlt HC.out)).cell 3 _ rfl; have r4 := (HC.out.below BE.out (vlt HC.out)).cell 4 _ rfl; have r5 := (HC.out.below BE.out (vlt HC.out)).cell 5 _ rfl; have r6 := (HC.out.below BE.out (vlt HC.out)).cell 6 _ rfl; have r7 := (HC.out.below BE.out (vlt HC.out)).cell 7 _ rfl; have s0 := (HPL.out.below BE.out (vlt HPL.out)).cell 0 _ rfl; have s1 := (HPL.out.below BE.out (vlt HPL.out)).cell 1 _ rfl; have c8 := (HW.out.below BE.out (vlt HW.out)).cell 8 _ rfl; rw [HOF.out] at c8; clear B2 t1; have t2 : (1 : Nat) = 1 := rfl)
       | (have q0 := t0; go_at_call 22; refine (sim_read HS.out HI.out.1 HSP.out b p HOF.out HBJ.out.1 HBJ.out.2).mono ?_; rintro e9 wA ⟨vb, vo, vc, rfl, hv, hz, hY, B1⟩; clear r7 s0 s1 c8; have BE := hdH (B1); have HYB := hdH (hY); have HFZ : Hid (wA.frozen? ⟨vb, vo, none⟩ = false ∧ wr.heap.size ≤ vb) := ⟨hz 0 HSP.out, hv⟩; have HVL : Hid (vb < wA.heap.size) := (by obtain ⟨x, hx, _⟩ := byt_first hY HLS.out HSP.out; exact World.block_lt_of_cell? _ _ hx); have r0 := (HC.out.below B1 (vlt HC.out)).cell 0 _ rfl; have r1 := (HC.out.below B1 (vlt HC.out)).cell 1 _ rfl; have r2 := (HC.out.below B1 (vlt HC.out)).cell 2 _ rfl; have r3 := (HC.out.below B1 (vlt HC.out)).cell 3 _ rfl; have r4 := (HC.out.below B1 (vlt HC.out)).cell 4 _ rfl; have r5 := (HC.out.below B1 (vlt HC.out)).cell 5 _ rfl; have r6 := (HC.out.below B1 (vlt HC.out)).cell 6 _ rfl; have r7 := (HC.out.below B1 (vlt HC.out)).cell 7 _ rfl; have s0 := (HPL.out.below B1 (vlt HPL.out)).cell 0 _ rfl; have s1 := (HPL.out.below B1 (vlt HPL.out)).cell 1 _ rfl; have c8 := (HW.out.below B1 (vlt HW.out)).cell 8 _ rfl; rw [HOF.out] at c8; clear hv hz hY B1 t0; have t1 : (1 : Nat) = 1 := rfl))
      clear r0 r1 r2 r3 r4 r5 r6 r7 s0 s1 c8
      have HYB : Hid (Byt wB.drew (.slice (some ⟨vb, vo, none⟩) S vc) (pgs s b p)) := byt_drawn HYB.out 1
      have HFZ : Hid ((wB.drew).frozen? ⟨vb, vo, none⟩ = false ∧ wr.heap.size ≤ vb) := HFZ.out
      have HVL : Hid (vb < (wB.drew).heap.size) := HVL.out
      refine wp_region_held_drew (S := fun w' => Below wr.heap.size wr w') (by kernel_rfl) BE.out.drew (fun hS => ?_)
      obtain ⟨z14_1, hx0⟩ : ∃ x, x = wB.drew := ⟨_, rfl⟩
      rw [← hx0] at hS HYB HFZ HVL ⊢
      clear hx0
      refine tkH 0 (some 98) (.int .i64 0) rfl rfl (Or.inl ⟨by rfl, fun w' hw' => by rfl⟩) hS ?_
      simp only [Act.put, zE1, zE2, zE3]
      refine tkH 1 (some 99) (.bool false) rfl rfl (Or.inl ⟨by rfl, fun w' hw' => by rfl⟩) hS ?_
      simp only [Act.put, zE1, zE2, zE3]
      refine tkH 2 (some 100) (.bool false) rfl rfl (Or.inl ⟨by rfl, fun w' hw' => by rfl⟩) hS ?_
      simp only [Act.put, zE1, zE2, zE3]
      refine tkH 3 (some 101) (.slice (some ⟨vb, vo, none⟩) S vc) rfl rfl (Or.inl ⟨by rfl, fun w' hw' => by rfl⟩) hS ?_
      simp only [Act.put, zE1, zE2, zE3]
      refine tkH 4 (some 102) (.pointer (some ⟨w6.heap.size, 6, none⟩)) rfl rfl (Or.inl ⟨by rfl, fun w' hw' => by go_simp⟩) hS ?_
      simp only [Act.put, zE1, zE2, zE3]
      refine tkH 5 (some 103) (.slice (some ⟨bb, bo, none⟩) N bc) rfl rfl (Or.inl ⟨by rfl, fun w' hw' => by exact exec_loadN 36 (.tmp 102) rfl _ rfl _ _ (load_one one_blks ((HW.out.below hw' (vlt HW.out)).cell 6 _ rfl))⟩) hS ?_
      simp only [Act.put, zE1, zE2, zE3]
      refine tkH 6 (some 104) (.pointer (some ⟨w1.heap.size, 0, none⟩)) rfl rfl (Or.inl ⟨by rfl, fun w' hw' => by go_simp⟩) hS ?_
      simp only [Act.put, zE1, zE2, zE3]
      refine tkH 7 (some 105) (.int .i64 (b : Int)) rfl rfl (Or.inl ⟨by rfl, fun w' hw' => by exact exec_loadN 3 (.tmp 104) rfl _ rfl _ _ (load_one one_int ((HPL.out.below hw' (vlt HPL.out)).cell 0 _ rfl))⟩) hS ?_
      simp only [Act.put, zE1, zE2, zE3]
      refine tkH 8 (some 106) (.pointer (some ⟨bb, bo + b * 5, none⟩)) rfl rfl (Or.inl ⟨by rfl, fun w' hw' => by exact exec_idxB (.tmp 103) (.tmp 105) rfl bb bo N bc b rfl rfl HBJ.out.1 w'⟩) hS ?_
      simp only [Act.put, zE1, zE2, zE3]
      refine tkH 9 (some 107) (.pointer (some ⟨bb, bo + b * 5, none⟩)) rfl rfl (Or.inl ⟨by rfl, fun w' hw' => by go_simp⟩) hS ?_
      simp only [Act.put, zE1, zE2, zE3]
      refine tkH 10 (some 108) (.slice (some ⟨gb, go, none⟩) P gc) rfl rfl (Or.inl ⟨by rfl, fun w' hw' => by exact exec_loadN 47 (.tmp 107) rfl _ rfl _ _ (load_one one_pages ((HPG.out _ hw').1 0 _ rfl))⟩) hS ?_
      simp only [Act.put, zE1, zE2, zE3]
      refine tkH 11 (some 109) (.pointer (some ⟨w1.heap.size, 1, none⟩)) rfl rfl (Or.inl ⟨by rfl, fun w' hw' => by go_simp⟩) hS ?_
      simp only [Act.put, zE1, zE2, zE3]
      refine tkH 12 (some 110) (.int .i64 (p : Int)) rfl rfl (Or.inl ⟨by rfl, fun w' hw' => by exact exec_loadN 3 (.tmp 109) rfl _ rfl _ _ (load_one one_int ((HPL.out.below hw' (vlt HPL.out)).cell 1 _ rfl))⟩) hS ?_
      simp only [Act.put, zE1, zE2, zE3]
      refine tkH 13 (some 111) (.pointer (some ⟨gb, go + p, none⟩)) rfl rfl (Or.inl ⟨by rfl, fun w' hw' => by exact exec_idxP (.tmp 108) (.tmp 110) rfl gb go P gc p rfl rfl HBJ.out.2 w'⟩) hS ?_
      simp only [Act.put, zE1, zE2, zE3]
      refine tkH 14 (some 112) (xv) rfl rfl (Or.inl ⟨by rfl, fun w' hw' => by exact exec_loadN 53 (.tmp 111) rfl _ rfl _ _ (load_one one_bytes (HPG.out _ hw').2.1)⟩) hS ?_
      simp only [Act.put, zE1, zE2, zE3]
      refine wpAnyH_ready (rs := [15]) (by kernel_rfl) (by simp) ?_
      refine AllReadyH.cons rfl (fun K hK => ?_) AllReadyH.nil
      refine ge.step_callW _ (by rfl) (some 113) rfl 19 #[.tmp 101, .tmp 112] #[53, 53] rfl (fun q w' => by rfl) #[.slice (some ⟨vb, vo, none⟩) S vc, xv] (by simp only [List.map_toArray, List.map_cons, List.map_nil]; rfl) (fun v w' => v = .bool true ∧ Below z14_1.heap.size z14_1 w') ?_ ?_
      ·exact (same_ok _ _ _ _ HYB.out (HPG.out _ hS).2.2).mono fun _ _ ⟨h1, h2⟩ => ⟨_, h1, rfl, h2⟩
      rintro _ z14_2 ⟨rfl, B9⟩
      have hS : Below wr.heap.size wr z14_2 := hS.trans (B9.mono hS.size)
      have HYB := hdH (HYB.out.below B9)
      have HFZ : Hid (z14_2.frozen? ⟨vb, vo, none⟩ = false ∧ wr.heap.size ≤ vb) := ⟨frz_below HFZ.out.1 B9 HVL.out, HFZ.out.2⟩
      have HVL : Hid (vb < _) := Nat.lt_of_lt_of_le HVL.out B9.size
      clear B9
      refine hK.out _ _ hS (fun _ => ?_)
      simp only [Act.put, zE1, zE2, zE3]
      clear hK K
      refine tkH 16 (some 114) (.bool false) rfl rfl (Or.inl ⟨by rfl, fun w' hw' => by rfl⟩) hS ?_
      simp only [Act.put, zE1, zE2, zE3]
      refine tkH 17 (some 115) (.bool false) rfl rfl (Or.inl ⟨by rfl, fun w' hw' => by rfl⟩) hS ?_
      simp only [Act.put, zE1, zE2, zE3]
      refine wpAnyH_done (by kernel_rfl) ?_ _
      have BE := hdH (hS)
      clear hS
      obtain ⟨x0, hx0, hx1⟩ := byt_first HYB.out HLS.out HSP.out
      have HX0 := hdH (hx1)
      have t2 : (1 : Nat) = 1 := rfl
      have lS : (0 : Int) < (S : Int) := by have := HSP.out; omega
      go_wp2_with (first
       | (have q3 := t3; go_at_call 22; refine (sim_read (Sim.below HS.out BE.out) HI.out.1 HSP.out b p HOF.out HBJ.out.1 HBJ.out.2).mono ?_; rintro e9 wD ⟨ub, uo, uc, rfl, hv, hz, hY, B1⟩; clear s0 s1; have BE := bT BE B1; have HYB := hdH (hY); clear hv hz hY B1 t3)
       | (have q2 := t2; (with_reducible refine at_store ?_); refine store_law1 _ vb vo _ rfl rfl (by rw [hx0]; rfl) HFZ.out.1 one_u8 rfl rfl ?_; intro wC E9; have BE : Hid (Below wr.heap.size wr wC) := (by rw [E9.out]; exact BE.out.grown (keep_set _ _ _ _) BE.out.size (fun k e => by have e := Option.some.inj e; have := HFZ.out; omega)); clear hx0 E9 HYB HFZ t2; have s0 := (HPL.out.below BE.out (vlt HPL.out)).cell 0 _ rfl; have s1 := (HPL.out.below BE.out (vlt HPL.out)).cell 1 _ rfl; have t3 : (1 : Nat) = 1 := rfl))
      have HYB : Hid (Byt wD.drew (.slice (some ⟨ub, uo, none⟩) S uc) (pgs s b p)) := byt_drawn HYB.out 1
      refine wp_region_held_drew (S := fun w' => Below wr.heap.size wr w') (by kernel_rfl) BE.out.drew (fun hS => ?_)
      obtain ⟨z18_1, hx0⟩ : ∃ x, x = wD.drew := ⟨_, rfl⟩
      rw [← hx0] at hS HYB ⊢
      clear hx0
      refine tkH 0 (some 127) (.int .i64 0) rfl rfl (Or.inl ⟨by rfl, fun w' hw' => by rfl⟩) hS ?_
      simp only [Act.put, zE1, zE2, zE3]
      refine tkH 1 (some 128) (.bool true) rfl rfl (Or.inl ⟨by rfl, fun w' hw' => by rfl⟩) hS ?_
      simp only [Act.put, zE1, zE2, zE3]
      refine tkH 2 (some 129) (.bool true) rfl rfl (Or.inl ⟨by rfl, fun w' hw' => by rfl⟩) hS ?_
      simp only [Act.put, zE1, zE2, zE3]
      refine tkH 3 (some 130) (.slice (some ⟨ub, uo, none⟩) S uc) rfl rfl (Or.inl ⟨by rfl, fun w' hw' => by rfl⟩) hS ?_
      simp only [Act.put, zE1, zE2, zE3]
      refine tkH 4 (some 131) (.pointer (some ⟨w6.heap.size, 6, none⟩)) rfl rfl (Or.inl ⟨by rfl, fun w' hw' => by go_simp⟩) hS ?_
      simp only [Act.put, zE1, zE2, zE3]
      refine tkH 5 (some 132) (.slice (some ⟨bb, bo, none⟩) N bc) rfl rfl (Or.inl ⟨by rfl, fun w' hw' => by exact exec_loadN 36 (.tmp 131) rfl _ rfl _ _ (load_one one_blks ((HW.out.below hw' (vlt HW.out)).cell 6 _ rfl))⟩) hS ?_
      simp only [Act.put, zE1, zE2, zE3]
      refine tkH 6 (some 133) (.pointer (some ⟨w1.heap.size, 0, none⟩)) rfl rfl (Or.inl ⟨by rfl, fun w' hw' => by go_simp⟩) hS ?_
      simp only [Act.put, zE1, zE2, zE3]
      refine tkH 7 (some 134) (.int .i64 (b : Int)) rfl rfl (Or.inl ⟨by rfl, fun w' hw' => by exact exec_loadN 3 (.tmp 133) rfl _ rfl _ _ (load_one one_int ((HPL.out.below hw' (vlt HPL.out)).cell 0 _ rfl))⟩) hS ?_
      simp only [Act.put, zE1, zE2, zE3]
      refine tkH 8 (some 135) (.pointer (some ⟨bb, bo + b * 5, none⟩)) rfl rfl (Or.inl ⟨by rfl, fun w' hw' => by exact exec_idxB (.tmp 132) (.tmp 134) rfl bb bo N bc b rfl rfl HBJ.out.1 w'⟩) hS ?_
      simp only [Act.put, zE1, zE2, zE3]
      refine tkH 9 (some 136) (.pointer (some ⟨bb, bo + b * 5, none⟩)) rfl rfl (Or.inl ⟨by rfl, fun w' hw' => by go_simp⟩) hS ?_
      simp only [Act.put, zE1, zE2, zE3]
      refine tkH 10 (some 137) (.slice (some ⟨gb, go, none⟩) P gc) rfl rfl (Or.inl ⟨by rfl, fun w' hw' => by exact exec_loadN 47 (.tmp 136) rfl _ rfl _ _ (load_one one_pages ((HPG.out _ hw').1 0 _ rfl))⟩) hS ?_
      simp only [Act.put, zE1, zE2, zE3]
      refine tkH 11 (some 138) (.pointer (some ⟨w1.heap.size, 1, none⟩)) rfl rfl (Or.inl ⟨by rfl, fun w' hw' => by go_simp⟩) hS ?_
      simp only [Act.put, zE1, zE2, zE3]
      refine tkH 12 (some 139) (.int .i64 (p : Int)) rfl rfl (Or.inl ⟨by rfl, fun w' hw' => by exact exec_loadN 3 (.tmp 138) rfl _ rfl _ _ (load_one one_int ((HPL.out.below hw' (vlt HPL.out)).cell 1 _ rfl))⟩) hS ?_
      simp only [Act.put, zE1, zE2, zE3]
      refine tkH 13 (some 140) (.pointer (some ⟨gb, go + p, none⟩)) rfl rfl (Or.inl ⟨by rfl, fun w' hw' => by exact exec_idxP (.tmp 137) (.tmp 139) rfl gb go P gc p rfl rfl HBJ.out.2 w'⟩) hS ?_
      simp only [Act.put, zE1, zE2, zE3]
      refine tkH 14 (some 141) (xv) rfl rfl (Or.inl ⟨by rfl, fun w' hw' => by exact exec_loadN 53 (.tmp 140) rfl _ rfl _ _ (load_one one_bytes (HPG.out _ hw').2.1)⟩) hS ?_
      simp only [Act.put, zE1, zE2, zE3]
      refine wpAnyH_ready (rs := [15]) (by kernel_rfl) (by simp) ?_
      refine AllReadyH.cons rfl (fun K hK => ?_) AllReadyH.nil
      refine ge.step_callW _ (by rfl) (some 142) rfl 19 #[.tmp 130, .tmp 141] #[53, 53] rfl (fun q w' => by rfl) #[.slice (some ⟨ub, uo, none⟩) S uc, xv] (by simp only [List.map_toArray, List.map_cons, List.map_nil]; rfl) (fun v w' => v = .bool true ∧ Below z18_1.heap.size z18_1 w') ?_ ?_
      ·exact (same_ok _ _ _ _ HYB.out (HPG.out _ hS).2.2).mono fun _ _ ⟨h1, h2⟩ => ⟨_, h1, rfl, h2⟩
      rintro _ z18_2 ⟨rfl, B9⟩
      have hS : Below wr.heap.size wr z18_2 := hS.trans (B9.mono hS.size)
      clear B9
      refine hK.out _ _ hS (fun _ => ?_)
      simp only [Act.put, zE1, zE2, zE3]
      clear hK K
      refine tkH 16 (some 143) (.bool true) rfl rfl (Or.inl ⟨by rfl, fun w' hw' => by rfl⟩) hS ?_
      simp only [Act.put, zE1, zE2, zE3]
      refine tkH 17 (some 144) (.bool true) rfl rfl (Or.inl ⟨by rfl, fun w' hw' => by rfl⟩) hS ?_
      simp only [Act.put, zE1, zE2, zE3]
      refine wpAnyH_ready (rs := [18]) (by kernel_rfl) (by simp) ?_
      refine AllReadyH.cons rfl (fun K hK => ?_) AllReadyH.nil
      refine ge.step_callW _ (by rfl) (some 145) rfl 11 #[] #[] rfl (fun q w' => by rfl) #[] (by simp only [List.map_toArray, List.map_nil]) (fun v w' => v = .bool true ∧ Below z18_2.heap.size z18_2 w') ?_ ?_
      ·exact (awake_any _).mono fun _ _ ⟨h1, h2⟩ => ⟨_, h1, rfl, h2⟩
      rintro _ z18_3 ⟨rfl, B9⟩
      have hS : Below wr.heap.size wr z18_3 := hS.trans (B9.mono hS.size)
      clear B9
      refine hK.out _ _ hS (fun _ => ?_)
      simp only [Act.put, zE1, zE2, zE3]
      clear hK K
      refine tkH 19 (some 146) (.bool true) rfl rfl (Or.inl ⟨by rfl, fun w' hw' => by rfl⟩) hS ?_
      simp only [Act.put, zE1, zE2, zE3]
      refine tkH 20 (some 4) (.bool true) rfl rfl (Or.inl ⟨by rfl, fun w' hw' => by rfl⟩) hS ?_
      simp only [Act.put, zE1, zE2, zE3]
      refine wpAnyH_done (by kernel_rfl) ?_ _
      have BBz := bT BB hS
      clear hS
      go_wp2
      go_ret
      exact ⟨rfl, BBz.out⟩
     ·have SP : Hid (∀ w0, Calls Try.prog 23 #[.agg (ints .i64 [(N : Int), P, g2, g3, g4, g5]), .agg (ints .i64 [p0, p1])] w0 fun e w' => e = .returned (.bool false) ∧ Below w0.heap.size w0 w') := fun w0 => (place_any _ N P S HSH.out p0 p1 w0).mono fun _ _ ⟨h1, h2⟩ => ⟨by rw [h1, decide_eq_false hp], h2⟩
      have HNP := hdH (hp)
      clear hp
      go_wp2_with (first
       | (have qa := ta; go_at_call 11; refine (awake_any _).mono ?_; rintro e9 wz ⟨rfl, Bz⟩; have BBz := hdH (BB.out.trans ((BE.out.trans (Bz.mono BE.out.size)).mono BB.out.size)); clear Bz ta)
       | (have q1 := t1; go_at_call 23; refine (SP.out _).mono ?_; rintro e9 wB ⟨rfl, B2⟩; clear r0 r1 r2 r3 r4 r5 r6 r7 s0 s1 c8; have BE := bT BE B2; have r0 := (HC.out.below BE.out (vlt HC.out)).cell 0 _ rfl; have r1 := (HC.out.below BE.out (vlt HC.out)).cell 1 _ rfl; have r2 := (HC.out.below BE.out (vlt HC.out)).cell 2 _ rfl; have r3 := (HC.out.below BE.out (vlt HC.out)).cell 3 _ rfl; have r4 := (HC.out.below BE.out (vlt HC.out)).cell 4 _ rfl; have r5 := (HC.out.below BE.out (vlt HC.out)).cell 5 _ rfl; have r6 := (HC.out.below BE.out (vlt HC.out)).cell 6 _ rfl; have r7 := (HC.out.below BE.out (vlt HC.out)).cell 7 _ rfl; have s0 := (HPL.out.below BE.out (vlt HPL.out)).cell 0 _ rfl; have s1 := (HPL.out.below BE.out (vlt HPL.out)).cell 1 _ rfl; have c8 := (HW.out.below BE.out (vlt HW.out)).cell 8 _ rfl; rw [HOF.out] at c8; clear B2 t1)
       | (have q0 := t0; go_at_call 22; refine (sim_read_no HS.out p0 p1 HOF.out HNP.out).mono ?_; rintro e9 wA ⟨ao, cap, rfl, B1⟩; clear r7 s0 s1 c8; have r0 := (HC.out.below B1 (vlt HC.out)).cell 0 _ rfl; have r1 := (HC.out.below B1 (vlt HC.out)).cell 1 _ rfl; have r2 := (HC.out.below B1 (vlt HC.out)).cell 2 _ rfl; have r3 := (HC.out.below B1 (vlt HC.out)).cell 3 _ rfl; have r4 := (HC.out.below B1 (vlt HC.out)).cell 4 _ rfl; have r5 := (HC.out.below B1 (vlt HC.out)).cell 5 _ rfl; have r6 := (HC.out.below B1 (vlt HC.out)).cell 6 _ rfl; have r7 := (HC.out.below B1 (vlt HC.out)).cell 7 _ rfl; have s0 := (HPL.out.below B1 (vlt HPL.out)).cell 0 _ rfl; have s1 := (HPL.out.below B1 (vlt HPL.out)).cell 1 _ rfl; have c8 := (HW.out.below B1 (vlt HW.out)).cell 8 _ rfl; rw [HOF.out] at c8; have BE := hdH (B1); clear B1 t0; have t1 : (1 : Nat) = 1 := rfl))
      go_ret
      exact ⟨rfl, BBz.out⟩
  ·have lk : ¬ ((k : Int) < (ts.length : Int)) := by omega
   have s0 := HPL.out.cell 0 _ rfl
   have s1 := HPL.out.cell 1 _ rfl
   have c8 := HW.out.cell 8 _ rfl
   have t0 : (0 : Nat) = 0 := rfl
   have ta : (0 : Nat) = 0 := rfl
   by_cases ho : off s = true
   ·have HOF := hdH (ho)
    rw [ho] at c8
    clear ho
    go_wp2_with (first
     | (have qa := ta; go_at_call 11; refine (awake_any _).mono ?_; rintro e9 wz ⟨rfl, Bz⟩; have BBz := hdH (BB.out.trans ((BE.out.trans (Bz.mono BE.out.size)).mono BB.out.size)); clear Bz ta)
     | (have q0 := t0; go_at_call 22; refine (sim_read_off HS.out [p0, p1] HOF.out).mono ?_; rintro e9 wA ⟨rfl, B1⟩; clear r7 s0 s1 c8; have r0 := (HC.out.below B1 (vlt HC.out)).cell 0 _ rfl; have r1 := (HC.out.below B1 (vlt HC.out)).cell 1 _ rfl; have r2 := (HC.out.below B1 (vlt HC.out)).cell 2 _ rfl; have r3 := (HC.out.below B1 (vlt HC.out)).cell 3 _ rfl; have r4 := (HC.out.below B1 (vlt HC.out)).cell 4 _ rfl; have r5 := (HC.out.below B1 (vlt HC.out)).cell 5 _ rfl; have r6 := (HC.out.below B1 (vlt HC.out)).cell 6 _ rfl; have r7 := (HC.out.below B1 (vlt HC.out)).cell 7 _ rfl; have s0 := (HPL.out.below B1 (vlt HPL.out)).cell 0 _ rfl; have s1 := (HPL.out.below B1 (vlt HPL.out)).cell 1 _ rfl; have c8 := (HW.out.below B1 (vlt HW.out)).cell 8 _ rfl; rw [HOF.out] at c8; have BE := hdH (B1); clear B1 t0))
    go_ret
    exact ⟨rfl, BBz.out⟩
   ·have ho : off s = false := by simpa using ho
    have HOF := hdH (ho)
    rw [ho] at c8
    clear ho
    by_cases hp : 0 ≤ p0 ∧ p0 < N ∧ 0 ≤ p1 ∧ p1 < P
    ·obtain ⟨b, rfl⟩ : ∃ n : Nat, p0 = n := ⟨p0.toNat, by omega⟩
     obtain ⟨p, rfl⟩ : ∃ n : Nat, p1 = n := ⟨p1.toNat, by omega⟩
     have hb : b < N := by omega
     have hj : p < P := by omega
     have HBJ : Hid (b < N ∧ p < P) := ⟨hb, hj⟩
     have SP : Hid (∀ w0, Calls Try.prog 23 #[.agg (ints .i64 [(N : Int), P, g2, g3, g4, g5]), .agg (ints .i64 [(b : Int), (p : Int)])] w0 fun e w' => e = .returned (.bool true) ∧ Below w0.heap.size w0 w') := fun w0 => (place_any _ N P S HSH.out b p w0).mono fun _ _ ⟨h1, h2⟩ => ⟨by rw [h1, decide_eq_true hp], h2⟩
     obtain ⟨bb, bo, gb, go, gc, uv, xv, rfl, hpg⟩ := ref_page HS.out b p hb hj
     have HPG : Hid (∀ w', Below wr.heap.size wr w' → w'.rangeAt bb (bo + b * 5) (bkc (.slice (some ⟨gb, go, none⟩) P gc) uv (lsp s b) (scr s b) (ers s b)) ∧ w'.cell? ⟨gb, go + p, none⟩ = some xv ∧ Byt w' xv (pgs s b p)) := hpg
     have HLS : Hid ((pgs s b p).length = S) := ((HI.out.1.1 b hb).1 p hj).1
     clear hp hb hj hpg
     go_wp2_with (first
      | (have q1 := t1; go_at_call 23; refine (SP.out _).mono ?_; rintro e9 wB ⟨rfl, B2⟩; clear r0 r1 r2 r3 r4 r5 r6 r7 s0 s1 c8; have BE := bT BE B2; have HYB := hdH (HYB.out.below B2); have HFZ : Hid (wB.frozen? ⟨vb, vo, none⟩ = false ∧ wr.heap.size ≤ vb) := ⟨frz_below HFZ.out.1 B2 HVL.out, HFZ.out.2⟩; have HVL : Hid (vb < wB.heap.size) := Nat.lt_of_lt_of_le HVL.out B2.size; have r0 := (HC.out.below BE.out (vlt HC.out)).cell 0 _ rfl; have r1 := (HC.out.below BE.out (vlt HC.out)).cell 1 _ rfl; have r2 := (HC.out.below BE.out (vlt HC.out)).cell 2 _ rfl; have r3 := (HC.out.below BE.out (vlt HC.out)).cell 3 _ rfl; have r4 := (HC.out.below BE.out (vlt HC.out)).cell 4 _ rfl; have r5 := (HC.out.below BE.out (vlt HC.out)).cell 5 _ rfl; have r6 := (HC.out.below BE.out (vlt HC.out)).cell 6 _ rfl; have r7 := (HC.out.below BE.out (vlt HC.out)).cell 7 _ rfl; have s0 := (HPL.out.below BE.out (vlt HPL.out)).cell 0 _ rfl; have s1 := (HPL.out.below BE.out (vlt HPL.out)).cell 1 _ rfl; have c8 := (HW.out.below BE.out (vlt HW.out)).cell 8 _ rfl; rw [HOF.out] at c8; clear B2 t1; have t2 : (1 : Nat) = 1 := rfl)
      | (have q0 := t0; go_at_call 22; refine (sim_read HS.out HI.out.1 HSP.out b p HOF.out HBJ.out.1 HBJ.out.2).mono ?_; rintro e9 wA ⟨vb, vo, vc, rfl, hv, hz, hY, B1⟩; clear r7 s0 s1 c8; have BE := hdH (B1); have HYB := hdH (hY); have HFZ : Hid (wA.frozen? ⟨vb, vo, none⟩ = false ∧ wr.heap.size ≤ vb) := ⟨hz 0 HSP.out, hv⟩; have HVL : Hid (vb < wA.heap.size) := (by obtain ⟨x, hx, _⟩ := byt_first hY HLS.out HSP.out; exact World.block_lt_of_cell? _ _ hx); have r0 := (HC.out.below B1 (vlt HC.out)).cell 0 _ rfl; have r1 := (HC.out.below B1 (vlt HC.out)).cell 1 _ rfl; have r2 := (HC.out.below B1 (vlt HC.out)).cell 2 _ rfl; have r3 := (HC.out.below B1 (vlt HC.out)).cell 3 _ rfl; have r4 := (HC.out.below B1 (vlt HC.out)).cell 4 _ rfl; have r5 := (HC.out.below B1 (vlt HC.out)).cell 5 _ rfl; have r6 := (HC.out.below B1 (vlt HC.out)).cell 6 _ rfl; have r7 := (HC.out.below B1 (vlt HC.out)).cell 7 _ rfl; have s0 := (HPL.out.below B1 (vlt HPL.out)).cell 0 _ rfl; have s1 := (HPL.out.below B1 (vlt HPL.out)).cell 1 _ rfl; have c8 := (HW.out.below B1 (vlt HW.out)).cell 8 _ rfl; rw [HOF.out] at c8; clear hv hz hY B1 t0; have t1 : (1 : Nat) = 1 := rfl))
     clear r0 r1 r2 r3 r4 r5 r6 r7 s0 s1 c8
     have HYB : Hid (Byt wB.drew (.slice (some ⟨vb, vo, none⟩) S vc) (pgs s b p)) := byt_drawn HYB.out 1
     have HFZ : Hid ((wB.drew).frozen? ⟨vb, vo, none⟩ = false ∧ wr.heap.size ≤ vb) := HFZ.out
     have HVL : Hid (vb < (wB.drew).heap.size) := HVL.out
     refine wp_region_held_drew (S := fun w' => Below wr.heap.size wr w') (by kernel_rfl) BE.out.drew (fun hS => ?_)
     obtain ⟨z14_1, hx0⟩ : ∃ x, x = wB.drew := ⟨_, rfl⟩
     rw [← hx0] at hS HYB HFZ HVL ⊢
     clear hx0
     refine tkH 0 (some 98) (.int .i64 0) rfl rfl (Or.inl ⟨by rfl, fun w' hw' => by rfl⟩) hS ?_
     simp only [Act.put, zE1, zE2, zE3]
     refine tkH 1 (some 99) (.bool false) rfl rfl (Or.inl ⟨by rfl, fun w' hw' => by rfl⟩) hS ?_
     simp only [Act.put, zE1, zE2, zE3]
     refine tkH 2 (some 100) (.bool false) rfl rfl (Or.inl ⟨by rfl, fun w' hw' => by rfl⟩) hS ?_
     simp only [Act.put, zE1, zE2, zE3]
     refine tkH 3 (some 101) (.slice (some ⟨vb, vo, none⟩) S vc) rfl rfl (Or.inl ⟨by rfl, fun w' hw' => by rfl⟩) hS ?_
     simp only [Act.put, zE1, zE2, zE3]
     refine tkH 4 (some 102) (.pointer (some ⟨w6.heap.size, 6, none⟩)) rfl rfl (Or.inl ⟨by rfl, fun w' hw' => by go_simp⟩) hS ?_
     simp only [Act.put, zE1, zE2, zE3]
     refine tkH 5 (some 103) (.slice (some ⟨bb, bo, none⟩) N bc) rfl rfl (Or.inl ⟨by rfl, fun w' hw' => by exact exec_loadN 36 (.tmp 102) rfl _ rfl _ _ (load_one one_blks ((HW.out.below hw' (vlt HW.out)).cell 6 _ rfl))⟩) hS ?_
     simp only [Act.put, zE1, zE2, zE3]
     refine tkH 6 (some 104) (.pointer (some ⟨w1.heap.size, 0, none⟩)) rfl rfl (Or.inl ⟨by rfl, fun w' hw' => by go_simp⟩) hS ?_
     simp only [Act.put, zE1, zE2, zE3]
     refine tkH 7 (some 105) (.int .i64 (b : Int)) rfl rfl (Or.inl ⟨by rfl, fun w' hw' => by exact exec_loadN 3 (.tmp 104) rfl _ rfl _ _ (load_one one_int ((HPL.out.below hw' (vlt HPL.out)).cell 0 _ rfl))⟩) hS ?_
     simp only [Act.put, zE1, zE2, zE3]
     refine tkH 8 (some 106) (.pointer (some ⟨bb, bo + b * 5, none⟩)) rfl rfl (Or.inl ⟨by rfl, fun w' hw' => by exact exec_idxB (.tmp 103) (.tmp 105) rfl bb bo N bc b rfl rfl HBJ.out.1 w'⟩) hS ?_
     simp only [Act.put, zE1, zE2, zE3]
     refine tkH 9 (some 107) (.pointer (some ⟨bb, bo + b * 5, none⟩)) rfl rfl (Or.inl ⟨by rfl, fun w' hw' => by go_simp⟩) hS ?_
     simp only [Act.put, zE1, zE2, zE3]
     refine tkH 10 (some 108) (.slice (some ⟨gb, go, none⟩) P gc) rfl rfl (Or.inl ⟨by rfl, fun w' hw' => by exact exec_loadN 47 (.tmp 107) rfl _ rfl _ _ (load_one one_pages ((HPG.out _ hw').1 0 _ rfl))⟩) hS ?_
     simp only [Act.put, zE1, zE2, zE3]
     refine tkH 11 (some 109) (.pointer (some ⟨w1.heap.size, 1, none⟩)) rfl rfl (Or.inl ⟨by rfl, fun w' hw' => by go_simp⟩) hS ?_
     simp only [Act.put, zE1, zE2, zE3]
     refine tkH 12 (some 110) (.int .i64 (p : Int)) rfl rfl (Or.inl ⟨by rfl, fun w' hw' => by exact exec_loadN 3 (.tmp 109) rfl _ rfl _ _ (load_one one_int ((HPL.out.below hw' (vlt HPL.out)).cell 1 _ rfl))⟩) hS ?_
     simp only [Act.put, zE1, zE2, zE3]
     refine tkH 13 (some 111) (.pointer (some ⟨gb, go + p, none⟩)) rfl rfl (Or.inl ⟨by rfl, fun w' hw' => by exact exec_idxP (.tmp 108) (.tmp 110) rfl gb go P gc p rfl rfl HBJ.out.2 w'⟩) hS ?_
     simp only [Act.put, zE1, zE2, zE3]
     refine tkH 14 (some 112) (xv) rfl rfl (Or.inl ⟨by rfl, fun w' hw' => by exact exec_loadN 53 (.tmp 111) rfl _ rfl _ _ (load_one one_bytes (HPG.out _ hw').2.1)⟩) hS ?_
     simp only [Act.put, zE1, zE2, zE3]
     refine wpAnyH_ready (rs := [15]) (by kernel_rfl) (by simp) ?_
     refine AllReadyH.cons rfl (fun K hK => ?_) AllReadyH.nil
     refine ge.step_callW _ (by rfl) (some 113) rfl 19 #[.tmp 101, .tmp 112] #[53, 53] rfl (fun q w' => by rfl) #[.slice (some ⟨vb, vo, none⟩) S vc, xv] (by simp only [List.map_toArray, List.map_cons, List.map_nil]; rfl) (fun v w' => v = .bool true ∧ Below z14_1.heap.size z14_1 w') ?_ ?_
     ·exact (same_ok _ _ _ _ HYB.out (HPG.out _ hS).2.2).mono fun _ _ ⟨h1, h2⟩ => ⟨_, h1, rfl, h2⟩
     rintro _ z14_2 ⟨rfl, B9⟩
     have hS : Below wr.heap.size wr z14_2 := hS.trans (B9.mono hS.size)
     have HYB := hdH (HYB.out.below B9)
     have HFZ : Hid (z14_2.frozen? ⟨vb, vo, none⟩ = false ∧ wr.heap.size ≤ vb) := ⟨frz_below HFZ.out.1 B9 HVL.out, HFZ.out.2⟩
     have HVL : Hid (vb < _) := Nat.lt_of_lt_of_le HVL.out B9.size
     clear B9
     refine hK.out _ _ hS (fun _ => ?_)
     simp only [Act.put, zE1, zE2, zE3]
     clear hK K
     refine tkH 16 (some 114) (.bool false) rfl rfl (Or.inl ⟨by rfl, fun w' hw' => by rfl⟩) hS ?_
     simp only [Act.put, zE1, zE2, zE3]
     refine tkH 17 (some 115) (.bool false) rfl rfl (Or.inl ⟨by rfl, fun w' hw' => by rfl⟩) hS ?_
     simp only [Act.put, zE1, zE2, zE3]
     refine wpAnyH_done (by kernel_rfl) ?_ _
     have BE := hdH (hS)
     clear hS
     obtain ⟨x0, hx0, hx1⟩ := byt_first HYB.out HLS.out HSP.out
     have HX0 := hdH (hx1)
     have t2 : (1 : Nat) = 1 := rfl
     have lS : (0 : Int) < (S : Int) := by have := HSP.out; omega
     go_wp2_with (first
      | (have q3 := t3; go_at_call 22; refine (sim_read (Sim.below HS.out BE.out) HI.out.1 HSP.out b p HOF.out HBJ.out.1 HBJ.out.2).mono ?_; rintro e9 wD ⟨ub, uo, uc, rfl, hv, hz, hY, B1⟩; clear s0 s1; have BE := bT BE B1; have HYB := hdH (hY); clear hv hz hY B1 t3)
      | (have q2 := t2; (with_reducible refine at_store ?_); refine store_law1 _ vb vo _ rfl rfl (by rw [hx0]; rfl) HFZ.out.1 one_u8 rfl rfl ?_; intro wC E9; have BE : Hid (Below wr.heap.size wr wC) := (by rw [E9.out]; exact BE.out.grown (keep_set _ _ _ _) BE.out.size (fun k e => by have e := Option.some.inj e; have := HFZ.out; omega)); clear hx0 E9 HYB HFZ t2; have s0 := (HPL.out.below BE.out (vlt HPL.out)).cell 0 _ rfl; have s1 := (HPL.out.below BE.out (vlt HPL.out)).cell 1 _ rfl; have t3 : (1 : Nat) = 1 := rfl))
     have HYB : Hid (Byt wD.drew (.slice (some ⟨ub, uo, none⟩) S uc) (pgs s b p)) := byt_drawn HYB.out 1
     refine wp_region_held_drew (S := fun w' => Below wr.heap.size wr w') (by kernel_rfl) BE.out.drew (fun hS => ?_)
     obtain ⟨z18_1, hx0⟩ : ∃ x, x = wD.drew := ⟨_, rfl⟩
     rw [← hx0] at hS HYB ⊢
     clear hx0
     refine tkH 0 (some 127) (.int .i64 0) rfl rfl (Or.inl ⟨by rfl, fun w' hw' => by rfl⟩) hS ?_
     simp only [Act.put, zE1, zE2, zE3]
     refine tkH 1 (some 128) (.bool true) rfl rfl (Or.inl ⟨by rfl, fun w' hw' => by rfl⟩) hS ?_
     simp only [Act.put, zE1, zE2, zE3]
     refine tkH 2 (some 129) (.bool true) rfl rfl (Or.inl ⟨by rfl, fun w' hw' => by rfl⟩) hS ?_
     simp only [Act.put, zE1, zE2, zE3]
     refine tkH 3 (some 130) (.slice (some ⟨ub, uo, none⟩) S uc) rfl rfl (Or.inl ⟨by rfl, fun w' hw' => by rfl⟩) hS ?_
     simp only [Act.put, zE1, zE2, zE3]
     refine tkH 4 (some 131) (.pointer (some ⟨w6.heap.size, 6, none⟩)) rfl rfl (Or.inl ⟨by rfl, fun w' hw' => by go_simp⟩) hS ?_
     simp only [Act.put, zE1, zE2, zE3]
     refine tkH 5 (some 132) (.slice (some ⟨bb, bo, none⟩) N bc) rfl rfl (Or.inl ⟨by rfl, fun w' hw' => by exact exec_loadN 36 (.tmp 131) rfl _ rfl _ _ (load_one one_blks ((HW.out.below hw' (vlt HW.out)).cell 6 _ rfl))⟩) hS ?_
     simp only [Act.put, zE1, zE2, zE3]
     refine tkH 6 (some 133) (.pointer (some ⟨w1.heap.size, 0, none⟩)) rfl rfl (Or.inl ⟨by rfl, fun w' hw' => by go_simp⟩) hS ?_
     simp only [Act.put, zE1, zE2, zE3]
     refine tkH 7 (some 134) (.int .i64 (b : Int)) rfl rfl (Or.inl ⟨by rfl, fun w' hw' => by exact exec_loadN 3 (.tmp 133) rfl _ rfl _ _ (load_one one_int ((HPL.out.below hw' (vlt HPL.out)).cell 0 _ rfl))⟩) hS ?_
     simp only [Act.put, zE1, zE2, zE3]
     refine tkH 8 (some 135) (.pointer (some ⟨bb, bo + b * 5, none⟩)) rfl rfl (Or.inl ⟨by rfl, fun w' hw' => by exact exec_idxB (.tmp 132) (.tmp 134) rfl bb bo N bc b rfl rfl HBJ.out.1 w'⟩) hS ?_
     simp only [Act.put, zE1, zE2, zE3]
     refine tkH 9 (some 136) (.pointer (some ⟨bb, bo + b * 5, none⟩)) rfl rfl (Or.inl ⟨by rfl, fun w' hw' => by go_simp⟩) hS ?_
     simp only [Act.put, zE1, zE2, zE3]
     refine tkH 10 (some 137) (.slice (some ⟨gb, go, none⟩) P gc) rfl rfl (Or.inl ⟨by rfl, fun w' hw' => by exact exec_loadN 47 (.tmp 136) rfl _ rfl _ _ (load_one one_pages ((HPG.out _ hw').1 0 _ rfl))⟩) hS ?_
     simp only [Act.put, zE1, zE2, zE3]
     refine tkH 11 (some 138) (.pointer (some ⟨w1.heap.size, 1, none⟩)) rfl rfl (Or.inl ⟨by rfl, fun w' hw' => by go_simp⟩) hS ?_
     simp only [Act.put, zE1, zE2, zE3]
     refine tkH 12 (some 139) (.int .i64 (p : Int)) rfl rfl (Or.inl ⟨by rfl, fun w' hw' => by exact exec_loadN 3 (.tmp 138) rfl _ rfl _ _ (load_one one_int ((HPL.out.below hw' (vlt HPL.out)).cell 1 _ rfl))⟩) hS ?_
     simp only [Act.put, zE1, zE2, zE3]
     refine tkH 13 (some 140) (.pointer (some ⟨gb, go + p, none⟩)) rfl rfl (Or.inl ⟨by rfl, fun w' hw' => by exact exec_idxP (.tmp 137) (.tmp 139) rfl gb go P gc p rfl rfl HBJ.out.2 w'⟩) hS ?_
     simp only [Act.put, zE1, zE2, zE3]
     refine tkH 14 (some 141) (xv) rfl rfl (Or.inl ⟨by rfl, fun w' hw' => by exact exec_loadN 53 (.tmp 140) rfl _ rfl _ _ (load_one one_bytes (HPG.out _ hw').2.1)⟩) hS ?_
     simp only [Act.put, zE1, zE2, zE3]
     refine wpAnyH_ready (rs := [15]) (by kernel_rfl) (by simp) ?_
     refine AllReadyH.cons rfl (fun K hK => ?_) AllReadyH.nil
     refine ge.step_callW _ (by rfl) (some 142) rfl 19 #[.tmp 130, .tmp 141] #[53, 53] rfl (fun q w' => by rfl) #[.slice (some ⟨ub, uo, none⟩) S uc, xv] (by simp only [List.map_toArray, List.map_cons, List.map_nil]; rfl) (fun v w' => v = .bool true ∧ Below z18_1.heap.size z18_1 w') ?_ ?_
     ·exact (same_ok _ _ _ _ HYB.out (HPG.out _ hS).2.2).mono fun _ _ ⟨h1, h2⟩ => ⟨_, h1, rfl, h2⟩
     rintro _ z18_2 ⟨rfl, B9⟩
     have hS : Below wr.heap.size wr z18_2 := hS.trans (B9.mono hS.size)
     clear B9
     refine hK.out _ _ hS (fun _ => ?_)
     simp only [Act.put, zE1, zE2, zE3]
     clear hK K
     refine tkH 16 (some 143) (.bool true) rfl rfl (Or.inl ⟨by rfl, fun w' hw' => by rfl⟩) hS ?_
     simp only [Act.put, zE1, zE2, zE3]
     refine tkH 17 (some 144) (.bool true) rfl rfl (Or.inl ⟨by rfl, fun w' hw' => by rfl⟩) hS ?_
     simp only [Act.put, zE1, zE2, zE3]
     refine wpAnyH_ready (rs := [18]) (by kernel_rfl) (by simp) ?_
     refine AllReadyH.cons rfl (fun K hK => ?_) AllReadyH.nil
     refine ge.step_callW _ (by rfl) (some 145) rfl 11 #[] #[] rfl (fun q w' => by rfl) #[] (by simp only [List.map_toArray, List.map_nil]) (fun v w' => v = .bool true ∧ Below z18_2.heap.size z18_2 w') ?_ ?_
     ·exact (awake_any _).mono fun _ _ ⟨h1, h2⟩ => ⟨_, h1, rfl, h2⟩
     rintro _ z18_3 ⟨rfl, B9⟩
     have hS : Below wr.heap.size wr z18_3 := hS.trans (B9.mono hS.size)
     clear B9
     refine hK.out _ _ hS (fun _ => ?_)
     simp only [Act.put, zE1, zE2, zE3]
     clear hK K
     refine tkH 19 (some 146) (.bool true) rfl rfl (Or.inl ⟨by rfl, fun w' hw' => by rfl⟩) hS ?_
     simp only [Act.put, zE1, zE2, zE3]
     refine tkH 20 (some 4) (.bool true) rfl rfl (Or.inl ⟨by rfl, fun w' hw' => by rfl⟩) hS ?_
     simp only [Act.put, zE1, zE2, zE3]
     refine wpAnyH_done (by kernel_rfl) ?_ _
     have BBz := bT BB hS
     clear hS
     go_wp2
     go_ret
     exact ⟨rfl, BBz.out⟩
    ·have SP : Hid (∀ w0, Calls Try.prog 23 #[.agg (ints .i64 [(N : Int), P, g2, g3, g4, g5]), .agg (ints .i64 [p0, p1])] w0 fun e w' => e = .returned (.bool false) ∧ Below w0.heap.size w0 w') := fun w0 => (place_any _ N P S HSH.out p0 p1 w0).mono fun _ _ ⟨h1, h2⟩ => ⟨by rw [h1, decide_eq_false hp], h2⟩
     have HNP := hdH (hp)
     clear hp
     go_wp2_with (first
      | (have qa := ta; go_at_call 11; refine (awake_any _).mono ?_; rintro e9 wz ⟨rfl, Bz⟩; have BBz := hdH (BB.out.trans ((BE.out.trans (Bz.mono BE.out.size)).mono BB.out.size)); clear Bz ta)
      | (have q1 := t1; go_at_call 23; refine (SP.out _).mono ?_; rintro e9 wB ⟨rfl, B2⟩; clear r0 r1 r2 r3 r4 r5 r6 r7 s0 s1 c8; have BE := bT BE B2; have r0 := (HC.out.below BE.out (vlt HC.out)).cell 0 _ rfl; have r1 := (HC.out.below BE.out (vlt HC.out)).cell 1 _ rfl; have r2 := (HC.out.below BE.out (vlt HC.out)).cell 2 _ rfl; have r3 := (HC.out.below BE.out (vlt HC.out)).cell 3 _ rfl; have r4 := (HC.out.below BE.out (vlt HC.out)).cell 4 _ rfl; have r5 := (HC.out.below BE.out (vlt HC.out)).cell 5 _ rfl; have r6 := (HC.out.below BE.out (vlt HC.out)).cell 6 _ rfl; have r7 := (HC.out.below BE.out (vlt HC.out)).cell 7 _ rfl; have s0 := (HPL.out.below BE.out (vlt HPL.out)).cell 0 _ rfl; have s1 := (HPL.out.below BE.out (vlt HPL.out)).cell 1 _ rfl; have c8 := (HW.out.below BE.out (vlt HW.out)).cell 8 _ rfl; rw [HOF.out] at c8; clear B2 t1)
      | (have q0 := t0; go_at_call 22; refine (sim_read_no HS.out p0 p1 HOF.out HNP.out).mono ?_; rintro e9 wA ⟨ao, cap, rfl, B1⟩; clear r7 s0 s1 c8; have r0 := (HC.out.below B1 (vlt HC.out)).cell 0 _ rfl; have r1 := (HC.out.below B1 (vlt HC.out)).cell 1 _ rfl; have r2 := (HC.out.below B1 (vlt HC.out)).cell 2 _ rfl; have r3 := (HC.out.below B1 (vlt HC.out)).cell 3 _ rfl; have r4 := (HC.out.below B1 (vlt HC.out)).cell 4 _ rfl; have r5 := (HC.out.below B1 (vlt HC.out)).cell 5 _ rfl; have r6 := (HC.out.below B1 (vlt HC.out)).cell 6 _ rfl; have r7 := (HC.out.below B1 (vlt HC.out)).cell 7 _ rfl; have s0 := (HPL.out.below B1 (vlt HPL.out)).cell 0 _ rfl; have s1 := (HPL.out.below B1 (vlt HPL.out)).cell 1 _ rfl; have c8 := (HW.out.below B1 (vlt HW.out)).cell 8 _ rfl; rw [HOF.out] at c8; have BE := hdH (B1); clear B1 t0; have t1 : (1 : Nat) = 1 := rfl))
     go_ret
     exact ⟨rfl, BBz.out⟩
end Go.Proofs.Ytoohbigedblklaa.na
namespace Go.Proofs.Ytoohbigedblklaa.nandReads
open Go.ChangeShapes Go.WideShapes Go.ChangeAt Go.RowKit
set_option maxRecDepth 20000

open Go.Proofs.Ytoohbigedblklaa.na Go.Proofs.Ytoohbigedblklaa.fa
open Go.Proofs.Ytoohbigedblklaa.ge (place_open)

theorem walk (g : List Int) (pv sv : Value) (fs : List (Int × Bool × Value)) (ms : Nat → List Int) (ts : List Stp) (p : List Int) (w : World) (hg : g.length = 6) (hf : Fls w pv fs) (hm : Mks w fs ms) (hst : Stps w sv ts) (hp : p.length = 2) :
    Calls Try.prog 4 #[.agg ((g : List Int).map (Value.int .i64) ++ [pv, sv]).toArray, .agg (ints .i64 p)] w fun e w' => e = .returned (.bool true) ∧ Below w.heap.size w w' := by
  obtain ⟨g0, g1, g2, g3, g4, g5, rfl⟩ : ∃ g0 g1 g2 g3 g4 g5, g = [g0, g1, g2, g3, g4, g5] := by
    match g, hg with
    | [g0, g1, g2, g3, g4, g5], _ => exact ⟨g0, g1, g2, g3, g4, g5, rfl⟩
  obtain ⟨po, pc, rfl⟩ : ∃ ao cap, pv = .slice ao fs.length cap := by obtain ⟨ao, cap, e, _⟩ := hf; exact ⟨ao, cap, e⟩
  obtain ⟨so, sc, rfl⟩ : ∃ ao cap, sv = .slice ao ts.length cap := by obtain ⟨⟨ao, cap, e, _⟩, _⟩ := hst; exact ⟨ao, cap, by rw [List.length_map] at e; exact e⟩
  obtain ⟨p0, p1, rfl⟩ : ∃ p0 p1, p = [p0, p1] := by
    match p, hp with
    | [p0, p1], _ => exact ⟨p0, p1, rfl⟩
  by_cases hr : ge.Rt [g0, g1, g2, g3, g4, g5]
  · by_cases hk : fs.length ≤ 64 ∧ Okp fs ms fs.length
    · by_cases hl : g0 ≤ 16 ∧ g1 ≤ 20 ∧ g2 ≤ 128
      · obtain ⟨N, P, S, rfl, rfl, hs⟩ := shp_of hr
        exact rds_D p0 p1 N P S g2 g3 g4 g5 hs po so pc sc fs ms ts w hf hm hk hl hst
      · exact rds_C p0 p1 g0 g1 g2 g3 g4 g5 po so pc sc fs ms ts w hf hm hr hk hl
    · exact rds_B p0 p1 g0 g1 g2 g3 g4 g5 po so pc sc fs ms ts w hf hm hr hk
  · exact rds_A p0 p1 g0 g1 g2 g3 g4 g5 po so pc sc fs ts w hr

theorem params : ∀ t ∈ Try.f4.params.toList, Try.prog.readableRec t = true ∧ t < Try.prog.types.size := by
  rw [Try.params4]
  intro t ht
  simp at ht
  rcases ht with rfl | rfl
  · exact ⟨by kernel_rfl, of_decide_eq_true (by kernel_rfl)⟩
  · exact ⟨by kernel_rfl, of_decide_eq_true (by kernel_rfl)⟩

theorem contract (H : Type) (enc : TypeId × Value → H) (W : World) (base : Nat) (args : Array Value) (ds gs : List (DataW H)) (before : List MemPlace)
    (hval : ∀ (j : Nat) t v, Try.f4.params[j]? = some t → args[j]? = some v → Value.okWide Try.prog W .any base t v)
    (hW : DataW.Whole enc Try.prog Try.f4.params.toList Rows.nandReadsSpec.vars false W args.toList ds gs before)
    (hsz : (DataW.weightsEach Try.prog (Try.f4.params.toList ++ (OpenSpec.ofChange Rows.nandReadsSpec).bare.plain.varTypes Try.prog) (ds ++ gs)).all (· ≤ reachBytes) = true) :
    Calls Try.prog 4 args W fun e W' => ∃ v, e = .returned v ∧ Rows.nandReadsSpec.post enc Try.prog Try.f4 false true false false W args v W' := by
  have hW' := hW
  obtain ⟨p, q, hA0, hV, rfl, hfz, hnd⟩ := hW
  have hA : DataW.TrodAll enc Try.prog W 0 (fun _ => true) true Try.f4.params.toList args.toList ds p := hA0
  rw [Try.params4] at hA hval
  obtain ⟨v0, v1, d0, d1, p0, p1, rfl, rfl, rfl, h0, h1⟩ := trodAll_two hA
  obtain ⟨rfl, rfl⟩ := trodVars_none hV
  obtain ⟨g0, pv0, sv0, fs0, ms0, ts0, rfl, n0, b0, c0, e0⟩ := case_open (hval 0 27 v0 rfl rfl) h0 (fun n hn => by have := List.all_eq_true.1 hsz n (DataW.weights_mem_each (j := 0) (t := 27) (d := d0) (by rw [Try.params4]; rfl) rfl n hn); simpa using this)
  obtain ⟨g1, rfl, n1⟩ := place_open (hval 1 43 v1 rfl rfl) h1
  clear hA0
  refine (walk g0 pv0 sv0 fs0 ms0 ts0 g1 W n0 b0 c0 e0 n1).mono fun e W' ⟨he, hg⟩ => ?_
  subst he
  exact ⟨_, rfl, post_law rfl (by kernel_rfl) params rfl rfl rfl hW' hg⟩

theorem laid_met (os : Os) : laidMet Try.prog Rows.nandReadsRow.laid ((World.holding Try.prog os ⟨#[], #[], []⟩).forCall (fun _ _ => 0) ⟨#[], #[.agg #[.int .i64 0, .int .i64 0, .int .i64 0, .int .i64 0, .int .i64 0, .int .i64 0, .slice none 0 0, .slice none 0 0], .agg #[.int .i64 0, .int .i64 0]], []⟩).memory :=
  laidMet_of_run' 8 (by kernel_rfl) (by kernel_rfl)
theorem reads (os : Os) {H : Type} (enc : TypeId × Value → H) : ∃ places, DataW.whole enc Try.prog ((World.holding Try.prog os ⟨#[], #[], []⟩).forCall (fun _ _ => 0) ⟨#[], #[.agg #[.int .i64 0, .int .i64 0, .int .i64 0, .int .i64 0, .int .i64 0, .int .i64 0, .slice none 0 0, .slice none 0 0], .agg #[.int .i64 0, .int .i64 0]], []⟩).memory Try.f4.params.toList Rows.nandReadsSpec.vars false #[Value.agg #[.int .i64 0, .int .i64 0, .int .i64 0, .int .i64 0, .int .i64 0, .int .i64 0, .slice none 0 0, .slice none 0 0], Value.agg #[.int .i64 0, .int .i64 0]].toList 8 = some ([.agg [.agg [.lit (.int .i64 0), .lit (.int .i64 0), .lit (.int .i64 0), .lit (.int .i64 0), .lit (.int .i64 0), .lit (.int .i64 0)], .nil, .nil], .agg [.lit (.int .i64 0), .lit (.int .i64 0)]], [], places) :=
  ⟨[], by kernel_rfl⟩

set_option maxRecDepth 100000 in
theorem lifted (os : Os) (started : os.Started) (H : Type) (enc : TypeId × Value → H) (F : Stop.Interp) :
    ReturnsInHanded {} Try.checked os 4 .any ((OpenSpec.ofChange Rows.nandReadsSpec).preRow enc Try.prog Try.f4 Rows.nandReadsRow.domain false Rows.nandReadsRow.laid) (((OpenSpec.ofChange Rows.nandReadsSpec).at F).post enc Try.prog Try.f4 false true false false) := by
  obtain ⟨places, hx⟩ := reads os enc
  refine returnsInHanded_of_row (C := Try.checked) (s := OpenSpec.ofChange Rows.nandReadsSpec) own started (by kernel_rfl) Try.func4
    (witness_row_at (enc := enc) (C := Try.checked) false (World.holding Try.prog os ⟨#[], #[], []⟩) #[.agg #[.int .i64 0, .int .i64 0, .int .i64 0, .int .i64 0, .int .i64 0, .int .i64 0, .slice none 0 0, .slice none 0 0], .agg #[.int .i64 0, .int .i64 0]] rfl (by kernel_rfl) (by kernel_rfl) (by kernel_rfl)
      (OpenSpec.preRow_of_cond 8 hx (by kernel_rfl) (fun k hk => by cases hk) (by kernel_rfl) (laid_met os))) ?_
  intro W base args ds gs before hval hW _ _ hsz _ _ _
  exact contract H enc W base args ds gs before hval hW hsz

theorem said : Rows.NandReadsSaid :=
  OpenClaim.holds_of_cond 4 Try.f4 rfl rfl rfl rfl rfl rfl rfl ⟨rfl, rfl, rfl, rfl, rfl⟩ rfl rfl rfl rfl rfl (by kernel_rfl) Try.func4 (by kernel_rfl)
    (of_decide_eq_true (by kernel_rfl)) (by unfold Func.isWrapper; first | (rw [if_pos (by decide +kernel)]; kernel_rfl) | (rw [if_neg (by decide +kernel)]; exact ⟨rfl, rfl⟩))
    (fun os started H enc _ F => by rw [OpenClaim.pre_eq_preRow]; exact lifted os started H enc F)
end Go.Proofs.Ytoohbigedblklaa.nandReads

namespace Go.Proofs.Ytoohbigedblklaa
theorem nandReads_said : Rows.NandReadsSaid := nandReads.said
#print axioms nandReads_said
end Go.Proofs.Ytoohbigedblklaa
