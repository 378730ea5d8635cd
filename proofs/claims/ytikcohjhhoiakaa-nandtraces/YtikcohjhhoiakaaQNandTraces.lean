/- Any operations, of which the first twenty are done, with any plan that is right, on an array of a right geometry that is small: all that were done are told, in order, with their bytes and answers; of each page at most two programs between two erases of its block that were done whole. Of others: the program answers. No condition. -/
import Derived.Test.YtikcohjhhoiakaaPk33
import Derived.Test.YtikcohjhhoiakaaPk31
import Derived.Test.YtikcohjhhoiakaaPk13
namespace Go.Proofs.Ytikcohjhhoiakaa.na
open Go.RowKit Go.Proofs.Ytikcohjhhoiakaa.fa
set_option maxRecDepth 20000
set_option maxHeartbeats 8000000
theorem trc_A (g0 g1 g2 g3 g4 g5 : Int) (po so : Option Addr) (pc sc : Nat) (fs : List (Int × Bool × Value)) (ts : List Stp) (w : World) (hr : ¬ ge.Rt [g0, g1, g2, g3, g4, g5]) :
  Calls Try.prog 5 #[.agg ([.int .i64 g0, .int .i64 g1, .int .i64 g2, .int .i64 g3, .int .i64 g4, .int .i64 g5, .slice po fs.length pc, .slice so ts.length sc] : List Value).toArray] w fun e w' => e = .returned (.bool true) ∧ Below w.heap.size w w' := by
 have SG : Hid (∀ w0, Calls Try.prog 9 #[.agg (ints .i64 [g0, g1, g2, g3, g4, g5])] w0 fun x w' => x = .returned (.bool false) ∧ Below w0.heap.size w0 w') := ge.right_no [g0, g1, g2, g3, g4, g5] rfl hr
 clear hr
 have t0 := tR
 have ta : (0 : Nat) = 0 := rfl
 go_enter Try.func5, Try.ntmps5
 go_wp2_with (first
  | (have qa := ta; go_at_call 11; refine (awake_any _).mono ?_; rintro e9 wz ⟨rfl, Bz⟩; have BBz := bT BB Bz; clear Bz ta)
  | (have q1 := t1; go_at_call 9; refine (SG.out _).mono ?_; rintro e9 w2 ⟨rfl, B2⟩; clear r0 r1 r2 r3 r4 r5 r6 r7; have HC := vB HC B2 (vlt HC.out); have BB := bT BB B2; obtain ⟨r0, r1, r2, r3, r4, r5, r6, r7⟩ := vK8 HC.out; clear B2 t1; have t2 := tR)
  | (have q0 := t0; refine box_lawC _ [.int .i64 g0, .int .i64 g1, .int .i64 g2, .int .i64 g3, .int .i64 g4, .int .i64 g5, .slice po fs.length pc, .slice so ts.length sc] rfl ?_; intro w1 X1 B1 l1; have HC := hdH (X1); have BB := hdH (B1); obtain ⟨r0, r1, r2, r3, r4, r5, r6, r7⟩ := vK8 HC.out; clear X1 B1 l1 t0; have t1 := tR))
 go_ret
 exact ⟨rfl, BBz.out⟩
theorem trc_B (g0 g1 g2 g3 g4 g5 : Int) (po so : Option Addr) (pc sc : Nat) (fs : List (Int × Bool × Value)) (ms : Nat → List Int) (ts : List Stp) (w : World) (hf : Fls w (.slice po fs.length pc) fs) (hm : Mks w fs ms) (hr : ge.Rt [g0, g1, g2, g3, g4, g5]) (hk : ¬ (fs.length ≤ 64 ∧ Okp fs ms fs.length)) :
  Calls Try.prog 5 #[.agg ([.int .i64 g0, .int .i64 g1, .int .i64 g2, .int .i64 g3, .int .i64 g4, .int .i64 g5, .slice po fs.length pc, .slice so ts.length sc] : List Value).toArray] w fun e w' => e = .returned (.bool true) ∧ Below w.heap.size w w' := by
 have SG : Hid (∀ w0, Calls Try.prog 9 #[.agg (ints .i64 [g0, g1, g2, g3, g4, g5])] w0 fun x w' => x = .returned (.bool true) ∧ Below w0.heap.size w0 w') := ge.right_yes [g0, g1, g2, g3, g4, g5] rfl hr
 have SU : Hid (∀ w0, Below w.heap.size w w0 → Calls Try.prog 10 #[.slice po fs.length pc] w0 fun x w' => x = .returned (.bool false) ∧ Below w0.heap.size w0 w') := fun w0 hb => (rright_any _ fs ms w0 (hf.below hb) (hm.below hb) false (by simpa using hk)).mono fun _ _ ⟨h1, n, h2⟩ => ⟨h1, by rw [h2]; exact below_drewN (Below.refl _ _) n⟩
 clear hr hk hf hm
 have t0 := tR
 have ta : (0 : Nat) = 0 := rfl
 go_enter Try.func5, Try.ntmps5
 go_wp2_with (first
  | (have qa := ta; go_at_call 11; refine (awake_any _).mono ?_; rintro e9 wz ⟨rfl, Bz⟩; have BBz := bT BB Bz; clear Bz ta)
  | (have q2 := t2; go_at_call 10; refine (SU.out _ BB.out).mono ?_; rintro e9 w3 ⟨rfl, B3⟩; clear r0 r1 r2 r3 r4 r5 r6 r7; have HC := vB HC B3 (vlt HC.out); have BB := bT BB B3; obtain ⟨r0, r1, r2, r3, r4, r5, r6, r7⟩ := vK8 HC.out; clear B3 t2; have t3 := tR)
  | (have q1 := t1; go_at_call 9; refine (SG.out _).mono ?_; rintro e9 w2 ⟨rfl, B2⟩; clear r0 r1 r2 r3 r4 r5 r6 r7; have HC := vB HC B2 (vlt HC.out); have BB := bT BB B2; obtain ⟨r0, r1, r2, r3, r4, r5, r6, r7⟩ := vK8 HC.out; clear B2 t1; have t2 := tR)
  | (have q0 := t0; refine box_lawC _ [.int .i64 g0, .int .i64 g1, .int .i64 g2, .int .i64 g3, .int .i64 g4, .int .i64 g5, .slice po fs.length pc, .slice so ts.length sc] rfl ?_; intro w1 X1 B1 l1; have HC := hdH (X1); have BB := hdH (B1); obtain ⟨r0, r1, r2, r3, r4, r5, r6, r7⟩ := vK8 HC.out; clear X1 B1 l1 t0; have t1 := tR))
 go_ret
 exact ⟨rfl, BBz.out⟩
theorem trc_C (g0 g1 g2 g3 g4 g5 : Int) (po so : Option Addr) (pc sc : Nat) (fs : List (Int × Bool × Value)) (ms : Nat → List Int) (ts : List Stp) (w : World) (hf : Fls w (.slice po fs.length pc) fs) (hm : Mks w fs ms) (hr : ge.Rt [g0, g1, g2, g3, g4, g5]) (hk : fs.length ≤ 64 ∧ Okp fs ms fs.length) (hl : ¬ (g0 ≤ 16 ∧ g1 ≤ 20 ∧ g2 ≤ 128)) :
  Calls Try.prog 5 #[.agg ([.int .i64 g0, .int .i64 g1, .int .i64 g2, .int .i64 g3, .int .i64 g4, .int .i64 g5, .slice po fs.length pc, .slice so ts.length sc] : List Value).toArray] w fun e w' => e = .returned (.bool true) ∧ Below w.heap.size w w' := by
 have SG : Hid (∀ w0, Calls Try.prog 9 #[.agg (ints .i64 [g0, g1, g2, g3, g4, g5])] w0 fun x w' => x = .returned (.bool true) ∧ Below w0.heap.size w0 w') := ge.right_yes [g0, g1, g2, g3, g4, g5] rfl hr
 have SU : Hid (∀ w0, Below w.heap.size w w0 → Calls Try.prog 10 #[.slice po fs.length pc] w0 fun x w' => x = .returned (.bool true) ∧ Below w0.heap.size w0 w') := fun w0 hb => (rright_any _ fs ms w0 (hf.below hb) (hm.below hb) true (by simpa using hk)).mono fun _ _ ⟨h1, n, h2⟩ => ⟨h1, by rw [h2]; exact below_drewN (Below.refl _ _) n⟩
 have SL : Hid (∀ w0, Calls Try.prog 12 #[.agg (ints .i64 [g0, g1, g2, g3, g4, g5])] w0 fun x w' => x = .returned (.bool false) ∧ Below w0.heap.size w0 w') := fun w0 => light_any g0 g1 g2 g3 g4 g5 w0 _ (by simp at hl ⊢; exact hl)
 clear hr hk hl hf hm
 have t0 := tR
 have ta : (0 : Nat) = 0 := rfl
 go_enter Try.func5, Try.ntmps5
 go_wp2_with (first
  | (have qa := ta; go_at_call 11; refine (awake_any _).mono ?_; rintro e9 wz ⟨rfl, Bz⟩; have BBz := bT BB Bz; clear Bz ta)
  | (have q3 := t3; go_at_call 12; refine (SL.out _).mono ?_; rintro e9 w4 ⟨rfl, B4⟩; clear r0 r1 r2 r3 r4 r5 r6 r7; have HC := vB HC B4 (vlt HC.out); have BB := bT BB B4; obtain ⟨r0, r1, r2, r3, r4, r5, r6, r7⟩ := vK8 HC.out; clear B4 t3; have t4 := tR)
  | (have q2 := t2; go_at_call 10; refine (SU.out _ BB.out).mono ?_; rintro e9 w3 ⟨rfl, B3⟩; clear r0 r1 r2 r3 r4 r5 r6 r7; have HC := vB HC B3 (vlt HC.out); have BB := bT BB B3; obtain ⟨r0, r1, r2, r3, r4, r5, r6, r7⟩ := vK8 HC.out; clear B3 t2; have t3 := tR)
  | (have q1 := t1; go_at_call 9; refine (SG.out _).mono ?_; rintro e9 w2 ⟨rfl, B2⟩; clear r0 r1 r2 r3 r4 r5 r6 r7; have HC := vB HC B2 (vlt HC.out); have BB := bT BB B2; obtain ⟨r0, r1, r2, r3, r4, r5, r6, r7⟩ := vK8 HC.out; clear B2 t1; have t2 := tR)
  | (have q0 := t0; refine box_lawC _ [.int .i64 g0, .int .i64 g1, .int .i64 g2, .int .i64 g3, .int .i64 g4, .int .i64 g5, .slice po fs.length pc, .slice so ts.length sc] rfl ?_; intro w1 X1 B1 l1; have HC := hdH (X1); have BB := hdH (B1); obtain ⟨r0, r1, r2, r3, r4, r5, r6, r7⟩ := vK8 HC.out; clear X1 B1 l1 t0; have t1 := tR))
 go_ret
 exact ⟨rfl, BBz.out⟩
def trc_S : (P0 : Prop) ×' (P1 : Prop) ×' (P2 : Prop) ×' (P3 : Prop) ×' (P4 : Prop) ×' (P5 : Prop) ×' (P6 : Prop) ×' (P7 : Prop) ×' PLift (Box P0 → Box P1 → Box P2 → Box P3 → Box P4 → Box P5 → Box P6 → Box P7 → ∀ (N P S : Nat) (g2 g3 g4 g5 : Int) (_hs : Shp [(N : Int), P, g2, g3, g4, g5] N P S) (po so : Option Addr) (pc sc : Nat) (fs : List (Int × Bool × Value)) (ms : Nat → List Int) (ts : List Stp) (w : World) (_hf : Fls w (.slice po fs.length pc) fs) (_hm : Mks w fs ms) (_hk : fs.length ≤ 64 ∧ Okp fs ms fs.length) (_hl : (N : Int) ≤ 16 ∧ (P : Int) ≤ 20 ∧ g2 ≤ 128) (_hst : Stps w (.slice so ts.length sc) ts), Calls Try.prog 5 #[.agg ([.int .i64 (N : Int), .int .i64 (P : Int), .int .i64 g2, .int .i64 g3, .int .i64 g4, .int .i64 g5, .slice po fs.length pc, .slice so ts.length sc] : List Value).toArray] w fun e w' => e = .returned (.bool true) ∧ Below w.heap.size w w') := by
 apply PSigma.mk
 apply PSigma.mk
 apply PSigma.mk
 apply PSigma.mk
 apply PSigma.mk
 apply PSigma.mk
 apply PSigma.mk
 apply PSigma.mk
 focus
  apply PLift.up
  intro hp0 hp1 hp2 hp3 hp4 hp5 hp6 hp7 N P S g2 g3 g4 g5 hs po so pc sc fs ms ts w hf hm hk hl hst
  have HSH := hdH (hs)
  have HS9 : Hid (S ≤ 100000) := (by have := shp_num hs; show S ≤ _; omega)
  have HSP : Hid (0 < S) := (by have := shp_num hs; show 0 < S; omega)
  have HF := hdH (hf)
  have HMK := hdH (hm)
  have HK := hdH (hk)
  have HST : Hid (Stps w (.slice so ts.length sc) ts) := hst
  have HGL : Hid (0 ≤ g2 + 88 ∧ g2 ≤ 128) := (by have h5 : g2 + 88 = (S : Int) := hs.2.2.2.2; exact ⟨by omega, hl.2.2⟩)
  have SB : Hid (∀ tx : Int, 0 ≤ tx ∧ tx ≤ 255 → ∀ w0, Calls Try.prog 25 #[.int .i64 (g2 + 88), .int .u8 tx] w0 fun e w' => ∃ v, e = .returned v ∧ Own w0.heap.size w' v (bts S tx) ∧ Below w0.heap.size w0 w') := (by have h5 : g2 + 88 = (S : Int) := hs.2.2.2.2; rw [h5]; exact fun tx hx w0 => lbytes_any S (by omega) tx hx w0)
  have SG : Hid (∀ w0, Calls Try.prog 9 #[.agg (ints .i64 [(N : Int), P, g2, g3, g4, g5])] w0 fun x w' => x = .returned (.bool true) ∧ Below w0.heap.size w0 w') := ge.right_yes [(N : Int), P, g2, g3, g4, g5] rfl hs.2.1
  have SU : Hid (∀ w0, Below w.heap.size w w0 → Calls Try.prog 10 #[.slice po fs.length pc] w0 fun x w' => x = .returned (.bool true) ∧ Below w0.heap.size w0 w') := fun w0 hb => (rright_any _ fs ms w0 (hf.below hb) (hm.below hb) true (by simpa using hk)).mono fun _ _ ⟨h1, n, h2⟩ => ⟨h1, by rw [h2]; exact below_drewN (Below.refl _ _) n⟩
  have SL : Hid (∀ w0, Calls Try.prog 12 #[.agg (ints .i64 [(N : Int), P, g2, g3, g4, g5])] w0 fun x w' => x = .returned (.bool true) ∧ Below w0.heap.size w0 w') := fun w0 => light_any N P g2 g3 g4 g5 w0 _ (by simp [hl])
  have SN : Hid (∀ w0, Below w.heap.size w w0 → Calls Try.prog 8 #[.agg (ints .i64 [(N : Int), P, g2, g3, g4, g5]), .slice po fs.length pc] w0 (Made w0 [(N : Int), P, g2, g3, g4, g5] N P S (plnOf fs ms))) := fun w0 hb => new_yes g2 g3 g4 g5 N P S hs _ fs ms w0 (hf.below hb) (hm.below hb) hk.1 hk.2
  clear hs hf hm hk hl hst
  have t0 := tR
  go_enter Try.func5, Try.ntmps5
  go_wp2_with (first
   | (have q7 := t7; (with_reducible refine at_store ?_); refine store_lawC _ (chr [(N : Int), P, g2, g3, g4, g5] (.slice bq N bc) (.slice po fs.length pc) false 0) w6.heap.size 0 rfl rfl HW.out.2 rowy_chipR.2 chr_one ?_; intro w8 E8 R8 T8 B8; have K8 : w7.grownBy w8 (some w6.heap.size) := (by rw [E8.out]; exact keep_cells _ _ _ _); have HNB0 := HNB.out; have HNB : Hid (NoB w8 w6.heap.size) := (by rw [E8.out]; exact HNB.out.set HW.out rfl chr_nobyte); have MW : Hid (M w6.heap.size = false) := not_hid HM5.out L6.out.1; have HS8 : Hid (Sim M (one w6.heap.size) w8 c r d q pv [(N : Int), P, g2, g3, g4, g5] N P S (plnOf fs ms) (new S) [] (.agg (chr [(N : Int), P, g2, g3, g4, g5] (.slice bq N bc) (.slice po fs.length pc) false 0).toArray)) := HS7.out.putN HNB0 MW.out K8; have HW : Hid (Vr w8 w6.heap.size (chr [(N : Int), P, g2, g3, g4, g5] (.slice bq N bc) (.slice po fs.length pc) false 0)) := ⟨R8, T8⟩; clear r0 r1 r2 r3 r4 r5 r6 r7; have HC := hdH (HC.out.kept K8 (vlt HC.out) (by have := L4.out; have := L6.out; simp; omega)); have BB := hdH (BB.out.trans (B8.mono (by have := L4.out; have := L6.out; omega))); obtain ⟨r0, r1, r2, r3, r4, r5, r6, r7⟩ := vK8 HC.out; clear HNB0 E8 R8 T8 B8 K8 HS7 t7; have t8 := tR)
   | (have q6 := t6; (with_reducible refine at_alloc ?_); refine new_lawT _ _ zero_chr ?_; intro w7 X7 O7 B7 l7; have HW := hdH (X7); have HNB : Hid (NoB w7 w6.heap.size) := (by obtain ⟨fr, z⟩ := O7; exact obj_nobyte z zc_nobyte); have HS7 := hdH (HS6.out.below B7); clear r0 r1 r2 r3 r4 r5 r6 r7; have HC := vB HC B7 (vlt HC.out); have BB := bT BB B7; obtain ⟨r0, r1, r2, r3, r4, r5, r6, r7⟩ := vK8 HC.out; clear X7 O7 B7 l7 HS6 t6; have t7 := tR)
   | (have q5 := t5; go_at_call 14; refine (rnew_any N P S g2 g3 g4 g5 HSH.out po fs.length pc w5).mono ?_; rintro e9 w6 ⟨bv, rfl, R6, B6⟩; have HS6 : Hid (Sim M (one w6.heap.size) w6 c r d q pv [(N : Int), P, g2, g3, g4, g5] N P S (plnOf fs ms) (new S) [] (.agg (chr [(N : Int), P, g2, g3, g4, g5] bv (.slice po fs.length pc) false 0).toArray)) := sim_new HL5.out HM5.out HG5.out.1 HG5.out.2 (HF.out.below B4.out) (HMK.out.below B4.out) HK.out.1 HK.out.2 w6.heap.size (Nat.le_refl _) R6 B6; obtain ⟨bq, bc, rfl⟩ := bks_form R6; have L6 : Hid (w5.heap.size ≤ w6.heap.size ∧ w4.heap.size ≤ w5.heap.size) := ⟨B6.size, HG5.out.2.size⟩; clear r0 r1 r2 r3 r4 r5 r6 r7; have HC := vB HC B6 (vlt HC.out); have BB := bT BB B6; obtain ⟨r0, r1, r2, r3, r4, r5, r6, r7⟩ := vK8 HC.out; clear R6 B6 t5; have t6 := tR)
   | (have q4 := t4; go_at_call 8; refine (SN.out _ BB.out).mono ?_; rintro e9 w5 ⟨M, c, r, d, q, pv, tv, rfl, L5, M5, G5, B5⟩; have HL5 := hdH (L5); have HM5 := hdH (M5); have HG5 : Hid ((∀ k, M k = true → w4.heap.size ≤ k) ∧ Below w4.heap.size w4 w5) := ⟨G5, B5⟩; have B4 := hdH (BB.out); have L4 : Hid (w.heap.size < w4.heap.size) := range_lt HC.out.1 (by simp); clear r0 r1 r2 r3 r4 r5 r6 r7; have HC := vB HC B5 (vlt HC.out); have BB := bT BB B5; obtain ⟨r0, r1, r2, r3, r4, r5, r6, r7⟩ := vK8 HC.out; clear L5 M5 G5 B5 t4; have t5 := tR)
   | (have q3 := t3; go_at_call 12; refine (SL.out _).mono ?_; rintro e9 w4 ⟨rfl, B4⟩; clear r0 r1 r2 r3 r4 r5 r6 r7; have HC := vB HC B4 (vlt HC.out); have BB := bT BB B4; obtain ⟨r0, r1, r2, r3, r4, r5, r6, r7⟩ := vK8 HC.out; clear B4 t3; have t4 := tR)
   | (have q2 := t2; go_at_call 10; refine (SU.out _ BB.out).mono ?_; rintro e9 w3 ⟨rfl, B3⟩; clear r0 r1 r2 r3 r4 r5 r6 r7; have HC := vB HC B3 (vlt HC.out); have BB := bT BB B3; obtain ⟨r0, r1, r2, r3, r4, r5, r6, r7⟩ := vK8 HC.out; clear B3 t2; have t3 := tR)
   | (have q1 := t1; go_at_call 9; refine (SG.out _).mono ?_; rintro e9 w2 ⟨rfl, B2⟩; clear r0 r1 r2 r3 r4 r5 r6 r7; have HC := vB HC B2 (vlt HC.out); have BB := bT BB B2; obtain ⟨r0, r1, r2, r3, r4, r5, r6, r7⟩ := vK8 HC.out; clear B2 t1; have t2 := tR)
   | (have q0 := t0; refine box_lawC _ [.int .i64 (N : Int), .int .i64 (P : Int), .int .i64 g2, .int .i64 g3, .int .i64 g4, .int .i64 g5, .slice po fs.length pc, .slice so ts.length sc] rfl ?_; intro w1 X1 B1 l1; have HC := hdH (X1); have BB := hdH (B1); obtain ⟨r0, r1, r2, r3, r4, r5, r6, r7⟩ := vK8 HC.out; clear X1 B1 l1 t0; have t1 := tR))
  have BZ : Hid (Below w8.heap.size w8 (w8.alloc (.cells #[] 64))) := (Below.refl _ _).alloc (Nat.le_refl _) _
  have LW : Hid (w6.heap.size < w8.heap.size) := range_lt HW.out.1 (by simp [chr])
  have LK : Hid (Ltr w w4.heap.size w6.heap.size [.int .i64 (N : Int), .int .i64 (P : Int), .int .i64 g2, .int .i64 g3, .int .i64 g4, .int .i64 g5, .slice po fs.length pc, .slice so ts.length sc] c r d q pv N P S g2 g3 g4 g5 (plnOf fs ms) 0 (.slice (some ⟨w8.heap.size, 0, none⟩) 0 0) (w8.alloc (.cells #[] 64))) := ⟨M, new S, [], bq, bc, po, fs.length, pc, w8.heap.size, 0, rfl, HS8.out.more BZ.out (Nat.le_refl _), HW.out.below BZ.out LW.out, HNB.out.heap (BZ.out.block _ LW.out), HC.out.below BZ.out (vlt HC.out), inv_new N P S, Nat.le_refl _, HG5.out.1, MW.out, Wnt.new HS8.out.mlt LW.out (by have := L6.out; have := LW.out; omega), BB.out.trans (BZ.out.mono BB.out.size)⟩
  have LZ : Hid (w.heap.size < w4.heap.size ∧ w4.heap.size ≤ w6.heap.size) := ⟨L4.out, by have := L6.out; omega⟩
  clear HS8 HW HNB HC HG5 MW BB BZ LW L6 L4 B4 HL5 HM5 r0 r1 r2 r3 r4 r5 r6 r7 t8
  go_loopw [6, 7] (fun v6 i wr => ∃ k : Nat, k ≤ ts.length ∧ k ≤ 20 ∧ i = .int .i64 (k : Int) ∧ Ltr w w4.heap.size w6.heap.size [.int .i64 (N : Int), .int .i64 (P : Int), .int .i64 g2, .int .i64 g3, .int .i64 g4, .int .i64 g5, .slice po fs.length pc, .slice so ts.length sc] c r d q pv N P S g2 g3 g4 g5 (plnOf fs ms) k v6 wr) (fun _ i _ => ts.length - (intOf i).toNat)
  case atStart => exact ⟨0, Nat.zero_le _, Nat.zero_le _, rfl, LK.out⟩
  case round =>
   clear LK
   obtain ⟨k, hk, hk2, rfl, ⟨M, s, l, bq, bc, pq, pn, pd, gV, cp, rfl, hS, hW, hNB, hC, hI, hO, hG, hMW, hWt, hB⟩⟩ := hrel
   have HS := hdH (hS)
   have HW := hdH (hW)
   have HNB : Hid (NoB wr w6.heap.size) := hNB
   have HC := hdH (hC)
   have HI : Hid (Inv N P S s l ∧ ops s ≤ k) := ⟨hI, hO⟩
   have HG : Hid ((∀ j, M j = true → w4.heap.size ≤ j) ∧ M w6.heap.size = false) := ⟨hG, hMW⟩
   have HWT : Hid (Wnt M w6.heap.size wr w4.heap.size gV cp l) := hWt
   have BB := hdH (hB)
   clear hS hW hNB hC hI hO hG hMW hWt hB
   have r7 := HC.out.cell 7 _ rfl
   have lk0 : (0 : Int) ≤ (k : Int) := by omega
   by_cases hlt' : k < ts.length
   ·have lk : (k : Int) < (ts.length : Int) := by omega
    by_cases h20 : k < 20
    ·have lk2 : (k : Int) < 20 := by omega
     obtain ⟨sb, sf, rfl, hx, hrow⟩ := stps_at HST.out k hlt'
     generalize ts.getD k (0, 0, 0, 0, false) = tt at hx hrow
     obtain ⟨tk, tb, tp, tx, ton⟩ := tt
     have HX := hdH (hx)
     have HRW : Hid (∀ w', Below w.heap.size w w' → w'.rangeAt sb (sf + k * 5) [.int .i64 tk, .int .i64 tb, .int .i64 tp, .int .u8 tx, .bool ton]) := hrow
     obtain ⟨s2, l2, hnx⟩ : ∃ s2 l2, nxt N P S (plnOf fs ms) s l tk tb tp tx ton = (s2, l2) := ⟨_, _, rfl⟩
     have HNX : Hid (nxt N P S (plnOf fs ms) s l tk tb tp tx ton = (s2, l2)) := hnx
     clear hx hrow hnx
     have HC := hdH (HC.out)
     have r6 := HC.out.cell 6 _ rfl
     have r2 := HC.out.cell 2 _ rfl
     have e0 : wr.cell? ⟨sb, sf + k * 5, none⟩ = some (.int .i64 tk) := HRW.out _ BB.out 0 _ rfl
     have e1 : wr.cell? ⟨sb, sf + k * 5 + 1, none⟩ = some (.int .i64 tb) := HRW.out _ BB.out 1 _ rfl
     have e2 : wr.cell? ⟨sb, sf + k * 5 + 2, none⟩ = some (.int .i64 tp) := HRW.out _ BB.out 2 _ rfl
     have e3 : wr.cell? ⟨sb, sf + k * 5 + 3, none⟩ = some (.int .u8 tx) := HRW.out _ BB.out 3 _ rfl
     have e4 : wr.cell? ⟨sb, sf + k * 5 + 4, none⟩ = some (.bool ton) := HRW.out _ BB.out 4 _ rfl
     have HI2 : Hid (Inv N P S s2 l2) := (by have := inv_nxt HI.out.1 (plnOf fs ms) tk tb tp tx HX.out ton; rw [HNX.out] at this; exact this)
     have HOP : Hid (ops s2 ≤ k + 1) := (by have h1 : ops s2 ≤ ops s + 1 := (by have := nxt_le (N := N) (P := P) (S := S) (plnOf fs ms) s l tk tb tp tx ton; rw [HNX.out] at this; exact this); have h2 := HI.out.2; show _ ≤ _; omega)
     have HLN : Hid (l.length ≤ 1000) := (by have h1 := HI.out.1.2.2.1; have h2 := HI.out.2; show _ ≤ _; omega)
     have hmore := nxt_more (plnOf fs ms) s l tk tb tp tx ton s2 l2 HSP.out HNX.out
     rcases hmore with ⟨hops, hl2⟩ | ⟨hops, htb, hrest⟩
     ·have HN2 : Hid ((ops s2 : Int) = (ops s : Int)) := (by show _ = _; rw [hops])
      have HL2 := hdH (hl2)
      clear hops hl2
      obtain ⟨cq, hcq⟩ : ∃ cq : Int, ((∀ t, Fst fs (ops s : Int) t → cq = t) ∧ ((∀ t, t < fs.length → (gf fs t).1 ≠ (ops s : Int)) → cq = -1)) := at_some fs (ops s)
      have SR : Hid (∀ w0, Below w.heap.size w w0 → Calls Try.prog 24 #[.slice po fs.length pc, .int .i64 (ops s : Int)] w0 fun e w' => e = .returned (.int .i64 (cq)) ∧ Below w0.heap.size w0 w') := fun w0 hb => (rat_any _ fs _ w0 (HF.out.below hb) cq hcq.1 hcq.2).mono fun _ _ ⟨h1, n, h2⟩ => ⟨h1, by rw [h2]; exact below_drewN (Below.refl _ _) n⟩
      clear hcq
      have t0 := tR
      go_wp2_with (first
       | (have q4 := t4; (with_reducible refine at_store ?_); refine store_lawC _ (chr [(N : Int), P, g2, g3, g4, g5] (.slice bq2 N bc2) (.slice pq2 pn2 pd2) (off s2) (ops s : Int)) w6.heap.size 0 rfl rfl HW.out.2 rowy_chipR.2 chr_one ?_; intro x5 E8 R8 T8 B8; have K8 : x4.grownBy x5 (some w6.heap.size) := (by rw [E8.out]; exact keep_cells _ _ _ _); have HS2 := hdh (HS2.out.putE HNB.out HGM.out.2 (by simp [two]) K8); have HNB : Hid (NoB x5 w6.heap.size) := (by rw [E8.out]; exact HNB.out.set HW.out rfl chr_nobyte); have HWT := hdh (wnt_put HWT.out K8); have HC := hdh (HC.out.kept K8 (nlt HC.out) (by have := LZ.out; simp; omega)); have HY := hdh (HY.out.kept K8 (nlt HY.out) (by have := LGY.out; simp; omega)); have HW : Hid (Vr x5 w6.heap.size (chr [(N : Int), P, g2, g3, g4, g5] (.slice bq2 N bc2) (.slice pq2 pn2 pd2) (off s2) (ops s : Int))) := ⟨R8, T8⟩; have BB := hdh (BB.out.trans (B8.mono (by have := LZ.out; omega))); clear E8 R8 T8 B8 K8; clear r2 r6 r7 y0 y1 y2 y3 y4 y5 y6 y7 y8 y9 v0 v1 v2 v3 v4; obtain ⟨-, -, r2, -, -, -, r6, r7⟩ := nK8 HC.out; obtain ⟨y0, y1, y2, y3, y4, y5, y6, y7, y8, y9⟩ := nK10 HW.out; obtain ⟨v0, v1, v2, v3, v4⟩ := nK5 HY.out;  clear t4; have t5 := tR)
       | (have q3 := t3; go_at_call 15; refine (step_nx HSH.out HI.out.1 (by have := HI.out.2; omega) (two_lt (Nat.lt_of_lt_of_le (nlt HW.out) BA.out.size) (Nat.lt_of_lt_of_le HWT.out.2.2.2.2.1 BA.out.size)) (HS.out.below BA.out) tk tb tp tx HX.out ton HNX.out).mono ?_; rintro e9 x4 ⟨v9, rfl, M', v', rfl, S9, A9, F9⟩; obtain ⟨bq2, bc2, pq2, pn2, pd2, rfl⟩ := sim_form S9; rw [HN2.out] at S9; have HS2 := hdH (S9); have B9 := F9.below (Nat.le_trans (by have := LZ.out; have := (nlt HW.out); omega) BA.out.size) HG.out.1; have eW := F9.block (Nat.lt_of_lt_of_le (nlt HW.out) BA.out.size) HG.out.2; have eY := F9.block (nlt HY.out) (not_hid HS.out.mlt (Nat.le_refl _)); have HGM := hdh (hgm HG.out A9 LZ.out.2 (Nat.lt_of_lt_of_le (nlt HW.out) BA.out.size)); have HWT : Hid (Wnt M' w6.heap.size x4 w4.heap.size gV cp l) := wnt_run HWT.out BA.out F9.size A9 (fun k h1 h2 => F9.block h1 h2); have HNB := hdh ((HNB.out.heap (BA.out.block _ (nlt HW.out))).heap eW); have LGY := hdh (nlt HW.out); have HW := hdh ((HW.out.below BA.out (nlt HW.out)).heap eW); have HC := hdh ((HC.out.below BA.out (nlt HC.out)).below B9 LZ.out.1); have HY := hdh (HY.out.heap eY); have BB := hdh ((BB.out.trans (BA.out.mono BB.out.size)).trans (B9.mono (Nat.le_of_lt LZ.out.1))); clear S9 A9 F9 B9 eW eY BA HS; rw [HN2.out]; clear r2 r6 r7 y0 y1 y2 y3 y4 y5 y6 y7 y8 y9 v0 v1 v2 v3 v4; obtain ⟨-, -, r2, -, -, -, r6, r7⟩ := nK8 HC.out; obtain ⟨y0, y1, y2, y3, y4, y5, y6, y7, y8, y9⟩ := nK10 HW.out; obtain ⟨v0, v1, v2, v3, v4⟩ := nK5 HY.out;  clear t3; have t4 := tR)
       | (have q2 := t2; go_at_call 24; refine (SR.out x2 (BB.out.trans (BA.out.mono BB.out.size))).mono ?_; rintro e9 x3 ⟨rfl, B3⟩; have HY := hdH (HY.out.below B3 (nlt HY.out)); have BA := bT BA B3; clear B3; clear r2 r6 r7 y0 y1 y2 y3 y4 y5 y6 y7 y8 y9 v0 v1 v2 v3 v4; obtain ⟨-, -, r2, -, -, -, r6, r7⟩ := nK8 (HC.out.below BA.out (nlt HC.out)); obtain ⟨y0, y1, y2, y3, y4, y5, y6, y7, y8, y9⟩ := nK10 (HW.out.below BA.out (nlt HW.out)); obtain ⟨v0, v1, v2, v3, v4⟩ := nK5 HY.out;  clear t2; have t3 := tR)
       | (have q1 := t1; (with_reducible refine at_store ?_); refine store_lawC _ [.int .i64 tk, .int .i64 tb, .int .i64 tp, .int .u8 tx, .bool ton] wr.heap.size 0 rfl rfl HY.out.2 rowy_step.2 (by simp [Value.oneCell']) ?_; intro x2 E2 A2 T2 B2; have HY : Hid (Vr x2 wr.heap.size [.int .i64 tk, .int .i64 tb, .int .i64 tp, .int .u8 tx, .bool ton]) := ⟨A2, T2⟩; have BA := hdH (BA.out.trans B2); clear E2 A2 T2 B2; obtain ⟨-, -, r2, -, -, -, r6, r7⟩ := nK8 (HC.out.below BA.out (nlt HC.out)); obtain ⟨y0, y1, y2, y3, y4, y5, y6, y7, y8, y9⟩ := nK10 (HW.out.below BA.out (nlt HW.out)); obtain ⟨v0, v1, v2, v3, v4⟩ := nK5 HY.out;  clear t1; have t2 := tR)
       | (have q0 := t0; (with_reducible refine at_alloc ?_); refine new_lawC _ _ zero_step ?_; intro x1 V1 B1 l1; have HY := hdH (V1); have BA := hdH (B1); clear V1 B1 l1; clear e0 e1 e2 e3 e4 r2 r6 r7;  clear t0; have t1 := tR))
      have HN3 := HN2.out
      rw [← HN3] at HS2 HW
      go_roundw
      case rel => exact ⟨k + 1, by omega, by omega, by go_num, M', s2, l2, bq2, bc2, pq2, pn2, pd2, gV, cp, by rw [HL2.out], HS2.out, HW.out, HNB.out, HC.out, HI2.out, HOP.out, HGM.out.1, HGM.out.2, by rw [HL2.out]; exact HWT.out, BB.out⟩
      case measure => simp [intOf]; omega
     ·obtain ⟨n2, hn2⟩ : ∃ n : Int, (ops s2 : Int) = n := ⟨_, rfl⟩
      have HN2 := hdH (hn2)
      have hne : ¬ (n2 = (ops s : Int)) := by omega
      clear hops hn2
      have LUF : Hid (∀ M' : Nat → Bool, ∀ X : World, Mlt M' X → w6.heap.size < X.heap.size → gV < X.heap.size → ∀ b, uni M' (two w6.heap.size gV) b = true → b < X.heap.size) := fun M' X h1 h2 h3 b hb => (by simp [uni, two] at hb; rcases hb with z | z | z <;> first | exact h1 b z | omega)
      have hgl := HGL.out.1; have hgu := HGL.out.2
      rcases at_case fs ms (ops s) with ⟨t, ht, hans⟩ | ⟨hno, hans⟩
      ·obtain ⟨pb, pf, hpo, hcell⟩ := fls_at HF.out t ht.1
       have HHT := hdH (ht)
       have ht0 : (0 : Int) ≤ (t : Int) := by omega
       have ht1 : (t : Int) < (fs.length : Int) := by have := ht.1; omega
       subst hpo
       have SR : Hid (∀ w0, Below w.heap.size w w0 → Calls Try.prog 24 #[.slice (some ⟨pb, pf, none⟩) fs.length pc, .int .i64 (ops s : Int)] w0 fun e w' => e = .returned (.int .i64 ((t : Int))) ∧ Below w0.heap.size w0 w') := fun w0 hb => (rat_any _ fs _ w0 (HF.out.below hb) ((t : Int)) (fun u hu => by rw [fst_only HHT.out hu]) (fun z => absurd HHT.out.2.1 (z t HHT.out.1))).mono fun _ _ ⟨h1, n, h2⟩ => ⟨h1, by rw [h2]; exact below_drewN (Below.refl _ _) n⟩
       by_cases hfl : (gf fs t).2.1 = true
       ·rw [hfl] at hcell hans
        have HFC : Hid (∀ w', Below w.heap.size w w' → w'.cell? ⟨pb, pf + t * 3 + 1, none⟩ = some (.bool true)) := hcell
        simp only [if_true] at hans
        clear hfl hcell ht
        rw [hans] at hrest
        clear hans
        have t0 := tR
        rcases hrest with ⟨rfl, htp, htx, hl2⟩ | ⟨hk3, hl2⟩
        ·have HL2 := hdH (hl2)
         clear hl2
         rename_i zz0 zz1 zz2 zz3 zz4 zz5 zz6 zz7 zz8 zz9 zz10 zz11 zz12 zz13 zz14 zz15 zz16 zz17 zz18 zz19 zz20 zz21 zz22
         revert N P S g2 g3 g4 g5 pc sc fs ms ts w zz0 w1 w2 w3 w4 w5 zz5 c r d q pv tv w6 zz7 zz8 w7 w8 zz13 wr u8 u9 u10 u11 u47 u48 u49 u50 u51 u52 u53 u54 u55 u56 u57 u58 u59 u60 u61 u62 u63 u64 u65 u66 u67 u68 u69 u70 u71 u72 u73 u74 u75 u76 u77 u78 u79 u80 u81 u82 u83 u84 u85 u86 u87 u88 u89 u90 u91 u92 u93 u94 u95 u96 u97 u98 u99 u100 u101 u102 u103 u104 u105 u106 u107 u108 u109 u110 u111 u112 u113 u114 k M s l bq bc pq pn pd gV cp sb sf tb tp tx ton s2 l2 n2 t pb pf
         exact hp0 3 rfl
        ·have HL2 := hdH (hl2)
         have hk1 : ¬ (tk = 1) := by omega
         clear hl2 hk3
         rename_i zz0 zz1 zz2 zz3 zz4 zz5 zz6 zz7 zz8 zz9 zz10 zz11 zz12 zz13 zz14 zz15 zz16 zz17 zz18 zz19 zz20 zz21 zz22
         revert N P S g2 g3 g4 g5 pc sc fs ms ts w zz0 w1 w2 w3 w4 w5 zz5 c r d q pv tv w6 zz7 zz8 w7 w8 zz13 wr u8 u9 u10 u11 u47 u48 u49 u50 u51 u52 u53 u54 u55 u56 u57 u58 u59 u60 u61 u62 u63 u64 u65 u66 u67 u68 u69 u70 u71 u72 u73 u74 u75 u76 u77 u78 u79 u80 u81 u82 u83 u84 u85 u86 u87 u88 u89 u90 u91 u92 u93 u94 u95 u96 u97 u98 u99 u100 u101 u102 u103 u104 u105 u106 u107 u108 u109 u110 u111 u112 u113 u114 k M s l bq bc pq pn pd gV cp sb sf tk tb tp tx ton s2 l2 n2 t pb pf
         exact hp1 3 rfl
       ·have hfl : (gf fs t).2.1 = false := by simpa using hfl
        rw [hfl] at hcell hans
        have HFC : Hid (∀ w', Below w.heap.size w w' → w'.cell? ⟨pb, pf + t * 3 + 1, none⟩ = some (.bool false)) := hcell
        simp only [Bool.false_eq_true, if_false] at hans
        clear hfl hcell ht
        rw [hans] at hrest
        clear hans
        have t0 := tR
        rcases hrest with ⟨rfl, htp, htx, hl2⟩ | ⟨hk3, hl2⟩
        ·have HL2 := hdH (hl2)
         clear hl2
         rename_i zz0 zz1 zz2 zz3 zz4 zz5 zz6 zz7 zz8 zz9 zz10 zz11 zz12 zz13 zz14 zz15 zz16 zz17 zz18 zz19 zz20 zz21 zz22
         revert N P S g2 g3 g4 g5 pc sc fs ms ts w zz0 w1 w2 w3 w4 w5 zz5 c r d q pv tv w6 zz7 zz8 w7 w8 zz13 wr u8 u9 u10 u11 u47 u48 u49 u50 u51 u52 u53 u54 u55 u56 u57 u58 u59 u60 u61 u62 u63 u64 u65 u66 u67 u68 u69 u70 u71 u72 u73 u74 u75 u76 u77 u78 u79 u80 u81 u82 u83 u84 u85 u86 u87 u88 u89 u90 u91 u92 u93 u94 u95 u96 u97 u98 u99 u100 u101 u102 u103 u104 u105 u106 u107 u108 u109 u110 u111 u112 u113 u114 k M s l bq bc pq pn pd gV cp sb sf tb tp tx ton s2 l2 n2 t pb pf
         exact hp2 3 rfl
        ·have HL2 := hdH (hl2)
         have hk1 : ¬ (tk = 1) := by omega
         clear hl2 hk3
         rename_i zz0 zz1 zz2 zz3 zz4 zz5 zz6 zz7 zz8 zz9 zz10 zz11 zz12 zz13 zz14 zz15 zz16 zz17 zz18 zz19 zz20 zz21 zz22
         revert N P S g2 g3 g4 g5 pc sc fs ms ts w zz0 w1 w2 w3 w4 w5 zz5 c r d q pv tv w6 zz7 zz8 w7 w8 zz13 wr u8 u9 u10 u11 u47 u48 u49 u50 u51 u52 u53 u54 u55 u56 u57 u58 u59 u60 u61 u62 u63 u64 u65 u66 u67 u68 u69 u70 u71 u72 u73 u74 u75 u76 u77 u78 u79 u80 u81 u82 u83 u84 u85 u86 u87 u88 u89 u90 u91 u92 u93 u94 u95 u96 u97 u98 u99 u100 u101 u102 u103 u104 u105 u106 u107 u108 u109 u110 u111 u112 u113 u114 k M s l bq bc pq pn pd gV cp sb sf tk tb tp tx ton s2 l2 n2 t pb pf
         exact hp3 3 rfl
      ·have HNO : Hid (∀ u, u < fs.length → (gf fs u).1 ≠ (ops s : Int)) := hno
       have SR : Hid (∀ w0, Below w.heap.size w w0 → Calls Try.prog 24 #[.slice po fs.length pc, .int .i64 (ops s : Int)] w0 fun e w' => e = .returned (.int .i64 (-1)) ∧ Below w0.heap.size w0 w') := fun w0 hb => (rat_any _ fs _ w0 (HF.out.below hb) (-1) (fun u hu => absurd hu.2.1 (HNO.out u hu.1)) (fun _ => rfl)).mono fun _ _ ⟨h1, n, h2⟩ => ⟨h1, by rw [h2]; exact below_drewN (Below.refl _ _) n⟩
       clear hno
       rw [hans] at hrest
       clear hans
       have t0 := tR
       rcases hrest with ⟨rfl, htp, htx, hl2⟩ | ⟨hk3, hl2⟩
       ·have HL2 := hdH (hl2)
        clear hl2
        rename_i zz0 zz1 zz2 zz3 zz4 zz5 zz6 zz7 zz8 zz9 zz10 zz11 zz12 zz13 zz14 zz15 zz16 zz17 zz18 zz19 zz20 zz21 zz22
        revert N P S g2 g3 g4 g5 po pc sc fs ms ts w zz0 w1 w2 w3 w4 w5 zz5 c r d q pv tv w6 zz7 zz8 w7 w8 zz13 wr u8 u9 u10 u11 u47 u48 u49 u50 u51 u52 u53 u54 u55 u56 u57 u58 u59 u60 u61 u62 u63 u64 u65 u66 u67 u68 u69 u70 u71 u72 u73 u74 u75 u76 u77 u78 u79 u80 u81 u82 u83 u84 u85 u86 u87 u88 u89 u90 u91 u92 u93 u94 u95 u96 u97 u98 u99 u100 u101 u102 u103 u104 u105 u106 u107 u108 u109 u110 u111 u112 u113 u114 k M s l bq bc pq pn pd gV cp sb sf tb tp tx ton s2 l2 n2
        exact hp4 3 rfl
       ·have HL2 := hdH (hl2)
        have hk1 : ¬ (tk = 1) := by omega
        clear hl2 hk3
        rename_i zz0 zz1 zz2 zz3 zz4 zz5 zz6 zz7 zz8 zz9 zz10 zz11 zz12 zz13 zz14 zz15 zz16 zz17 zz18 zz19 zz20 zz21 zz22
        revert N P S g2 g3 g4 g5 po pc sc fs ms ts w zz0 w1 w2 w3 w4 w5 zz5 c r d q pv tv w6 zz7 zz8 w7 w8 zz13 wr u8 u9 u10 u11 u47 u48 u49 u50 u51 u52 u53 u54 u55 u56 u57 u58 u59 u60 u61 u62 u63 u64 u65 u66 u67 u68 u69 u70 u71 u72 u73 u74 u75 u76 u77 u78 u79 u80 u81 u82 u83 u84 u85 u86 u87 u88 u89 u90 u91 u92 u93 u94 u95 u96 u97 u98 u99 u100 u101 u102 u103 u104 u105 u106 u107 u108 u109 u110 u111 u112 u113 u114 k M s l bq bc pq pn pd gV cp sb sf tk tb tp tx ton s2 l2 n2
        exact hp5 3 rfl
    ·have lk2 : ¬ ((k : Int) < 20) := by omega
     rename_i zz0 zz1 zz2 zz3 zz4 zz5 zz6 zz7 zz8 zz9 zz10 zz11 zz12 zz13 zz14 zz15 zz16 zz17 zz18 zz19 zz20 zz21
     revert N P S g2 g3 g4 g5 po so pc sc fs ms ts w zz0 w1 w2 w3 w4 w5 zz9 c r d q pv tv w6 zz12 zz13 w7 w8 zz20 wr u8 u9 u10 u11 u47 u48 u49 u50 u51 u52 u53 u54 u55 u56 u57 u58 u59 u60 u61 u62 u63 u64 u65 u66 u67 u68 u69 u70 u71 u72 u73 u74 u75 u76 u77 u78 u79 u80 u81 u82 u83 u84 u85 u86 u87 u88 u89 u90 u91 u92 u93 u94 u95 u96 u97 u98 u99 u100 u101 u102 u103 u104 u105 u106 u107 u108 u109 u110 u111 u112 u113 u114 k M s l bq bc pq pn pd gV cp
     exact hp6 3 rfl
   ·have lk : ¬ ((k : Int) < (ts.length : Int)) := by omega
    rename_i zz0 zz1 zz2 zz3 zz4 zz5 zz6 zz7 zz8 zz9 zz10 zz11 zz12 zz13 zz14 zz15 zz16 zz17 zz18 zz19 zz20 zz21
    revert N P S g2 g3 g4 g5 po so pc sc fs ms ts w zz0 w1 w2 w3 w4 w5 zz9 c r d q pv tv w6 zz12 zz13 w7 w8 zz20 wr u8 u9 u10 u11 u47 u48 u49 u50 u51 u52 u53 u54 u55 u56 u57 u58 u59 u60 u61 u62 u63 u64 u65 u66 u67 u68 u69 u70 u71 u72 u73 u74 u75 u76 u77 u78 u79 u80 u81 u82 u83 u84 u85 u86 u87 u88 u89 u90 u91 u92 u93 u94 u95 u96 u97 u98 u99 u100 u101 u102 u103 u104 u105 u106 u107 u108 u109 u110 u111 u112 u113 u114 k M s l bq bc pq pn pd gV cp
    exact hp7 3 rfl
theorem trc_E : trc_S.1 := by
 intro N P S g2 g3 g4 g5 pc sc fs ms ts w HSH HS9 HSP HMK HK HGL SB SG SL zz0 w1 zz1 w2 zz2 w3 zz3 w4 zz4 w5 zz5 c r d q pv tv zz6 w6 zz7 zz8 zz9 w7 zz10 zz11 zz12 w8 zz13 zz14 LZ wr u8 u9 u10 u11 u47 u48 u49 u50 u51 u52 u53 u54 u55 u56 u57 u58 u59 u60 u61 u62 u63 u64 u65 u66 u67 u68 u69 u70 u71 u72 u73 u74 u75 u76 u77 u78 u79 u80 u81 u82 u83 u84 u85 u86 u87 u88 u89 u90 u91 u92 u93 u94 u95 u96 u97 u98 u99 u100 u101 u102 u103 u104 u105 u106 u107 u108 u109 u110 u111 u112 u113 u114 k hk hk2 M s l bq bc pq pn pd gV cp HS HW HNB HI HG HWT BB lk0 hlt' lk h20 lk2 sb sf HST r7 tb tp tx ton s2 l2 r2 e1 e2 e3 e4 HI2 HOP HLN htb n2 HN2 hne LUF hgl hgu t pb pf HHT ht0 ht1 HF SU SN zz15 zz16 zz17 zz18 zz19 zz20 zz21 zz22 HC r6 SR HFC HX HRW HNX e0 htp htx HL2
 have t0 := tR
 go_wp2_with (first
  | (have q12 := t12; at_builtin; have BD : Hid (Below x5.heap.size x5 (xB1.alloc (.cells ([.int .i64 1, .int .i64 tb, .int .i64 tp, .slice dq S dc, .int .i64 4] : List Value).toArray 64))) := (BC.out.trans (((Below.refl _ _).alloc (Nat.le_refl _) _).mono BC.out.size)); refine pushW_law (xB1.alloc (.cells ([.int .i64 1, .int .i64 tb, .int .i64 tp, .slice dq S dc, .int .i64 4] : List Value).toArray 64)) (HWT.out.below BD.out) (Nat.le_trans (Nat.le_trans LZ.out.2 (Nat.le_of_lt (nlt HW.out))) BD.out.size) (HS2.out.below BD.out).mlt (Nat.lt_of_lt_of_le (nlt HW.out) BD.out.size) (opn 1 tb tp (bts S tx) 4) (.slice dq S dc) ⟨xB1.heap.size, 0, none⟩ 1 rfl rfl (rws_op xB1 [.int .i64 1, .int .i64 tb, .int .i64 tp, .slice dq S dc, .int .i64 4] rfl) (bow_hid (HDT.out.below ((Below.refl _ _).alloc (Nat.le_refl _) _)) (fun b hb => Nat.lt_of_lt_of_le (LU.out b hb) LD2.out)) HLN.out (by show (bts S tx).length ≤ _; rw [bts_len]; have := HS9.out; omega) ?_; intro gV2 cp2 xE W9 K9 O9; have HW9 := hdH (W9); have HK9 := hdH (K9); have HO9 := hdH (O9); clear W9 K9 O9; clear r2 r6 r7 v0 v1 v2 v3 v4 o0 o1 o2 o3 o4 fc;  clear t12; have t13 := tR)
  | (have q11 := t11; (with_reducible refine at_store ?_); refine store_law1 _ x5.heap.size 4 (.int .i64 4) rfl rfl (HO.out.there1 4 (by simp)) (HO.out.free 4 (by simp)) one_errno.2 rfl rfl ?_; intro xB1 E9; have HDT := bow_one E9 LD.out HDT; have BC := below_one E9 BC; have HO : Hid (Vr xB1 x5.heap.size [.int .i64 1, .int .i64 tb, .int .i64 tp, .slice dq S dc, .int .i64 4]) := vr_one E9 HO (by simp); clear E9; clear r2 r6 r7 v0 v1 v2 v3 v4 o0 o1 o2 o3 o4 fc; obtain ⟨-, -, r2, -, -, -, r6, r7⟩ := nK8 (HC.out.below BC.out (nlt HC.out)); obtain ⟨v0, v1, v2, v3, v4⟩ := nK5 (HY.out.below BC.out (nlt HY.out)); obtain ⟨o0, o1, o2, o3, o4⟩ := nK5 HO.out; have fc := HFC.out xB1 (BB.out.trans (BC.out.mono BB.out.size));  clear t11; have t12 := tR)
  | (have q10 := t10; (with_reducible refine at_store ?_); refine store_law1 _ x5.heap.size 4 (.int .i64 5) rfl rfl (HO.out.there1 4 (by simp)) (HO.out.free 4 (by simp)) one_errno.2 rfl rfl ?_; intro xB0 E9; have HDT := bow_one E9 LD.out HDT; have BC := below_one E9 BC; have HO : Hid (Vr xB0 x5.heap.size [.int .i64 1, .int .i64 tb, .int .i64 tp, .slice dq S dc, .int .i64 5]) := vr_one E9 HO (by simp); clear E9; clear r2 r6 r7 v0 v1 v2 v3 v4 o0 o1 o2 o3 o4 fc; obtain ⟨-, -, r2, -, -, -, r6, r7⟩ := nK8 (HC.out.below BC.out (nlt HC.out)); obtain ⟨v0, v1, v2, v3, v4⟩ := nK5 (HY.out.below BC.out (nlt HY.out)); obtain ⟨o0, o1, o2, o3, o4⟩ := nK5 HO.out; have fc := HFC.out xB0 (BB.out.trans (BC.out.mono BB.out.size));  clear t10; have t11 := tR)
  | (have q9 := t9; (with_reducible refine at_store ?_); refine store_law1 _ x5.heap.size 3 (.slice dq S dc) rfl rfl (HO.out.there1 3 (by simp)) (HO.out.free 3 (by simp)) one_bytes.2 rfl rfl ?_; intro xA E9; have HDT := bow_one E9 LD.out HDT; have BC := below_one E9 BC; have HO : Hid (Vr xA x5.heap.size [.int .i64 1, .int .i64 tb, .int .i64 tp, .slice dq S dc, .int .i64 0]) := vr_one E9 HO (by simp); clear E9; clear r2 r6 r7 v0 v1 v2 v3 v4 o0 o1 o2 o3 o4 fc; obtain ⟨-, -, r2, -, -, -, r6, r7⟩ := nK8 (HC.out.below BC.out (nlt HC.out)); obtain ⟨v0, v1, v2, v3, v4⟩ := nK5 (HY.out.below BC.out (nlt HY.out)); obtain ⟨o0, o1, o2, o3, o4⟩ := nK5 HO.out; have fc := HFC.out xA (BB.out.trans (BC.out.mono BB.out.size));  clear t9; have t10 := tR)
  | (have q8 := t8; go_at_call 25; refine (SB.out tx HX.out x8).mono ?_; rintro e9 x9 ⟨v9, rfl, y9, B9⟩; have y9 := bow_own y9 (bts_all S tx HX.out); obtain ⟨dq, dc, rfl⟩ := byt_form y9.1; rw [bts_len] at y9 ⊢; have HDT := hdH (y9); have LD : Hid (x5.heap.size < x8.heap.size) := range_lt HO.out.1 (Nat.succ_pos _); have LD2 : Hid (x5.heap.size ≤ x8.heap.size) := BC.out.size; have HO := hdH (HO.out.below B9 (range_lt HO.out.1 (Nat.succ_pos _))); have BC := bT BC B9; clear y9 B9; clear r2 r6 r7 v0 v1 v2 v3 v4 o0 o1 o2 o3 o4 fc; obtain ⟨-, -, r2, -, -, -, r6, r7⟩ := nK8 (HC.out.below BC.out (nlt HC.out)); obtain ⟨v0, v1, v2, v3, v4⟩ := nK5 (HY.out.below BC.out (nlt HY.out)); obtain ⟨o0, o1, o2, o3, o4⟩ := nK5 HO.out; have fc := HFC.out x9 (BB.out.trans (BC.out.mono BB.out.size));  clear t8; have t9 := tR)
  | (have q7 := t7; (with_reducible refine at_store ?_); refine store_lawC _ [.int .i64 tb, .int .i64 tp] x5.heap.size 1 rfl rfl (there_mid HO.out.2) rowy_place.2 (by simp [Value.oneCell']) ?_; intro x8 E8 R8 T8 B8; have HO : Hid (Vr x8 x5.heap.size [.int .i64 1, .int .i64 tb, .int .i64 tp, .slice none 0 0, .int .i64 0]) := (by rw [E8.out]; exact (HO.out.set 1 (by simp) _).set 2 (by simp) _); have BC := hdH (BC.out.trans B8); clear E8 R8 T8 B8; clear r2 r6 r7 v0 v1 v2 v3 v4 o0 o1 o2 o3 o4 fc; obtain ⟨-, -, r2, -, -, -, r6, r7⟩ := nK8 (HC.out.below BC.out (nlt HC.out)); obtain ⟨v0, v1, v2, v3, v4⟩ := nK5 (HY.out.below BC.out (nlt HY.out)); obtain ⟨o0, o1, o2, o3, o4⟩ := nK5 HO.out; have fc := HFC.out x8 (BB.out.trans (BC.out.mono BB.out.size));  clear t7; have t8 := tR)
  | (have q6 := t6; (with_reducible refine at_store ?_); refine store_lawC _ [.int .i64 1, .int .i64 tb, .int .i64 0, .slice none 0 0, .int .i64 0] x5.heap.size 0 rfl rfl HO.out.2 rowy_op.2 (by simp [Value.oneCell']) ?_; intro x7 E7 R7 T7 B7; have HO : Hid (Vr x7 x5.heap.size [.int .i64 1, .int .i64 tb, .int .i64 0, .slice none 0 0, .int .i64 0]) := ⟨R7, T7⟩; have BC := hdH (BC.out.trans B7); clear E7 R7 T7 B7; clear r2 r6 r7 v0 v1 v2 v3 v4 o0 o1 o2 o3 o4 fc; obtain ⟨-, -, r2, -, -, -, r6, r7⟩ := nK8 (HC.out.below BC.out (nlt HC.out)); obtain ⟨v0, v1, v2, v3, v4⟩ := nK5 (HY.out.below BC.out (nlt HY.out)); obtain ⟨o0, o1, o2, o3, o4⟩ := nK5 HO.out; have fc := HFC.out x7 (BB.out.trans (BC.out.mono BB.out.size));  clear t6; have t7 := tR)
  | (have q5 := t5; (with_reducible refine at_alloc ?_); refine new_lawC _ _ zero_op ?_; intro x6 V6 B6 l6; have HO := hdH (V6); have BC := hdH (B6); clear V6 B6 l6; clear r2 r6 r7 y0 y1 y2 y3 y4 y5 y6 y7 y8 y9 v0 v1 v2 v3 v4; obtain ⟨-, -, r2, -, -, -, r6, r7⟩ := nK8 (HC.out.below BC.out (nlt HC.out)); obtain ⟨v0, v1, v2, v3, v4⟩ := nK5 (HY.out.below BC.out (nlt HY.out)); obtain ⟨o0, o1, o2, o3, o4⟩ := nK5 HO.out; have fc := HFC.out x6 (BB.out.trans (BC.out.mono BB.out.size));  clear t5; have t6 := tR)
  | (have q4 := t4; (with_reducible refine at_store ?_); refine store_lawC _ (chr [(N : Int), P, g2, g3, g4, g5] (.slice bq2 N bc2) (.slice pq2 pn2 pd2) (off s2) n2) w6.heap.size 0 rfl rfl HW.out.2 rowy_chipR.2 chr_one ?_; intro x5 E8 R8 T8 B8; have K8 : x4.grownBy x5 (some w6.heap.size) := (by rw [E8.out]; exact keep_cells _ _ _ _); have HS2 := hdh (HS2.out.putE HNB.out HGM.out.2 (by simp [two]) K8); have HNB : Hid (NoB x5 w6.heap.size) := (by rw [E8.out]; exact HNB.out.set HW.out rfl chr_nobyte); have HWT := hdh (wnt_put HWT.out K8); have HC := hdh (HC.out.kept K8 (nlt HC.out) (by have := LZ.out; simp; omega)); have HY := hdh (HY.out.kept K8 (nlt HY.out) (by have := LGY.out; simp; omega)); have HW : Hid (Vr x5 w6.heap.size (chr [(N : Int), P, g2, g3, g4, g5] (.slice bq2 N bc2) (.slice pq2 pn2 pd2) (off s2) n2)) := ⟨R8, T8⟩; have BB := hdh (BB.out.trans (B8.mono (by have := LZ.out; omega))); have LU := hdh (LUF.out M' x5 HS2.out.mlt (nlt HW.out) HWT.out.2.2.2.2.1); clear E8 R8 T8 B8 K8; clear r2 r6 r7 y0 y1 y2 y3 y4 y5 y6 y7 y8 y9 v0 v1 v2 v3 v4; obtain ⟨-, -, r2, -, -, -, r6, r7⟩ := nK8 HC.out; obtain ⟨y0, y1, y2, y3, y4, y5, y6, y7, y8, y9⟩ := nK10 HW.out; obtain ⟨v0, v1, v2, v3, v4⟩ := nK5 HY.out;  clear t4; have t5 := tR)
  | (have q3 := t3; go_at_call 15; refine (step_nx HSH.out HI.out.1 (by have := HI.out.2; omega) (two_lt (Nat.lt_of_lt_of_le (nlt HW.out) BA.out.size) (Nat.lt_of_lt_of_le HWT.out.2.2.2.2.1 BA.out.size)) (HS.out.below BA.out) 1 tb tp tx HX.out ton HNX.out).mono ?_; rintro e9 x4 ⟨v9, rfl, M', v', rfl, S9, A9, F9⟩; obtain ⟨bq2, bc2, pq2, pn2, pd2, rfl⟩ := sim_form S9; rw [HN2.out] at S9; have HS2 := hdH (S9); have B9 := F9.below (Nat.le_trans (by have := LZ.out; have := (nlt HW.out); omega) BA.out.size) HG.out.1; have eW := F9.block (Nat.lt_of_lt_of_le (nlt HW.out) BA.out.size) HG.out.2; have eY := F9.block (nlt HY.out) (not_hid HS.out.mlt (Nat.le_refl _)); have HGM := hdh (hgm HG.out A9 LZ.out.2 (Nat.lt_of_lt_of_le (nlt HW.out) BA.out.size)); have HWT : Hid (Wnt M' w6.heap.size x4 w4.heap.size gV cp l) := wnt_run HWT.out BA.out F9.size A9 (fun k h1 h2 => F9.block h1 h2); have HNB := hdh ((HNB.out.heap (BA.out.block _ (nlt HW.out))).heap eW); have LGY := hdh (nlt HW.out); have HW := hdh ((HW.out.below BA.out (nlt HW.out)).heap eW); have HC := hdh ((HC.out.below BA.out (nlt HC.out)).below B9 LZ.out.1); have HY := hdh (HY.out.heap eY); have BB := hdh ((BB.out.trans (BA.out.mono BB.out.size)).trans (B9.mono (Nat.le_of_lt LZ.out.1))); clear S9 A9 F9 B9 eW eY BA HS; rw [HN2.out]; clear r2 r6 r7 y0 y1 y2 y3 y4 y5 y6 y7 y8 y9 v0 v1 v2 v3 v4; obtain ⟨-, -, r2, -, -, -, r6, r7⟩ := nK8 HC.out; obtain ⟨y0, y1, y2, y3, y4, y5, y6, y7, y8, y9⟩ := nK10 HW.out; obtain ⟨v0, v1, v2, v3, v4⟩ := nK5 HY.out;  clear t3; have t4 := tR)
  | (have q2 := t2; go_at_call 24; refine (SR.out x2 (BB.out.trans (BA.out.mono BB.out.size))).mono ?_; rintro e9 x3 ⟨rfl, B3⟩; have HY := hdH (HY.out.below B3 (nlt HY.out)); have BA := bT BA B3; clear B3; clear r2 r6 r7 y0 y1 y2 y3 y4 y5 y6 y7 y8 y9 v0 v1 v2 v3 v4; obtain ⟨-, -, r2, -, -, -, r6, r7⟩ := nK8 (HC.out.below BA.out (nlt HC.out)); obtain ⟨y0, y1, y2, y3, y4, y5, y6, y7, y8, y9⟩ := nK10 (HW.out.below BA.out (nlt HW.out)); obtain ⟨v0, v1, v2, v3, v4⟩ := nK5 HY.out;  clear t2; have t3 := tR)
  | (have q1 := t1; (with_reducible refine at_store ?_); refine store_lawC _ [.int .i64 1, .int .i64 tb, .int .i64 tp, .int .u8 tx, .bool ton] wr.heap.size 0 rfl rfl HY.out.2 rowy_step.2 (by simp [Value.oneCell']) ?_; intro x2 E2 A2 T2 B2; have HY : Hid (Vr x2 wr.heap.size [.int .i64 1, .int .i64 tb, .int .i64 tp, .int .u8 tx, .bool ton]) := ⟨A2, T2⟩; have BA := hdH (BA.out.trans B2); clear E2 A2 T2 B2; obtain ⟨-, -, r2, -, -, -, r6, r7⟩ := nK8 (HC.out.below BA.out (nlt HC.out)); obtain ⟨y0, y1, y2, y3, y4, y5, y6, y7, y8, y9⟩ := nK10 (HW.out.below BA.out (nlt HW.out)); obtain ⟨v0, v1, v2, v3, v4⟩ := nK5 HY.out;  clear t1; have t2 := tR)
  | (have q0 := t0; (with_reducible refine at_alloc ?_); refine new_lawC _ _ zero_step ?_; intro x1 V1 B1 l1; have HY := hdH (V1); have BA := hdH (B1); clear V1 B1 l1; clear e0 e1 e2 e3 e4 r2 r6 r7;  clear t0; have t1 := tR))
 have HS3 := hdh ((HS2.out.below BD.out).push (HWT.out.below BD.out) HK9.out HO9.out)
 have HNE := hdh (And.intro HWT.out.2.2.2.1 HWT.out.2.2.2.2.2.1)
 have HW3 := hdh ((HW.out.below BD.out (nlt HW.out)).kept HK9.out (Nat.lt_of_lt_of_le (nlt HW.out) BD.out.size) (by have := HNE.out; simp; omega))
 have HNB3 := hdh ((HNB.out.heap (BD.out.block _ (nlt HW.out))).heap (HK9.out.block _ (Nat.lt_of_lt_of_le (nlt HW.out) BD.out.size) (by have := HNE.out; simp; omega)))
 have HC3 := hdh ((HC.out.below BD.out (nlt HC.out)).kept HK9.out (Nat.lt_of_lt_of_le (nlt HC.out) BD.out.size) (by have := HNE.out; have := LZ.out; simp; omega))
 have BB3 := hdh ((BB.out.trans (BD.out.mono BB.out.size)).trans ((Below.refl w.heap.size _).grown HK9.out (Nat.le_trans BB.out.size BD.out.size) (fun j e => by have e := Option.some.inj e; have := HNE.out; have := LZ.out; omega)))
 have HN3 := HN2.out
 rw [← HN3] at HS3 HW3
 go_roundw
 case rel => exact ⟨k + 1, by omega, by omega, by go_num, M', s2, l2, bq2, bc2, pq2, pn2, pd2, gV2, cp2, by rw [HL2.out]; simp, HS3.out, HW3.out, HNB3.out, HC3.out, HI2.out, HOP.out, HGM.out.1, HGM.out.2, by rw [HL2.out]; exact HW9.out, BB3.out⟩
 case measure => simp [intOf]; omega
theorem trc_F : trc_S.2.1 := by
 intro N P S g2 g3 g4 g5 pc sc fs ms ts w HSH HS9 HSP HMK HK HGL SB SG SL zz0 w1 zz1 w2 zz2 w3 zz3 w4 zz4 w5 zz5 c r d q pv tv zz6 w6 zz7 zz8 zz9 w7 zz10 zz11 zz12 w8 zz13 zz14 LZ wr u8 u9 u10 u11 u47 u48 u49 u50 u51 u52 u53 u54 u55 u56 u57 u58 u59 u60 u61 u62 u63 u64 u65 u66 u67 u68 u69 u70 u71 u72 u73 u74 u75 u76 u77 u78 u79 u80 u81 u82 u83 u84 u85 u86 u87 u88 u89 u90 u91 u92 u93 u94 u95 u96 u97 u98 u99 u100 u101 u102 u103 u104 u105 u106 u107 u108 u109 u110 u111 u112 u113 u114 k hk hk2 M s l bq bc pq pn pd gV cp HS HW HNB HI HG HWT BB lk0 hlt' lk h20 lk2 sb sf HST r7 tk tb tp tx ton HX HRW s2 l2 HNX r2 e0 e1 e2 e3 e4 HI2 HOP HLN htb n2 HN2 hne LUF hgl hgu t pb pf HHT ht0 ht1 HF SU SN zz15 zz16 zz17 zz18 zz19 zz20 zz21 zz22 HC r6 SR HFC HL2 hk1
 have t0 := tR
 go_wp2_with (first
  | (have q9 := t9; at_builtin; have BD : Hid (Below x5.heap.size x5 (xB1.alloc (.cells ([.int .i64 tk, .int .i64 tb, .int .i64 0, .slice none 0 0, .int .i64 4] : List Value).toArray 64))) := (BC.out.trans (((Below.refl _ _).alloc (Nat.le_refl _) _).mono BC.out.size)); refine pushW_law (xB1.alloc (.cells ([.int .i64 tk, .int .i64 tb, .int .i64 0, .slice none 0 0, .int .i64 4] : List Value).toArray 64)) (HWT.out.below BD.out) (Nat.le_trans (Nat.le_trans LZ.out.2 (Nat.le_of_lt (nlt HW.out))) BD.out.size) (HS2.out.below BD.out).mlt (Nat.lt_of_lt_of_le (nlt HW.out) BD.out.size) (opn tk tb 0 [] 4) (.slice none 0 0) ⟨xB1.heap.size, 0, none⟩ 1 rfl rfl (rws_op xB1 [.int .i64 tk, .int .i64 tb, .int .i64 0, .slice none 0 0, .int .i64 4] rfl) (Byt.nil _) HLN.out (Nat.zero_le _) ?_; intro gV2 cp2 xE W9 K9 O9; have HW9 := hdH (W9); have HK9 := hdH (K9); have HO9 := hdH (O9); clear W9 K9 O9; clear r2 r6 r7 v0 v1 v2 v3 v4 o0 o1 o2 o3 o4 fc;  clear t9; have t10 := tR)
  | (have q8 := t8; (with_reducible refine at_store ?_); refine store_law1 _ x5.heap.size 4 (.int .i64 4) rfl rfl (HO.out.there1 4 (by simp)) (HO.out.free 4 (by simp)) one_errno.2 rfl rfl ?_; intro xB1 E9; have BC := below_one E9 BC; have HO : Hid (Vr xB1 x5.heap.size [.int .i64 tk, .int .i64 tb, .int .i64 0, .slice none 0 0, .int .i64 4]) := vr_one E9 HO (by simp); clear E9; clear r2 r6 r7 v0 v1 v2 v3 v4 o0 o1 o2 o3 o4 fc; obtain ⟨-, -, r2, -, -, -, r6, r7⟩ := nK8 (HC.out.below BC.out (nlt HC.out)); obtain ⟨v0, v1, v2, v3, v4⟩ := nK5 (HY.out.below BC.out (nlt HY.out)); obtain ⟨o0, o1, o2, o3, o4⟩ := nK5 HO.out; have fc := HFC.out xB1 (BB.out.trans (BC.out.mono BB.out.size));  clear t8; have t9 := tR)
  | (have q7 := t7; (with_reducible refine at_store ?_); refine store_law1 _ x5.heap.size 4 (.int .i64 5) rfl rfl (HO.out.there1 4 (by simp)) (HO.out.free 4 (by simp)) one_errno.2 rfl rfl ?_; intro xB0 E9; have BC := below_one E9 BC; have HO : Hid (Vr xB0 x5.heap.size [.int .i64 tk, .int .i64 tb, .int .i64 0, .slice none 0 0, .int .i64 5]) := vr_one E9 HO (by simp); clear E9; clear r2 r6 r7 v0 v1 v2 v3 v4 o0 o1 o2 o3 o4 fc; obtain ⟨-, -, r2, -, -, -, r6, r7⟩ := nK8 (HC.out.below BC.out (nlt HC.out)); obtain ⟨v0, v1, v2, v3, v4⟩ := nK5 (HY.out.below BC.out (nlt HY.out)); obtain ⟨o0, o1, o2, o3, o4⟩ := nK5 HO.out; have fc := HFC.out xB0 (BB.out.trans (BC.out.mono BB.out.size));  clear t7; have t8 := tR)
  | (have q6 := t6; (with_reducible refine at_store ?_); refine store_lawC _ [.int .i64 tk, .int .i64 tb, .int .i64 0, .slice none 0 0, .int .i64 0] x5.heap.size 0 rfl rfl HO.out.2 rowy_op.2 (by simp [Value.oneCell']) ?_; intro x7 E7 R7 T7 B7; have HO : Hid (Vr x7 x5.heap.size [.int .i64 tk, .int .i64 tb, .int .i64 0, .slice none 0 0, .int .i64 0]) := ⟨R7, T7⟩; have BC := hdH (BC.out.trans B7); clear E7 R7 T7 B7; clear r2 r6 r7 v0 v1 v2 v3 v4 o0 o1 o2 o3 o4 fc; obtain ⟨-, -, r2, -, -, -, r6, r7⟩ := nK8 (HC.out.below BC.out (nlt HC.out)); obtain ⟨v0, v1, v2, v3, v4⟩ := nK5 (HY.out.below BC.out (nlt HY.out)); obtain ⟨o0, o1, o2, o3, o4⟩ := nK5 HO.out; have fc := HFC.out x7 (BB.out.trans (BC.out.mono BB.out.size));  clear t6; have t7 := tR)
  | (have q5 := t5; (with_reducible refine at_alloc ?_); refine new_lawC _ _ zero_op ?_; intro x6 V6 B6 l6; have HO := hdH (V6); have BC := hdH (B6); clear V6 B6 l6; clear r2 r6 r7 y0 y1 y2 y3 y4 y5 y6 y7 y8 y9 v0 v1 v2 v3 v4; obtain ⟨-, -, r2, -, -, -, r6, r7⟩ := nK8 (HC.out.below BC.out (nlt HC.out)); obtain ⟨v0, v1, v2, v3, v4⟩ := nK5 (HY.out.below BC.out (nlt HY.out)); obtain ⟨o0, o1, o2, o3, o4⟩ := nK5 HO.out; have fc := HFC.out x6 (BB.out.trans (BC.out.mono BB.out.size));  clear t5; have t6 := tR)
  | (have q4 := t4; (with_reducible refine at_store ?_); refine store_lawC _ (chr [(N : Int), P, g2, g3, g4, g5] (.slice bq2 N bc2) (.slice pq2 pn2 pd2) (off s2) n2) w6.heap.size 0 rfl rfl HW.out.2 rowy_chipR.2 chr_one ?_; intro x5 E8 R8 T8 B8; have K8 : x4.grownBy x5 (some w6.heap.size) := (by rw [E8.out]; exact keep_cells _ _ _ _); have HS2 := hdh (HS2.out.putE HNB.out HGM.out.2 (by simp [two]) K8); have HNB : Hid (NoB x5 w6.heap.size) := (by rw [E8.out]; exact HNB.out.set HW.out rfl chr_nobyte); have HWT := hdh (wnt_put HWT.out K8); have HC := hdh (HC.out.kept K8 (nlt HC.out) (by have := LZ.out; simp; omega)); have HY := hdh (HY.out.kept K8 (nlt HY.out) (by have := LGY.out; simp; omega)); have HW : Hid (Vr x5 w6.heap.size (chr [(N : Int), P, g2, g3, g4, g5] (.slice bq2 N bc2) (.slice pq2 pn2 pd2) (off s2) n2)) := ⟨R8, T8⟩; have BB := hdh (BB.out.trans (B8.mono (by have := LZ.out; omega))); have LU := hdh (LUF.out M' x5 HS2.out.mlt (nlt HW.out) HWT.out.2.2.2.2.1); clear E8 R8 T8 B8 K8; clear r2 r6 r7 y0 y1 y2 y3 y4 y5 y6 y7 y8 y9 v0 v1 v2 v3 v4; obtain ⟨-, -, r2, -, -, -, r6, r7⟩ := nK8 HC.out; obtain ⟨y0, y1, y2, y3, y4, y5, y6, y7, y8, y9⟩ := nK10 HW.out; obtain ⟨v0, v1, v2, v3, v4⟩ := nK5 HY.out;  clear t4; have t5 := tR)
  | (have q3 := t3; go_at_call 15; refine (step_nx HSH.out HI.out.1 (by have := HI.out.2; omega) (two_lt (Nat.lt_of_lt_of_le (nlt HW.out) BA.out.size) (Nat.lt_of_lt_of_le HWT.out.2.2.2.2.1 BA.out.size)) (HS.out.below BA.out) tk tb tp tx HX.out ton HNX.out).mono ?_; rintro e9 x4 ⟨v9, rfl, M', v', rfl, S9, A9, F9⟩; obtain ⟨bq2, bc2, pq2, pn2, pd2, rfl⟩ := sim_form S9; rw [HN2.out] at S9; have HS2 := hdH (S9); have B9 := F9.below (Nat.le_trans (by have := LZ.out; have := (nlt HW.out); omega) BA.out.size) HG.out.1; have eW := F9.block (Nat.lt_of_lt_of_le (nlt HW.out) BA.out.size) HG.out.2; have eY := F9.block (nlt HY.out) (not_hid HS.out.mlt (Nat.le_refl _)); have HGM := hdh (hgm HG.out A9 LZ.out.2 (Nat.lt_of_lt_of_le (nlt HW.out) BA.out.size)); have HWT : Hid (Wnt M' w6.heap.size x4 w4.heap.size gV cp l) := wnt_run HWT.out BA.out F9.size A9 (fun k h1 h2 => F9.block h1 h2); have HNB := hdh ((HNB.out.heap (BA.out.block _ (nlt HW.out))).heap eW); have LGY := hdh (nlt HW.out); have HW := hdh ((HW.out.below BA.out (nlt HW.out)).heap eW); have HC := hdh ((HC.out.below BA.out (nlt HC.out)).below B9 LZ.out.1); have HY := hdh (HY.out.heap eY); have BB := hdh ((BB.out.trans (BA.out.mono BB.out.size)).trans (B9.mono (Nat.le_of_lt LZ.out.1))); clear S9 A9 F9 B9 eW eY BA HS; rw [HN2.out]; clear r2 r6 r7 y0 y1 y2 y3 y4 y5 y6 y7 y8 y9 v0 v1 v2 v3 v4; obtain ⟨-, -, r2, -, -, -, r6, r7⟩ := nK8 HC.out; obtain ⟨y0, y1, y2, y3, y4, y5, y6, y7, y8, y9⟩ := nK10 HW.out; obtain ⟨v0, v1, v2, v3, v4⟩ := nK5 HY.out;  clear t3; have t4 := tR)
  | (have q2 := t2; go_at_call 24; refine (SR.out x2 (BB.out.trans (BA.out.mono BB.out.size))).mono ?_; rintro e9 x3 ⟨rfl, B3⟩; have HY := hdH (HY.out.below B3 (nlt HY.out)); have BA := bT BA B3; clear B3; clear r2 r6 r7 y0 y1 y2 y3 y4 y5 y6 y7 y8 y9 v0 v1 v2 v3 v4; obtain ⟨-, -, r2, -, -, -, r6, r7⟩ := nK8 (HC.out.below BA.out (nlt HC.out)); obtain ⟨y0, y1, y2, y3, y4, y5, y6, y7, y8, y9⟩ := nK10 (HW.out.below BA.out (nlt HW.out)); obtain ⟨v0, v1, v2, v3, v4⟩ := nK5 HY.out;  clear t2; have t3 := tR)
  | (have q1 := t1; (with_reducible refine at_store ?_); refine store_lawC _ [.int .i64 tk, .int .i64 tb, .int .i64 tp, .int .u8 tx, .bool ton] wr.heap.size 0 rfl rfl HY.out.2 rowy_step.2 (by simp [Value.oneCell']) ?_; intro x2 E2 A2 T2 B2; have HY : Hid (Vr x2 wr.heap.size [.int .i64 tk, .int .i64 tb, .int .i64 tp, .int .u8 tx, .bool ton]) := ⟨A2, T2⟩; have BA := hdH (BA.out.trans B2); clear E2 A2 T2 B2; obtain ⟨-, -, r2, -, -, -, r6, r7⟩ := nK8 (HC.out.below BA.out (nlt HC.out)); obtain ⟨y0, y1, y2, y3, y4, y5, y6, y7, y8, y9⟩ := nK10 (HW.out.below BA.out (nlt HW.out)); obtain ⟨v0, v1, v2, v3, v4⟩ := nK5 HY.out;  clear t1; have t2 := tR)
  | (have q0 := t0; (with_reducible refine at_alloc ?_); refine new_lawC _ _ zero_step ?_; intro x1 V1 B1 l1; have HY := hdH (V1); have BA := hdH (B1); clear V1 B1 l1; clear e0 e1 e2 e3 e4 r2 r6 r7;  clear t0; have t1 := tR))
 have HS3 := hdh ((HS2.out.below BD.out).push (HWT.out.below BD.out) HK9.out HO9.out)
 have HNE := hdh (And.intro HWT.out.2.2.2.1 HWT.out.2.2.2.2.2.1)
 have HW3 := hdh ((HW.out.below BD.out (nlt HW.out)).kept HK9.out (Nat.lt_of_lt_of_le (nlt HW.out) BD.out.size) (by have := HNE.out; simp; omega))
 have HNB3 := hdh ((HNB.out.heap (BD.out.block _ (nlt HW.out))).heap (HK9.out.block _ (Nat.lt_of_lt_of_le (nlt HW.out) BD.out.size) (by have := HNE.out; simp; omega)))
 have HC3 := hdh ((HC.out.below BD.out (nlt HC.out)).kept HK9.out (Nat.lt_of_lt_of_le (nlt HC.out) BD.out.size) (by have := HNE.out; have := LZ.out; simp; omega))
 have BB3 := hdh ((BB.out.trans (BD.out.mono BB.out.size)).trans ((Below.refl w.heap.size _).grown HK9.out (Nat.le_trans BB.out.size BD.out.size) (fun j e => by have e := Option.some.inj e; have := HNE.out; have := LZ.out; omega)))
 have HN3 := HN2.out
 rw [← HN3] at HS3 HW3
 go_roundw
 case rel => exact ⟨k + 1, by omega, by omega, by go_num, M', s2, l2, bq2, bc2, pq2, pn2, pd2, gV2, cp2, by rw [HL2.out]; simp, HS3.out, HW3.out, HNB3.out, HC3.out, HI2.out, HOP.out, HGM.out.1, HGM.out.2, by rw [HL2.out]; exact HW9.out, BB3.out⟩
 case measure => simp [intOf]; omega
theorem trc_G : trc_S.2.2.1 := by
 intro N P S g2 g3 g4 g5 pc sc fs ms ts w HSH HS9 HSP HMK HK HGL SB SG SL zz0 w1 zz1 w2 zz2 w3 zz3 w4 zz4 w5 zz5 c r d q pv tv zz6 w6 zz7 zz8 zz9 w7 zz10 zz11 zz12 w8 zz13 zz14 LZ wr u8 u9 u10 u11 u47 u48 u49 u50 u51 u52 u53 u54 u55 u56 u57 u58 u59 u60 u61 u62 u63 u64 u65 u66 u67 u68 u69 u70 u71 u72 u73 u74 u75 u76 u77 u78 u79 u80 u81 u82 u83 u84 u85 u86 u87 u88 u89 u90 u91 u92 u93 u94 u95 u96 u97 u98 u99 u100 u101 u102 u103 u104 u105 u106 u107 u108 u109 u110 u111 u112 u113 u114 k hk hk2 M s l bq bc pq pn pd gV cp HS HW HNB HI HG HWT BB lk0 hlt' lk h20 lk2 sb sf HST r7 tb tp tx ton s2 l2 r2 e1 e2 e3 e4 HI2 HOP HLN htb n2 HN2 hne LUF hgl hgu t pb pf HHT ht0 ht1 HF SU SN zz15 zz16 zz17 zz18 zz19 zz20 zz21 zz22 HC r6 SR hfl HFC HX HRW HNX e0 htp htx HL2
 have t0 := tR
 go_wp2_with (first
  | (have q11 := t11; at_builtin; have BD : Hid (Below x5.heap.size x5 (xB0.alloc (.cells ([.int .i64 1, .int .i64 tb, .int .i64 tp, .slice dq S dc, .int .i64 5] : List Value).toArray 64))) := (BC.out.trans (((Below.refl _ _).alloc (Nat.le_refl _) _).mono BC.out.size)); refine pushW_law (xB0.alloc (.cells ([.int .i64 1, .int .i64 tb, .int .i64 tp, .slice dq S dc, .int .i64 5] : List Value).toArray 64)) (HWT.out.below BD.out) (Nat.le_trans (Nat.le_trans LZ.out.2 (Nat.le_of_lt (nlt HW.out))) BD.out.size) (HS2.out.below BD.out).mlt (Nat.lt_of_lt_of_le (nlt HW.out) BD.out.size) (opn 1 tb tp (bts S tx) 5) (.slice dq S dc) ⟨xB0.heap.size, 0, none⟩ 1 rfl rfl (rws_op xB0 [.int .i64 1, .int .i64 tb, .int .i64 tp, .slice dq S dc, .int .i64 5] rfl) (bow_hid (HDT.out.below ((Below.refl _ _).alloc (Nat.le_refl _) _)) (fun b hb => Nat.lt_of_lt_of_le (LU.out b hb) LD2.out)) HLN.out (by show (bts S tx).length ≤ _; rw [bts_len]; have := HS9.out; omega) ?_; intro gV2 cp2 xE W9 K9 O9; have HW9 := hdH (W9); have HK9 := hdH (K9); have HO9 := hdH (O9); clear W9 K9 O9; clear r2 r6 r7 v0 v1 v2 v3 v4 o0 o1 o2 o3 o4 fc;  clear t11; have t12 := tR)
  | (have q10 := t10; (with_reducible refine at_store ?_); refine store_law1 _ x5.heap.size 4 (.int .i64 5) rfl rfl (HO.out.there1 4 (by simp)) (HO.out.free 4 (by simp)) one_errno.2 rfl rfl ?_; intro xB0 E9; have HDT := bow_one E9 LD.out HDT; have BC := below_one E9 BC; have HO : Hid (Vr xB0 x5.heap.size [.int .i64 1, .int .i64 tb, .int .i64 tp, .slice dq S dc, .int .i64 5]) := vr_one E9 HO (by simp); clear E9; clear r2 r6 r7 v0 v1 v2 v3 v4 o0 o1 o2 o3 o4 fc; obtain ⟨-, -, r2, -, -, -, r6, r7⟩ := nK8 (HC.out.below BC.out (nlt HC.out)); obtain ⟨v0, v1, v2, v3, v4⟩ := nK5 (HY.out.below BC.out (nlt HY.out)); obtain ⟨o0, o1, o2, o3, o4⟩ := nK5 HO.out; have fc := HFC.out xB0 (BB.out.trans (BC.out.mono BB.out.size));  clear t10; have t11 := tR)
  | (have q9 := t9; (with_reducible refine at_store ?_); refine store_law1 _ x5.heap.size 3 (.slice dq S dc) rfl rfl (HO.out.there1 3 (by simp)) (HO.out.free 3 (by simp)) one_bytes.2 rfl rfl ?_; intro xA E9; have HDT := bow_one E9 LD.out HDT; have BC := below_one E9 BC; have HO : Hid (Vr xA x5.heap.size [.int .i64 1, .int .i64 tb, .int .i64 tp, .slice dq S dc, .int .i64 0]) := vr_one E9 HO (by simp); clear E9; clear r2 r6 r7 v0 v1 v2 v3 v4 o0 o1 o2 o3 o4 fc; obtain ⟨-, -, r2, -, -, -, r6, r7⟩ := nK8 (HC.out.below BC.out (nlt HC.out)); obtain ⟨v0, v1, v2, v3, v4⟩ := nK5 (HY.out.below BC.out (nlt HY.out)); obtain ⟨o0, o1, o2, o3, o4⟩ := nK5 HO.out; have fc := HFC.out xA (BB.out.trans (BC.out.mono BB.out.size));  clear t9; have t10 := tR)
  | (have q8 := t8; go_at_call 25; refine (SB.out tx HX.out x8).mono ?_; rintro e9 x9 ⟨v9, rfl, y9, B9⟩; have y9 := bow_own y9 (bts_all S tx HX.out); obtain ⟨dq, dc, rfl⟩ := byt_form y9.1; rw [bts_len] at y9 ⊢; have HDT := hdH (y9); have LD : Hid (x5.heap.size < x8.heap.size) := range_lt HO.out.1 (Nat.succ_pos _); have LD2 : Hid (x5.heap.size ≤ x8.heap.size) := BC.out.size; have HO := hdH (HO.out.below B9 (range_lt HO.out.1 (Nat.succ_pos _))); have BC := bT BC B9; clear y9 B9; clear r2 r6 r7 v0 v1 v2 v3 v4 o0 o1 o2 o3 o4 fc; obtain ⟨-, -, r2, -, -, -, r6, r7⟩ := nK8 (HC.out.below BC.out (nlt HC.out)); obtain ⟨v0, v1, v2, v3, v4⟩ := nK5 (HY.out.below BC.out (nlt HY.out)); obtain ⟨o0, o1, o2, o3, o4⟩ := nK5 HO.out; have fc := HFC.out x9 (BB.out.trans (BC.out.mono BB.out.size));  clear t8; have t9 := tR)
  | (have q7 := t7; (with_reducible refine at_store ?_); refine store_lawC _ [.int .i64 tb, .int .i64 tp] x5.heap.size 1 rfl rfl (there_mid HO.out.2) rowy_place.2 (by simp [Value.oneCell']) ?_; intro x8 E8 R8 T8 B8; have HO : Hid (Vr x8 x5.heap.size [.int .i64 1, .int .i64 tb, .int .i64 tp, .slice none 0 0, .int .i64 0]) := (by rw [E8.out]; exact (HO.out.set 1 (by simp) _).set 2 (by simp) _); have BC := hdH (BC.out.trans B8); clear E8 R8 T8 B8; clear r2 r6 r7 v0 v1 v2 v3 v4 o0 o1 o2 o3 o4 fc; obtain ⟨-, -, r2, -, -, -, r6, r7⟩ := nK8 (HC.out.below BC.out (nlt HC.out)); obtain ⟨v0, v1, v2, v3, v4⟩ := nK5 (HY.out.below BC.out (nlt HY.out)); obtain ⟨o0, o1, o2, o3, o4⟩ := nK5 HO.out; have fc := HFC.out x8 (BB.out.trans (BC.out.mono BB.out.size));  clear t7; have t8 := tR)
  | (have q6 := t6; (with_reducible refine at_store ?_); refine store_lawC _ [.int .i64 1, .int .i64 tb, .int .i64 0, .slice none 0 0, .int .i64 0] x5.heap.size 0 rfl rfl HO.out.2 rowy_op.2 (by simp [Value.oneCell']) ?_; intro x7 E7 R7 T7 B7; have HO : Hid (Vr x7 x5.heap.size [.int .i64 1, .int .i64 tb, .int .i64 0, .slice none 0 0, .int .i64 0]) := ⟨R7, T7⟩; have BC := hdH (BC.out.trans B7); clear E7 R7 T7 B7; clear r2 r6 r7 v0 v1 v2 v3 v4 o0 o1 o2 o3 o4 fc; obtain ⟨-, -, r2, -, -, -, r6, r7⟩ := nK8 (HC.out.below BC.out (nlt HC.out)); obtain ⟨v0, v1, v2, v3, v4⟩ := nK5 (HY.out.below BC.out (nlt HY.out)); obtain ⟨o0, o1, o2, o3, o4⟩ := nK5 HO.out; have fc := HFC.out x7 (BB.out.trans (BC.out.mono BB.out.size));  clear t6; have t7 := tR)
  | (have q5 := t5; (with_reducible refine at_alloc ?_); refine new_lawC _ _ zero_op ?_; intro x6 V6 B6 l6; have HO := hdH (V6); have BC := hdH (B6); clear V6 B6 l6; clear r2 r6 r7 y0 y1 y2 y3 y4 y5 y6 y7 y8 y9 v0 v1 v2 v3 v4; obtain ⟨-, -, r2, -, -, -, r6, r7⟩ := nK8 (HC.out.below BC.out (nlt HC.out)); obtain ⟨v0, v1, v2, v3, v4⟩ := nK5 (HY.out.below BC.out (nlt HY.out)); obtain ⟨o0, o1, o2, o3, o4⟩ := nK5 HO.out; have fc := HFC.out x6 (BB.out.trans (BC.out.mono BB.out.size));  clear t5; have t6 := tR)
  | (have q4 := t4; (with_reducible refine at_store ?_); refine store_lawC _ (chr [(N : Int), P, g2, g3, g4, g5] (.slice bq2 N bc2) (.slice pq2 pn2 pd2) (off s2) n2) w6.heap.size 0 rfl rfl HW.out.2 rowy_chipR.2 chr_one ?_; intro x5 E8 R8 T8 B8; have K8 : x4.grownBy x5 (some w6.heap.size) := (by rw [E8.out]; exact keep_cells _ _ _ _); have HS2 := hdh (HS2.out.putE HNB.out HGM.out.2 (by simp [two]) K8); have HNB : Hid (NoB x5 w6.heap.size) := (by rw [E8.out]; exact HNB.out.set HW.out rfl chr_nobyte); have HWT := hdh (wnt_put HWT.out K8); have HC := hdh (HC.out.kept K8 (nlt HC.out) (by have := LZ.out; simp; omega)); have HY := hdh (HY.out.kept K8 (nlt HY.out) (by have := LGY.out; simp; omega)); have HW : Hid (Vr x5 w6.heap.size (chr [(N : Int), P, g2, g3, g4, g5] (.slice bq2 N bc2) (.slice pq2 pn2 pd2) (off s2) n2)) := ⟨R8, T8⟩; have BB := hdh (BB.out.trans (B8.mono (by have := LZ.out; omega))); have LU := hdh (LUF.out M' x5 HS2.out.mlt (nlt HW.out) HWT.out.2.2.2.2.1); clear E8 R8 T8 B8 K8; clear r2 r6 r7 y0 y1 y2 y3 y4 y5 y6 y7 y8 y9 v0 v1 v2 v3 v4; obtain ⟨-, -, r2, -, -, -, r6, r7⟩ := nK8 HC.out; obtain ⟨y0, y1, y2, y3, y4, y5, y6, y7, y8, y9⟩ := nK10 HW.out; obtain ⟨v0, v1, v2, v3, v4⟩ := nK5 HY.out;  clear t4; have t5 := tR)
  | (have q3 := t3; go_at_call 15; refine (step_nx HSH.out HI.out.1 (by have := HI.out.2; omega) (two_lt (Nat.lt_of_lt_of_le (nlt HW.out) BA.out.size) (Nat.lt_of_lt_of_le HWT.out.2.2.2.2.1 BA.out.size)) (HS.out.below BA.out) 1 tb tp tx HX.out ton HNX.out).mono ?_; rintro e9 x4 ⟨v9, rfl, M', v', rfl, S9, A9, F9⟩; obtain ⟨bq2, bc2, pq2, pn2, pd2, rfl⟩ := sim_form S9; rw [HN2.out] at S9; have HS2 := hdH (S9); have B9 := F9.below (Nat.le_trans (by have := LZ.out; have := (nlt HW.out); omega) BA.out.size) HG.out.1; have eW := F9.block (Nat.lt_of_lt_of_le (nlt HW.out) BA.out.size) HG.out.2; have eY := F9.block (nlt HY.out) (not_hid HS.out.mlt (Nat.le_refl _)); have HGM := hdh (hgm HG.out A9 LZ.out.2 (Nat.lt_of_lt_of_le (nlt HW.out) BA.out.size)); have HWT : Hid (Wnt M' w6.heap.size x4 w4.heap.size gV cp l) := wnt_run HWT.out BA.out F9.size A9 (fun k h1 h2 => F9.block h1 h2); have HNB := hdh ((HNB.out.heap (BA.out.block _ (nlt HW.out))).heap eW); have LGY := hdh (nlt HW.out); have HW := hdh ((HW.out.below BA.out (nlt HW.out)).heap eW); have HC := hdh ((HC.out.below BA.out (nlt HC.out)).below B9 LZ.out.1); have HY := hdh (HY.out.heap eY); have BB := hdh ((BB.out.trans (BA.out.mono BB.out.size)).trans (B9.mono (Nat.le_of_lt LZ.out.1))); clear S9 A9 F9 B9 eW eY BA HS; rw [HN2.out]; clear r2 r6 r7 y0 y1 y2 y3 y4 y5 y6 y7 y8 y9 v0 v1 v2 v3 v4; obtain ⟨-, -, r2, -, -, -, r6, r7⟩ := nK8 HC.out; obtain ⟨y0, y1, y2, y3, y4, y5, y6, y7, y8, y9⟩ := nK10 HW.out; obtain ⟨v0, v1, v2, v3, v4⟩ := nK5 HY.out;  clear t3; have t4 := tR)
  | (have q2 := t2; go_at_call 24; refine (SR.out x2 (BB.out.trans (BA.out.mono BB.out.size))).mono ?_; rintro e9 x3 ⟨rfl, B3⟩; have HY := hdH (HY.out.below B3 (nlt HY.out)); have BA := bT BA B3; clear B3; clear r2 r6 r7 y0 y1 y2 y3 y4 y5 y6 y7 y8 y9 v0 v1 v2 v3 v4; obtain ⟨-, -, r2, -, -, -, r6, r7⟩ := nK8 (HC.out.below BA.out (nlt HC.out)); obtain ⟨y0, y1, y2, y3, y4, y5, y6, y7, y8, y9⟩ := nK10 (HW.out.below BA.out (nlt HW.out)); obtain ⟨v0, v1, v2, v3, v4⟩ := nK5 HY.out;  clear t2; have t3 := tR)
  | (have q1 := t1; (with_reducible refine at_store ?_); refine store_lawC _ [.int .i64 1, .int .i64 tb, .int .i64 tp, .int .u8 tx, .bool ton] wr.heap.size 0 rfl rfl HY.out.2 rowy_step.2 (by simp [Value.oneCell']) ?_; intro x2 E2 A2 T2 B2; have HY : Hid (Vr x2 wr.heap.size [.int .i64 1, .int .i64 tb, .int .i64 tp, .int .u8 tx, .bool ton]) := ⟨A2, T2⟩; have BA := hdH (BA.out.trans B2); clear E2 A2 T2 B2; obtain ⟨-, -, r2, -, -, -, r6, r7⟩ := nK8 (HC.out.below BA.out (nlt HC.out)); obtain ⟨y0, y1, y2, y3, y4, y5, y6, y7, y8, y9⟩ := nK10 (HW.out.below BA.out (nlt HW.out)); obtain ⟨v0, v1, v2, v3, v4⟩ := nK5 HY.out;  clear t1; have t2 := tR)
  | (have q0 := t0; (with_reducible refine at_alloc ?_); refine new_lawC _ _ zero_step ?_; intro x1 V1 B1 l1; have HY := hdH (V1); have BA := hdH (B1); clear V1 B1 l1; clear e0 e1 e2 e3 e4 r2 r6 r7;  clear t0; have t1 := tR))
 have HS3 := hdh ((HS2.out.below BD.out).push (HWT.out.below BD.out) HK9.out HO9.out)
 have HNE := hdh (And.intro HWT.out.2.2.2.1 HWT.out.2.2.2.2.2.1)
 have HW3 := hdh ((HW.out.below BD.out (nlt HW.out)).kept HK9.out (Nat.lt_of_lt_of_le (nlt HW.out) BD.out.size) (by have := HNE.out; simp; omega))
 have HNB3 := hdh ((HNB.out.heap (BD.out.block _ (nlt HW.out))).heap (HK9.out.block _ (Nat.lt_of_lt_of_le (nlt HW.out) BD.out.size) (by have := HNE.out; simp; omega)))
 have HC3 := hdh ((HC.out.below BD.out (nlt HC.out)).kept HK9.out (Nat.lt_of_lt_of_le (nlt HC.out) BD.out.size) (by have := HNE.out; have := LZ.out; simp; omega))
 have BB3 := hdh ((BB.out.trans (BD.out.mono BB.out.size)).trans ((Below.refl w.heap.size _).grown HK9.out (Nat.le_trans BB.out.size BD.out.size) (fun j e => by have e := Option.some.inj e; have := HNE.out; have := LZ.out; omega)))
 have HN3 := HN2.out
 rw [← HN3] at HS3 HW3
 go_roundw
 case rel => exact ⟨k + 1, by omega, by omega, by go_num, M', s2, l2, bq2, bc2, pq2, pn2, pd2, gV2, cp2, by rw [HL2.out]; simp, HS3.out, HW3.out, HNB3.out, HC3.out, HI2.out, HOP.out, HGM.out.1, HGM.out.2, by rw [HL2.out]; exact HW9.out, BB3.out⟩
 case measure => simp [intOf]; omega
theorem trc_H : trc_S.2.2.2.1 := by
 intro N P S g2 g3 g4 g5 pc sc fs ms ts w HSH HS9 HSP HMK HK HGL SB SG SL zz0 w1 zz1 w2 zz2 w3 zz3 w4 zz4 w5 zz5 c r d q pv tv zz6 w6 zz7 zz8 zz9 w7 zz10 zz11 zz12 w8 zz13 zz14 LZ wr u8 u9 u10 u11 u47 u48 u49 u50 u51 u52 u53 u54 u55 u56 u57 u58 u59 u60 u61 u62 u63 u64 u65 u66 u67 u68 u69 u70 u71 u72 u73 u74 u75 u76 u77 u78 u79 u80 u81 u82 u83 u84 u85 u86 u87 u88 u89 u90 u91 u92 u93 u94 u95 u96 u97 u98 u99 u100 u101 u102 u103 u104 u105 u106 u107 u108 u109 u110 u111 u112 u113 u114 k hk hk2 M s l bq bc pq pn pd gV cp HS HW HNB HI HG HWT BB lk0 hlt' lk h20 lk2 sb sf HST r7 tk tb tp tx ton HX HRW s2 l2 HNX r2 e0 e1 e2 e3 e4 HI2 HOP HLN htb n2 HN2 hne LUF hgl hgu t pb pf HHT ht0 ht1 HF SU SN zz15 zz16 zz17 zz18 zz19 zz20 zz21 zz22 HC r6 SR hfl HFC HL2 hk1
 have t0 := tR
 go_wp2_with (first
  | (have q8 := t8; at_builtin; have BD : Hid (Below x5.heap.size x5 (xB0.alloc (.cells ([.int .i64 tk, .int .i64 tb, .int .i64 0, .slice none 0 0, .int .i64 5] : List Value).toArray 64))) := (BC.out.trans (((Below.refl _ _).alloc (Nat.le_refl _) _).mono BC.out.size)); refine pushW_law (xB0.alloc (.cells ([.int .i64 tk, .int .i64 tb, .int .i64 0, .slice none 0 0, .int .i64 5] : List Value).toArray 64)) (HWT.out.below BD.out) (Nat.le_trans (Nat.le_trans LZ.out.2 (Nat.le_of_lt (nlt HW.out))) BD.out.size) (HS2.out.below BD.out).mlt (Nat.lt_of_lt_of_le (nlt HW.out) BD.out.size) (opn tk tb 0 [] 5) (.slice none 0 0) ⟨xB0.heap.size, 0, none⟩ 1 rfl rfl (rws_op xB0 [.int .i64 tk, .int .i64 tb, .int .i64 0, .slice none 0 0, .int .i64 5] rfl) (Byt.nil _) HLN.out (Nat.zero_le _) ?_; intro gV2 cp2 xE W9 K9 O9; have HW9 := hdH (W9); have HK9 := hdH (K9); have HO9 := hdH (O9); clear W9 K9 O9; clear r2 r6 r7 v0 v1 v2 v3 v4 o0 o1 o2 o3 o4 fc;  clear t8; have t9 := tR)
  | (have q7 := t7; (with_reducible refine at_store ?_); refine store_law1 _ x5.heap.size 4 (.int .i64 5) rfl rfl (HO.out.there1 4 (by simp)) (HO.out.free 4 (by simp)) one_errno.2 rfl rfl ?_; intro xB0 E9; have BC := below_one E9 BC; have HO : Hid (Vr xB0 x5.heap.size [.int .i64 tk, .int .i64 tb, .int .i64 0, .slice none 0 0, .int .i64 5]) := vr_one E9 HO (by simp); clear E9; clear r2 r6 r7 v0 v1 v2 v3 v4 o0 o1 o2 o3 o4 fc; obtain ⟨-, -, r2, -, -, -, r6, r7⟩ := nK8 (HC.out.below BC.out (nlt HC.out)); obtain ⟨v0, v1, v2, v3, v4⟩ := nK5 (HY.out.below BC.out (nlt HY.out)); obtain ⟨o0, o1, o2, o3, o4⟩ := nK5 HO.out; have fc := HFC.out xB0 (BB.out.trans (BC.out.mono BB.out.size));  clear t7; have t8 := tR)
  | (have q6 := t6; (with_reducible refine at_store ?_); refine store_lawC _ [.int .i64 tk, .int .i64 tb, .int .i64 0, .slice none 0 0, .int .i64 0] x5.heap.size 0 rfl rfl HO.out.2 rowy_op.2 (by simp [Value.oneCell']) ?_; intro x7 E7 R7 T7 B7; have HO : Hid (Vr x7 x5.heap.size [.int .i64 tk, .int .i64 tb, .int .i64 0, .slice none 0 0, .int .i64 0]) := ⟨R7, T7⟩; have BC := hdH (BC.out.trans B7); clear E7 R7 T7 B7; clear r2 r6 r7 v0 v1 v2 v3 v4 o0 o1 o2 o3 o4 fc; obtain ⟨-, -, r2, -, -, -, r6, r7⟩ := nK8 (HC.out.below BC.out (nlt HC.out)); obtain ⟨v0, v1, v2, v3, v4⟩ := nK5 (HY.out.below BC.out (nlt HY.out)); obtain ⟨o0, o1, o2, o3, o4⟩ := nK5 HO.out; have fc := HFC.out x7 (BB.out.trans (BC.out.mono BB.out.size));  clear t6; have t7 := tR)
  | (have q5 := t5; (with_reducible refine at_alloc ?_); refine new_lawC _ _ zero_op ?_; intro x6 V6 B6 l6; have HO := hdH (V6); have BC := hdH (B6); clear V6 B6 l6; clear r2 r6 r7 y0 y1 y2 y3 y4 y5 y6 y7 y8 y9 v0 v1 v2 v3 v4; obtain ⟨-, -, r2, -, -, -, r6, r7⟩ := nK8 (HC.out.below BC.out (nlt HC.out)); obtain ⟨v0, v1, v2, v3, v4⟩ := nK5 (HY.out.below BC.out (nlt HY.out)); obtain ⟨o0, o1, o2, o3, o4⟩ := nK5 HO.out; have fc := HFC.out x6 (BB.out.trans (BC.out.mono BB.out.size));  clear t5; have t6 := tR)
  | (have q4 := t4; (with_reducible refine at_store ?_); refine store_lawC _ (chr [(N : Int), P, g2, g3, g4, g5] (.slice bq2 N bc2) (.slice pq2 pn2 pd2) (off s2) n2) w6.heap.size 0 rfl rfl HW.out.2 rowy_chipR.2 chr_one ?_; intro x5 E8 R8 T8 B8; have K8 : x4.grownBy x5 (some w6.heap.size) := (by rw [E8.out]; exact keep_cells _ _ _ _); have HS2 := hdh (HS2.out.putE HNB.out HGM.out.2 (by simp [two]) K8); have HNB : Hid (NoB x5 w6.heap.size) := (by rw [E8.out]; exact HNB.out.set HW.out rfl chr_nobyte); have HWT := hdh (wnt_put HWT.out K8); have HC := hdh (HC.out.kept K8 (nlt HC.out) (by have := LZ.out; simp; omega)); have HY := hdh (HY.out.kept K8 (nlt HY.out) (by have := LGY.out; simp; omega)); have HW : Hid (Vr x5 w6.heap.size (chr [(N : Int), P, g2, g3, g4, g5] (.slice bq2 N bc2) (.slice pq2 pn2 pd2) (off s2) n2)) := ⟨R8, T8⟩; have BB := hdh (BB.out.trans (B8.mono (by have := LZ.out; omega))); have LU := hdh (LUF.out M' x5 HS2.out.mlt (nlt HW.out) HWT.out.2.2.2.2.1); clear E8 R8 T8 B8 K8; clear r2 r6 r7 y0 y1 y2 y3 y4 y5 y6 y7 y8 y9 v0 v1 v2 v3 v4; obtain ⟨-, -, r2, -, -, -, r6, r7⟩ := nK8 HC.out; obtain ⟨y0, y1, y2, y3, y4, y5, y6, y7, y8, y9⟩ := nK10 HW.out; obtain ⟨v0, v1, v2, v3, v4⟩ := nK5 HY.out;  clear t4; have t5 := tR)
  | (have q3 := t3; go_at_call 15; refine (step_nx HSH.out HI.out.1 (by have := HI.out.2; omega) (two_lt (Nat.lt_of_lt_of_le (nlt HW.out) BA.out.size) (Nat.lt_of_lt_of_le HWT.out.2.2.2.2.1 BA.out.size)) (HS.out.below BA.out) tk tb tp tx HX.out ton HNX.out).mono ?_; rintro e9 x4 ⟨v9, rfl, M', v', rfl, S9, A9, F9⟩; obtain ⟨bq2, bc2, pq2, pn2, pd2, rfl⟩ := sim_form S9; rw [HN2.out] at S9; have HS2 := hdH (S9); have B9 := F9.below (Nat.le_trans (by have := LZ.out; have := (nlt HW.out); omega) BA.out.size) HG.out.1; have eW := F9.block (Nat.lt_of_lt_of_le (nlt HW.out) BA.out.size) HG.out.2; have eY := F9.block (nlt HY.out) (not_hid HS.out.mlt (Nat.le_refl _)); have HGM := hdh (hgm HG.out A9 LZ.out.2 (Nat.lt_of_lt_of_le (nlt HW.out) BA.out.size)); have HWT : Hid (Wnt M' w6.heap.size x4 w4.heap.size gV cp l) := wnt_run HWT.out BA.out F9.size A9 (fun k h1 h2 => F9.block h1 h2); have HNB := hdh ((HNB.out.heap (BA.out.block _ (nlt HW.out))).heap eW); have LGY := hdh (nlt HW.out); have HW := hdh ((HW.out.below BA.out (nlt HW.out)).heap eW); have HC := hdh ((HC.out.below BA.out (nlt HC.out)).below B9 LZ.out.1); have HY := hdh (HY.out.heap eY); have BB := hdh ((BB.out.trans (BA.out.mono BB.out.size)).trans (B9.mono (Nat.le_of_lt LZ.out.1))); clear S9 A9 F9 B9 eW eY BA HS; rw [HN2.out]; clear r2 r6 r7 y0 y1 y2 y3 y4 y5 y6 y7 y8 y9 v0 v1 v2 v3 v4; obtain ⟨-, -, r2, -, -, -, r6, r7⟩ := nK8 HC.out; obtain ⟨y0, y1, y2, y3, y4, y5, y6, y7, y8, y9⟩ := nK10 HW.out; obtain ⟨v0, v1, v2, v3, v4⟩ := nK5 HY.out;  clear t3; have t4 := tR)
  | (have q2 := t2; go_at_call 24; refine (SR.out x2 (BB.out.trans (BA.out.mono BB.out.size))).mono ?_; rintro e9 x3 ⟨rfl, B3⟩; have HY := hdH (HY.out.below B3 (nlt HY.out)); have BA := bT BA B3; clear B3; clear r2 r6 r7 y0 y1 y2 y3 y4 y5 y6 y7 y8 y9 v0 v1 v2 v3 v4; obtain ⟨-, -, r2, -, -, -, r6, r7⟩ := nK8 (HC.out.below BA.out (nlt HC.out)); obtain ⟨y0, y1, y2, y3, y4, y5, y6, y7, y8, y9⟩ := nK10 (HW.out.below BA.out (nlt HW.out)); obtain ⟨v0, v1, v2, v3, v4⟩ := nK5 HY.out;  clear t2; have t3 := tR)
  | (have q1 := t1; (with_reducible refine at_store ?_); refine store_lawC _ [.int .i64 tk, .int .i64 tb, .int .i64 tp, .int .u8 tx, .bool ton] wr.heap.size 0 rfl rfl HY.out.2 rowy_step.2 (by simp [Value.oneCell']) ?_; intro x2 E2 A2 T2 B2; have HY : Hid (Vr x2 wr.heap.size [.int .i64 tk, .int .i64 tb, .int .i64 tp, .int .u8 tx, .bool ton]) := ⟨A2, T2⟩; have BA := hdH (BA.out.trans B2); clear E2 A2 T2 B2; obtain ⟨-, -, r2, -, -, -, r6, r7⟩ := nK8 (HC.out.below BA.out (nlt HC.out)); obtain ⟨y0, y1, y2, y3, y4, y5, y6, y7, y8, y9⟩ := nK10 (HW.out.below BA.out (nlt HW.out)); obtain ⟨v0, v1, v2, v3, v4⟩ := nK5 HY.out;  clear t1; have t2 := tR)
  | (have q0 := t0; (with_reducible refine at_alloc ?_); refine new_lawC _ _ zero_step ?_; intro x1 V1 B1 l1; have HY := hdH (V1); have BA := hdH (B1); clear V1 B1 l1; clear e0 e1 e2 e3 e4 r2 r6 r7;  clear t0; have t1 := tR))
 have HS3 := hdh ((HS2.out.below BD.out).push (HWT.out.below BD.out) HK9.out HO9.out)
 have HNE := hdh (And.intro HWT.out.2.2.2.1 HWT.out.2.2.2.2.2.1)
 have HW3 := hdh ((HW.out.below BD.out (nlt HW.out)).kept HK9.out (Nat.lt_of_lt_of_le (nlt HW.out) BD.out.size) (by have := HNE.out; simp; omega))
 have HNB3 := hdh ((HNB.out.heap (BD.out.block _ (nlt HW.out))).heap (HK9.out.block _ (Nat.lt_of_lt_of_le (nlt HW.out) BD.out.size) (by have := HNE.out; simp; omega)))
 have HC3 := hdh ((HC.out.below BD.out (nlt HC.out)).kept HK9.out (Nat.lt_of_lt_of_le (nlt HC.out) BD.out.size) (by have := HNE.out; have := LZ.out; simp; omega))
 have BB3 := hdh ((BB.out.trans (BD.out.mono BB.out.size)).trans ((Below.refl w.heap.size _).grown HK9.out (Nat.le_trans BB.out.size BD.out.size) (fun j e => by have e := Option.some.inj e; have := HNE.out; have := LZ.out; omega)))
 have HN3 := HN2.out
 rw [← HN3] at HS3 HW3
 go_roundw
 case rel => exact ⟨k + 1, by omega, by omega, by go_num, M', s2, l2, bq2, bc2, pq2, pn2, pd2, gV2, cp2, by rw [HL2.out]; simp, HS3.out, HW3.out, HNB3.out, HC3.out, HI2.out, HOP.out, HGM.out.1, HGM.out.2, by rw [HL2.out]; exact HW9.out, BB3.out⟩
 case measure => simp [intOf]; omega
theorem trc_I : trc_S.2.2.2.2.1 := by
 intro N P S g2 g3 g4 g5 po pc sc fs ms ts w HSH HS9 HSP HF HMK HK HGL SB SG SU SL SN zz0 w1 zz1 w2 zz2 w3 zz3 w4 zz4 w5 zz5 c r d q pv tv zz6 w6 zz7 zz8 zz9 w7 zz10 zz11 zz12 w8 zz13 zz14 LZ wr u8 u9 u10 u11 u47 u48 u49 u50 u51 u52 u53 u54 u55 u56 u57 u58 u59 u60 u61 u62 u63 u64 u65 u66 u67 u68 u69 u70 u71 u72 u73 u74 u75 u76 u77 u78 u79 u80 u81 u82 u83 u84 u85 u86 u87 u88 u89 u90 u91 u92 u93 u94 u95 u96 u97 u98 u99 u100 u101 u102 u103 u104 u105 u106 u107 u108 u109 u110 u111 u112 u113 u114 k hk hk2 M s l bq bc pq pn pd gV cp HS HW HNB HI HG HWT BB lk0 hlt' lk h20 lk2 sb sf HST zz15 zz16 zz17 zz18 zz19 zz20 zz21 zz22 r7 tb tp tx ton s2 l2 HC r6 r2 e1 e2 e3 e4 HI2 HOP HLN htb n2 HN2 hne LUF hgl hgu HNO SR HX HRW HNX e0 htp htx HL2
 have t0 := tR
 go_wp2_with (first
  | (have q10 := t10; at_builtin; have BD : Hid (Below x5.heap.size x5 (xA.alloc (.cells ([.int .i64 1, .int .i64 tb, .int .i64 tp, .slice dq S dc, .int .i64 0] : List Value).toArray 64))) := (BC.out.trans (((Below.refl _ _).alloc (Nat.le_refl _) _).mono BC.out.size)); refine pushW_law (xA.alloc (.cells ([.int .i64 1, .int .i64 tb, .int .i64 tp, .slice dq S dc, .int .i64 0] : List Value).toArray 64)) (HWT.out.below BD.out) (Nat.le_trans (Nat.le_trans LZ.out.2 (Nat.le_of_lt (nlt HW.out))) BD.out.size) (HS2.out.below BD.out).mlt (Nat.lt_of_lt_of_le (nlt HW.out) BD.out.size) (opn 1 tb tp (bts S tx) 0) (.slice dq S dc) ⟨xA.heap.size, 0, none⟩ 1 rfl rfl (rws_op xA [.int .i64 1, .int .i64 tb, .int .i64 tp, .slice dq S dc, .int .i64 0] rfl) (bow_hid (HDT.out.below ((Below.refl _ _).alloc (Nat.le_refl _) _)) (fun b hb => Nat.lt_of_lt_of_le (LU.out b hb) LD2.out)) HLN.out (by show (bts S tx).length ≤ _; rw [bts_len]; have := HS9.out; omega) ?_; intro gV2 cp2 xE W9 K9 O9; have HW9 := hdH (W9); have HK9 := hdH (K9); have HO9 := hdH (O9); clear W9 K9 O9; clear r2 r6 r7 v0 v1 v2 v3 v4 o0 o1 o2 o3 o4;  clear t10; have t11 := tR)
  | (have q9 := t9; (with_reducible refine at_store ?_); refine store_law1 _ x5.heap.size 3 (.slice dq S dc) rfl rfl (HO.out.there1 3 (by simp)) (HO.out.free 3 (by simp)) one_bytes.2 rfl rfl ?_; intro xA E9; have HDT := bow_one E9 LD.out HDT; have BC := below_one E9 BC; have HO : Hid (Vr xA x5.heap.size [.int .i64 1, .int .i64 tb, .int .i64 tp, .slice dq S dc, .int .i64 0]) := vr_one E9 HO (by simp); clear E9; clear r2 r6 r7 v0 v1 v2 v3 v4 o0 o1 o2 o3 o4; obtain ⟨-, -, r2, -, -, -, r6, r7⟩ := nK8 (HC.out.below BC.out (nlt HC.out)); obtain ⟨v0, v1, v2, v3, v4⟩ := nK5 (HY.out.below BC.out (nlt HY.out)); obtain ⟨o0, o1, o2, o3, o4⟩ := nK5 HO.out;  clear t9; have t10 := tR)
  | (have q8 := t8; go_at_call 25; refine (SB.out tx HX.out x8).mono ?_; rintro e9 x9 ⟨v9, rfl, y9, B9⟩; have y9 := bow_own y9 (bts_all S tx HX.out); obtain ⟨dq, dc, rfl⟩ := byt_form y9.1; rw [bts_len] at y9 ⊢; have HDT := hdH (y9); have LD : Hid (x5.heap.size < x8.heap.size) := range_lt HO.out.1 (Nat.succ_pos _); have LD2 : Hid (x5.heap.size ≤ x8.heap.size) := BC.out.size; have HO := hdH (HO.out.below B9 (range_lt HO.out.1 (Nat.succ_pos _))); have BC := bT BC B9; clear y9 B9; clear r2 r6 r7 v0 v1 v2 v3 v4 o0 o1 o2 o3 o4; obtain ⟨-, -, r2, -, -, -, r6, r7⟩ := nK8 (HC.out.below BC.out (nlt HC.out)); obtain ⟨v0, v1, v2, v3, v4⟩ := nK5 (HY.out.below BC.out (nlt HY.out)); obtain ⟨o0, o1, o2, o3, o4⟩ := nK5 HO.out;  clear t8; have t9 := tR)
  | (have q7 := t7; (with_reducible refine at_store ?_); refine store_lawC _ [.int .i64 tb, .int .i64 tp] x5.heap.size 1 rfl rfl (there_mid HO.out.2) rowy_place.2 (by simp [Value.oneCell']) ?_; intro x8 E8 R8 T8 B8; have HO : Hid (Vr x8 x5.heap.size [.int .i64 1, .int .i64 tb, .int .i64 tp, .slice none 0 0, .int .i64 0]) := (by rw [E8.out]; exact (HO.out.set 1 (by simp) _).set 2 (by simp) _); have BC := hdH (BC.out.trans B8); clear E8 R8 T8 B8; clear r2 r6 r7 v0 v1 v2 v3 v4 o0 o1 o2 o3 o4; obtain ⟨-, -, r2, -, -, -, r6, r7⟩ := nK8 (HC.out.below BC.out (nlt HC.out)); obtain ⟨v0, v1, v2, v3, v4⟩ := nK5 (HY.out.below BC.out (nlt HY.out)); obtain ⟨o0, o1, o2, o3, o4⟩ := nK5 HO.out;  clear t7; have t8 := tR)
  | (have q6 := t6; (with_reducible refine at_store ?_); refine store_lawC _ [.int .i64 1, .int .i64 tb, .int .i64 0, .slice none 0 0, .int .i64 0] x5.heap.size 0 rfl rfl HO.out.2 rowy_op.2 (by simp [Value.oneCell']) ?_; intro x7 E7 R7 T7 B7; have HO : Hid (Vr x7 x5.heap.size [.int .i64 1, .int .i64 tb, .int .i64 0, .slice none 0 0, .int .i64 0]) := ⟨R7, T7⟩; have BC := hdH (BC.out.trans B7); clear E7 R7 T7 B7; clear r2 r6 r7 v0 v1 v2 v3 v4 o0 o1 o2 o3 o4; obtain ⟨-, -, r2, -, -, -, r6, r7⟩ := nK8 (HC.out.below BC.out (nlt HC.out)); obtain ⟨v0, v1, v2, v3, v4⟩ := nK5 (HY.out.below BC.out (nlt HY.out)); obtain ⟨o0, o1, o2, o3, o4⟩ := nK5 HO.out;  clear t6; have t7 := tR)
  | (have q5 := t5; (with_reducible refine at_alloc ?_); refine new_lawC _ _ zero_op ?_; intro x6 V6 B6 l6; have HO := hdH (V6); have BC := hdH (B6); clear V6 B6 l6; clear r2 r6 r7 y0 y1 y2 y3 y4 y5 y6 y7 y8 y9 v0 v1 v2 v3 v4; obtain ⟨-, -, r2, -, -, -, r6, r7⟩ := nK8 (HC.out.below BC.out (nlt HC.out)); obtain ⟨v0, v1, v2, v3, v4⟩ := nK5 (HY.out.below BC.out (nlt HY.out)); obtain ⟨o0, o1, o2, o3, o4⟩ := nK5 HO.out;  clear t5; have t6 := tR)
  | (have q4 := t4; (with_reducible refine at_store ?_); refine store_lawC _ (chr [(N : Int), P, g2, g3, g4, g5] (.slice bq2 N bc2) (.slice pq2 pn2 pd2) (off s2) n2) w6.heap.size 0 rfl rfl HW.out.2 rowy_chipR.2 chr_one ?_; intro x5 E8 R8 T8 B8; have K8 : x4.grownBy x5 (some w6.heap.size) := (by rw [E8.out]; exact keep_cells _ _ _ _); have HS2 := hdh (HS2.out.putE HNB.out HGM.out.2 (by simp [two]) K8); have HNB : Hid (NoB x5 w6.heap.size) := (by rw [E8.out]; exact HNB.out.set HW.out rfl chr_nobyte); have HWT := hdh (wnt_put HWT.out K8); have HC := hdh (HC.out.kept K8 (nlt HC.out) (by have := LZ.out; simp; omega)); have HY := hdh (HY.out.kept K8 (nlt HY.out) (by have := LGY.out; simp; omega)); have HW : Hid (Vr x5 w6.heap.size (chr [(N : Int), P, g2, g3, g4, g5] (.slice bq2 N bc2) (.slice pq2 pn2 pd2) (off s2) n2)) := ⟨R8, T8⟩; have BB := hdh (BB.out.trans (B8.mono (by have := LZ.out; omega))); have LU := hdh (LUF.out M' x5 HS2.out.mlt (nlt HW.out) HWT.out.2.2.2.2.1); clear E8 R8 T8 B8 K8; clear r2 r6 r7 y0 y1 y2 y3 y4 y5 y6 y7 y8 y9 v0 v1 v2 v3 v4; obtain ⟨-, -, r2, -, -, -, r6, r7⟩ := nK8 HC.out; obtain ⟨y0, y1, y2, y3, y4, y5, y6, y7, y8, y9⟩ := nK10 HW.out; obtain ⟨v0, v1, v2, v3, v4⟩ := nK5 HY.out;  clear t4; have t5 := tR)
  | (have q3 := t3; go_at_call 15; refine (step_nx HSH.out HI.out.1 (by have := HI.out.2; omega) (two_lt (Nat.lt_of_lt_of_le (nlt HW.out) BA.out.size) (Nat.lt_of_lt_of_le HWT.out.2.2.2.2.1 BA.out.size)) (HS.out.below BA.out) 1 tb tp tx HX.out ton HNX.out).mono ?_; rintro e9 x4 ⟨v9, rfl, M', v', rfl, S9, A9, F9⟩; obtain ⟨bq2, bc2, pq2, pn2, pd2, rfl⟩ := sim_form S9; rw [HN2.out] at S9; have HS2 := hdH (S9); have B9 := F9.below (Nat.le_trans (by have := LZ.out; have := (nlt HW.out); omega) BA.out.size) HG.out.1; have eW := F9.block (Nat.lt_of_lt_of_le (nlt HW.out) BA.out.size) HG.out.2; have eY := F9.block (nlt HY.out) (not_hid HS.out.mlt (Nat.le_refl _)); have HGM := hdh (hgm HG.out A9 LZ.out.2 (Nat.lt_of_lt_of_le (nlt HW.out) BA.out.size)); have HWT : Hid (Wnt M' w6.heap.size x4 w4.heap.size gV cp l) := wnt_run HWT.out BA.out F9.size A9 (fun k h1 h2 => F9.block h1 h2); have HNB := hdh ((HNB.out.heap (BA.out.block _ (nlt HW.out))).heap eW); have LGY := hdh (nlt HW.out); have HW := hdh ((HW.out.below BA.out (nlt HW.out)).heap eW); have HC := hdh ((HC.out.below BA.out (nlt HC.out)).below B9 LZ.out.1); have HY := hdh (HY.out.heap eY); have BB := hdh ((BB.out.trans (BA.out.mono BB.out.size)).trans (B9.mono (Nat.le_of_lt LZ.out.1))); clear S9 A9 F9 B9 eW eY BA HS; rw [HN2.out]; clear r2 r6 r7 y0 y1 y2 y3 y4 y5 y6 y7 y8 y9 v0 v1 v2 v3 v4; obtain ⟨-, -, r2, -, -, -, r6, r7⟩ := nK8 HC.out; obtain ⟨y0, y1, y2, y3, y4, y5, y6, y7, y8, y9⟩ := nK10 HW.out; obtain ⟨v0, v1, v2, v3, v4⟩ := nK5 HY.out;  clear t3; have t4 := tR)
  | (have q2 := t2; go_at_call 24; refine (SR.out x2 (BB.out.trans (BA.out.mono BB.out.size))).mono ?_; rintro e9 x3 ⟨rfl, B3⟩; have HY := hdH (HY.out.below B3 (nlt HY.out)); have BA := bT BA B3; clear B3; clear r2 r6 r7 y0 y1 y2 y3 y4 y5 y6 y7 y8 y9 v0 v1 v2 v3 v4; obtain ⟨-, -, r2, -, -, -, r6, r7⟩ := nK8 (HC.out.below BA.out (nlt HC.out)); obtain ⟨y0, y1, y2, y3, y4, y5, y6, y7, y8, y9⟩ := nK10 (HW.out.below BA.out (nlt HW.out)); obtain ⟨v0, v1, v2, v3, v4⟩ := nK5 HY.out;  clear t2; have t3 := tR)
  | (have q1 := t1; (with_reducible refine at_store ?_); refine store_lawC _ [.int .i64 1, .int .i64 tb, .int .i64 tp, .int .u8 tx, .bool ton] wr.heap.size 0 rfl rfl HY.out.2 rowy_step.2 (by simp [Value.oneCell']) ?_; intro x2 E2 A2 T2 B2; have HY : Hid (Vr x2 wr.heap.size [.int .i64 1, .int .i64 tb, .int .i64 tp, .int .u8 tx, .bool ton]) := ⟨A2, T2⟩; have BA := hdH (BA.out.trans B2); clear E2 A2 T2 B2; obtain ⟨-, -, r2, -, -, -, r6, r7⟩ := nK8 (HC.out.below BA.out (nlt HC.out)); obtain ⟨y0, y1, y2, y3, y4, y5, y6, y7, y8, y9⟩ := nK10 (HW.out.below BA.out (nlt HW.out)); obtain ⟨v0, v1, v2, v3, v4⟩ := nK5 HY.out;  clear t1; have t2 := tR)
  | (have q0 := t0; (with_reducible refine at_alloc ?_); refine new_lawC _ _ zero_step ?_; intro x1 V1 B1 l1; have HY := hdH (V1); have BA := hdH (B1); clear V1 B1 l1; clear e0 e1 e2 e3 e4 r2 r6 r7;  clear t0; have t1 := tR))
 have HS3 := hdh ((HS2.out.below BD.out).push (HWT.out.below BD.out) HK9.out HO9.out)
 have HNE := hdh (And.intro HWT.out.2.2.2.1 HWT.out.2.2.2.2.2.1)
 have HW3 := hdh ((HW.out.below BD.out (nlt HW.out)).kept HK9.out (Nat.lt_of_lt_of_le (nlt HW.out) BD.out.size) (by have := HNE.out; simp; omega))
 have HNB3 := hdh ((HNB.out.heap (BD.out.block _ (nlt HW.out))).heap (HK9.out.block _ (Nat.lt_of_lt_of_le (nlt HW.out) BD.out.size) (by have := HNE.out; simp; omega)))
 have HC3 := hdh ((HC.out.below BD.out (nlt HC.out)).kept HK9.out (Nat.lt_of_lt_of_le (nlt HC.out) BD.out.size) (by have := HNE.out; have := LZ.out; simp; omega))
 have BB3 := hdh ((BB.out.trans (BD.out.mono BB.out.size)).trans ((Below.refl w.heap.size _).grown HK9.out (Nat.le_trans BB.out.size BD.out.size) (fun j e => by have e := Option.some.inj e; have := HNE.out; have := LZ.out; omega)))
 have HN3 := HN2.out
 rw [← HN3] at HS3 HW3
 go_roundw
 case rel => exact ⟨k + 1, by omega, by omega, by go_num, M', s2, l2, bq2, bc2, pq2, pn2, pd2, gV2, cp2, by rw [HL2.out]; simp, HS3.out, HW3.out, HNB3.out, HC3.out, HI2.out, HOP.out, HGM.out.1, HGM.out.2, by rw [HL2.out]; exact HW9.out, BB3.out⟩
 case measure => simp [intOf]; omega
theorem trc_J : trc_S.2.2.2.2.2.1 := by
 intro N P S g2 g3 g4 g5 po pc sc fs ms ts w HSH HS9 HSP HF HMK HK HGL SB SG SU SL SN zz0 w1 zz1 w2 zz2 w3 zz3 w4 zz4 w5 zz5 c r d q pv tv zz6 w6 zz7 zz8 zz9 w7 zz10 zz11 zz12 w8 zz13 zz14 LZ wr u8 u9 u10 u11 u47 u48 u49 u50 u51 u52 u53 u54 u55 u56 u57 u58 u59 u60 u61 u62 u63 u64 u65 u66 u67 u68 u69 u70 u71 u72 u73 u74 u75 u76 u77 u78 u79 u80 u81 u82 u83 u84 u85 u86 u87 u88 u89 u90 u91 u92 u93 u94 u95 u96 u97 u98 u99 u100 u101 u102 u103 u104 u105 u106 u107 u108 u109 u110 u111 u112 u113 u114 k hk hk2 M s l bq bc pq pn pd gV cp HS HW HNB HI HG HWT BB lk0 hlt' lk h20 lk2 sb sf HST zz15 zz16 zz17 zz18 zz19 zz20 zz21 zz22 r7 tk tb tp tx ton HX HRW s2 l2 HNX HC r6 r2 e0 e1 e2 e3 e4 HI2 HOP HLN htb n2 HN2 hne LUF hgl hgu HNO SR HL2 hk1
 have t0 := tR
 go_wp2_with (first
  | (have q7 := t7; at_builtin; have BD : Hid (Below x5.heap.size x5 (x7.alloc (.cells ([.int .i64 tk, .int .i64 tb, .int .i64 0, .slice none 0 0, .int .i64 0] : List Value).toArray 64))) := (BC.out.trans (((Below.refl _ _).alloc (Nat.le_refl _) _).mono BC.out.size)); refine pushW_law (x7.alloc (.cells ([.int .i64 tk, .int .i64 tb, .int .i64 0, .slice none 0 0, .int .i64 0] : List Value).toArray 64)) (HWT.out.below BD.out) (Nat.le_trans (Nat.le_trans LZ.out.2 (Nat.le_of_lt (nlt HW.out))) BD.out.size) (HS2.out.below BD.out).mlt (Nat.lt_of_lt_of_le (nlt HW.out) BD.out.size) (opn tk tb 0 [] 0) (.slice none 0 0) ⟨x7.heap.size, 0, none⟩ 1 rfl rfl (rws_op x7 [.int .i64 tk, .int .i64 tb, .int .i64 0, .slice none 0 0, .int .i64 0] rfl) (Byt.nil _) HLN.out (Nat.zero_le _) ?_; intro gV2 cp2 xE W9 K9 O9; have HW9 := hdH (W9); have HK9 := hdH (K9); have HO9 := hdH (O9); clear W9 K9 O9; clear r2 r6 r7 v0 v1 v2 v3 v4 o0 o1 o2 o3 o4;  clear t7; have t8 := tR)
  | (have q6 := t6; (with_reducible refine at_store ?_); refine store_lawC _ [.int .i64 tk, .int .i64 tb, .int .i64 0, .slice none 0 0, .int .i64 0] x5.heap.size 0 rfl rfl HO.out.2 rowy_op.2 (by simp [Value.oneCell']) ?_; intro x7 E7 R7 T7 B7; have HO : Hid (Vr x7 x5.heap.size [.int .i64 tk, .int .i64 tb, .int .i64 0, .slice none 0 0, .int .i64 0]) := ⟨R7, T7⟩; have BC := hdH (BC.out.trans B7); clear E7 R7 T7 B7; clear r2 r6 r7 v0 v1 v2 v3 v4 o0 o1 o2 o3 o4; obtain ⟨-, -, r2, -, -, -, r6, r7⟩ := nK8 (HC.out.below BC.out (nlt HC.out)); obtain ⟨v0, v1, v2, v3, v4⟩ := nK5 (HY.out.below BC.out (nlt HY.out)); obtain ⟨o0, o1, o2, o3, o4⟩ := nK5 HO.out;  clear t6; have t7 := tR)
  | (have q5 := t5; (with_reducible refine at_alloc ?_); refine new_lawC _ _ zero_op ?_; intro x6 V6 B6 l6; have HO := hdH (V6); have BC := hdH (B6); clear V6 B6 l6; clear r2 r6 r7 y0 y1 y2 y3 y4 y5 y6 y7 y8 y9 v0 v1 v2 v3 v4; obtain ⟨-, -, r2, -, -, -, r6, r7⟩ := nK8 (HC.out.below BC.out (nlt HC.out)); obtain ⟨v0, v1, v2, v3, v4⟩ := nK5 (HY.out.below BC.out (nlt HY.out)); obtain ⟨o0, o1, o2, o3, o4⟩ := nK5 HO.out;  clear t5; have t6 := tR)
  | (have q4 := t4; (with_reducible refine at_store ?_); refine store_lawC _ (chr [(N : Int), P, g2, g3, g4, g5] (.slice bq2 N bc2) (.slice pq2 pn2 pd2) (off s2) n2) w6.heap.size 0 rfl rfl HW.out.2 rowy_chipR.2 chr_one ?_; intro x5 E8 R8 T8 B8; have K8 : x4.grownBy x5 (some w6.heap.size) := (by rw [E8.out]; exact keep_cells _ _ _ _); have HS2 := hdh (HS2.out.putE HNB.out HGM.out.2 (by simp [two]) K8); have HNB : Hid (NoB x5 w6.heap.size) := (by rw [E8.out]; exact HNB.out.set HW.out rfl chr_nobyte); have HWT := hdh (wnt_put HWT.out K8); have HC := hdh (HC.out.kept K8 (nlt HC.out) (by have := LZ.out; simp; omega)); have HY := hdh (HY.out.kept K8 (nlt HY.out) (by have := LGY.out; simp; omega)); have HW : Hid (Vr x5 w6.heap.size (chr [(N : Int), P, g2, g3, g4, g5] (.slice bq2 N bc2) (.slice pq2 pn2 pd2) (off s2) n2)) := ⟨R8, T8⟩; have BB := hdh (BB.out.trans (B8.mono (by have := LZ.out; omega))); have LU := hdh (LUF.out M' x5 HS2.out.mlt (nlt HW.out) HWT.out.2.2.2.2.1); clear E8 R8 T8 B8 K8; clear r2 r6 r7 y0 y1 y2 y3 y4 y5 y6 y7 y8 y9 v0 v1 v2 v3 v4; obtain ⟨-, -, r2, -, -, -, r6, r7⟩ := nK8 HC.out; obtain ⟨y0, y1, y2, y3, y4, y5, y6, y7, y8, y9⟩ := nK10 HW.out; obtain ⟨v0, v1, v2, v3, v4⟩ := nK5 HY.out;  clear t4; have t5 := tR)
  | (have q3 := t3; go_at_call 15; refine (step_nx HSH.out HI.out.1 (by have := HI.out.2; omega) (two_lt (Nat.lt_of_lt_of_le (nlt HW.out) BA.out.size) (Nat.lt_of_lt_of_le HWT.out.2.2.2.2.1 BA.out.size)) (HS.out.below BA.out) tk tb tp tx HX.out ton HNX.out).mono ?_; rintro e9 x4 ⟨v9, rfl, M', v', rfl, S9, A9, F9⟩; obtain ⟨bq2, bc2, pq2, pn2, pd2, rfl⟩ := sim_form S9; rw [HN2.out] at S9; have HS2 := hdH (S9); have B9 := F9.below (Nat.le_trans (by have := LZ.out; have := (nlt HW.out); omega) BA.out.size) HG.out.1; have eW := F9.block (Nat.lt_of_lt_of_le (nlt HW.out) BA.out.size) HG.out.2; have eY := F9.block (nlt HY.out) (not_hid HS.out.mlt (Nat.le_refl _)); have HGM := hdh (hgm HG.out A9 LZ.out.2 (Nat.lt_of_lt_of_le (nlt HW.out) BA.out.size)); have HWT : Hid (Wnt M' w6.heap.size x4 w4.heap.size gV cp l) := wnt_run HWT.out BA.out F9.size A9 (fun k h1 h2 => F9.block h1 h2); have HNB := hdh ((HNB.out.heap (BA.out.block _ (nlt HW.out))).heap eW); have LGY := hdh (nlt HW.out); have HW := hdh ((HW.out.below BA.out (nlt HW.out)).heap eW); have HC := hdh ((HC.out.below BA.out (nlt HC.out)).below B9 LZ.out.1); have HY := hdh (HY.out.heap eY); have BB := hdh ((BB.out.trans (BA.out.mono BB.out.size)).trans (B9.mono (Nat.le_of_lt LZ.out.1))); clear S9 A9 F9 B9 eW eY BA HS; rw [HN2.out]; clear r2 r6 r7 y0 y1 y2 y3 y4 y5 y6 y7 y8 y9 v0 v1 v2 v3 v4; obtain ⟨-, -, r2, -, -, -, r6, r7⟩ := nK8 HC.out; obtain ⟨y0, y1, y2, y3, y4, y5, y6, y7, y8, y9⟩ := nK10 HW.out; obtain ⟨v0, v1, v2, v3, v4⟩ := nK5 HY.out;  clear t3; have t4 := tR)
  | (have q2 := t2; go_at_call 24; refine (SR.out x2 (BB.out.trans (BA.out.mono BB.out.size))).mono ?_; rintro e9 x3 ⟨rfl, B3⟩; have HY := hdH (HY.out.below B3 (nlt HY.out)); have BA := bT BA B3; clear B3; clear r2 r6 r7 y0 y1 y2 y3 y4 y5 y6 y7 y8 y9 v0 v1 v2 v3 v4; obtain ⟨-, -, r2, -, -, -, r6, r7⟩ := nK8 (HC.out.below BA.out (nlt HC.out)); obtain ⟨y0, y1, y2, y3, y4, y5, y6, y7, y8, y9⟩ := nK10 (HW.out.below BA.out (nlt HW.out)); obtain ⟨v0, v1, v2, v3, v4⟩ := nK5 HY.out;  clear t2; have t3 := tR)
  | (have q1 := t1; (with_reducible refine at_store ?_); refine store_lawC _ [.int .i64 tk, .int .i64 tb, .int .i64 tp, .int .u8 tx, .bool ton] wr.heap.size 0 rfl rfl HY.out.2 rowy_step.2 (by simp [Value.oneCell']) ?_; intro x2 E2 A2 T2 B2; have HY : Hid (Vr x2 wr.heap.size [.int .i64 tk, .int .i64 tb, .int .i64 tp, .int .u8 tx, .bool ton]) := ⟨A2, T2⟩; have BA := hdH (BA.out.trans B2); clear E2 A2 T2 B2; obtain ⟨-, -, r2, -, -, -, r6, r7⟩ := nK8 (HC.out.below BA.out (nlt HC.out)); obtain ⟨y0, y1, y2, y3, y4, y5, y6, y7, y8, y9⟩ := nK10 (HW.out.below BA.out (nlt HW.out)); obtain ⟨v0, v1, v2, v3, v4⟩ := nK5 HY.out;  clear t1; have t2 := tR)
  | (have q0 := t0; (with_reducible refine at_alloc ?_); refine new_lawC _ _ zero_step ?_; intro x1 V1 B1 l1; have HY := hdH (V1); have BA := hdH (B1); clear V1 B1 l1; clear e0 e1 e2 e3 e4 r2 r6 r7;  clear t0; have t1 := tR))
 have HS3 := hdh ((HS2.out.below BD.out).push (HWT.out.below BD.out) HK9.out HO9.out)
 have HNE := hdh (And.intro HWT.out.2.2.2.1 HWT.out.2.2.2.2.2.1)
 have HW3 := hdh ((HW.out.below BD.out (nlt HW.out)).kept HK9.out (Nat.lt_of_lt_of_le (nlt HW.out) BD.out.size) (by have := HNE.out; simp; omega))
 have HNB3 := hdh ((HNB.out.heap (BD.out.block _ (nlt HW.out))).heap (HK9.out.block _ (Nat.lt_of_lt_of_le (nlt HW.out) BD.out.size) (by have := HNE.out; simp; omega)))
 have HC3 := hdh ((HC.out.below BD.out (nlt HC.out)).kept HK9.out (Nat.lt_of_lt_of_le (nlt HC.out) BD.out.size) (by have := HNE.out; have := LZ.out; simp; omega))
 have BB3 := hdh ((BB.out.trans (BD.out.mono BB.out.size)).trans ((Below.refl w.heap.size _).grown HK9.out (Nat.le_trans BB.out.size BD.out.size) (fun j e => by have e := Option.some.inj e; have := HNE.out; have := LZ.out; omega)))
 have HN3 := HN2.out
 rw [← HN3] at HS3 HW3
 go_roundw
 case rel => exact ⟨k + 1, by omega, by omega, by go_num, M', s2, l2, bq2, bc2, pq2, pn2, pd2, gV2, cp2, by rw [HL2.out]; simp, HS3.out, HW3.out, HNB3.out, HC3.out, HI2.out, HOP.out, HGM.out.1, HGM.out.2, by rw [HL2.out]; exact HW9.out, BB3.out⟩
 case measure => simp [intOf]; omega
theorem trc_K : trc_S.2.2.2.2.2.2.1 := by
 intro N P S g2 g3 g4 g5 po so pc sc fs ms ts w HSH HS9 HSP HF HMK HK HST HGL SB SG SU SL SN zz0 w1 zz1 zz2 w2 zz3 zz4 w3 zz5 zz6 w4 zz7 zz8 w5 zz9 c r d q pv tv zz10 zz11 w6 zz12 zz13 zz14 zz15 w7 zz16 zz17 zz18 zz19 w8 zz20 zz21 LZ wr u8 u9 u10 u11 u47 u48 u49 u50 u51 u52 u53 u54 u55 u56 u57 u58 u59 u60 u61 u62 u63 u64 u65 u66 u67 u68 u69 u70 u71 u72 u73 u74 u75 u76 u77 u78 u79 u80 u81 u82 u83 u84 u85 u86 u87 u88 u89 u90 u91 u92 u93 u94 u95 u96 u97 u98 u99 u100 u101 u102 u103 u104 u105 u106 u107 u108 u109 u110 u111 u112 u113 u114 k hk hk2 M s l bq bc pq pn pd gV cp HS HW HNB HC HI HG HWT BB r7 lk0 hlt' lk h20 lk2
 have t0 := tR
 have HLN : Hid (l.length ≤ 1000) := (by have h1 := HI.out.1.2.2.1; have h2 := HI.out.2; show _ ≤ _; omega)
 have HT2 : Hid (Two2 l) := HI.out.1.2.2.2.1
 have ST := hdh (sim_trace HS.out HLN.out HWT.out.2.2.2.2.2.2)
 have t0 := tR
 go_wp2_with (first
  | (have q0 := t0; go_at_call 26; refine ST.out.mono ?_; rintro e9 y1 ⟨v9, rfl, O9, B9⟩; obtain ⟨vo, vc, rfl⟩ := opr_form O9; have HV := hdH (O9); have HQ : Hid (Opr y1 (.slice (some ⟨gV, 0, none⟩) l.length cp) l) := HWT.out.opr.below B9; have BB1 := bT BB B9; clear O9 B9 t0))
 have hl9 : (l.length : Int) ≤ 1000 := by have := HLN.out; omega
 go_loopw [13] (fun i wq => ∃ j : Nat, j ≤ l.length ∧ i = .int .i64 (j : Int) ∧ Hid (Below y1.heap.size y1 wq)) (fun i _ => l.length - (intOf i).toNat)
 case atStart => exact ⟨0, Nat.zero_le _, rfl, Below.refl _ _⟩
 case round =>
  obtain ⟨j, hj, rfl, HQB⟩ := hrel
  have j0 : (0 : Int) ≤ (j : Int) := by omega
  by_cases hjl : j < l.length
  ·have j1 : (j : Int) < (l.length : Int) := by omega
   obtain ⟨vb, vf, dv, hvo, rv⟩ := opr_all HV.out (by omega)
   obtain ⟨qb, qf, dq, hqo, rq⟩ := opr_all HQ.out (by omega)
   injection hqo with hqo; injection hqo with hq1 hq2 _; subst hq1; subst hq2; subst hvo
   obtain ⟨fr, fd⟩ := rv j hjl _ HQB.out
   obtain ⟨qr, qd⟩ := rq j hjl _ HQB.out
   obtain ⟨⟨x0, x1, x2, xd, x4⟩, ho⟩ : ∃ o, gO l j = o := ⟨_, rfl⟩
   have HE := hdH (ho)
   rw [ho] at fr fd qr qd
   obtain ⟨ma, mc, hm1⟩ := byt_form fd
   obtain ⟨na', nc, hm2⟩ := byt_form qd
   rw [hm1] at fr fd; rw [hm2, Nat.zero_add] at qr; rw [hm2] at qd
   have f0 : wr.cell? ⟨vb, vf + j * 5, none⟩ = some (.int .i64 x0) := fr 0 _ rfl
   have f1 : wr.cell? ⟨vb, vf + j * 5 + 1, none⟩ = some (.int .i64 x1) := fr 1 _ rfl
   have f2 : wr.cell? ⟨vb, vf + j * 5 + 2, none⟩ = some (.int .i64 x2) := fr 2 _ rfl
   have f3 : wr.cell? ⟨vb, vf + j * 5 + 3, none⟩ = some (.slice ma xd.length mc) := fr 3 _ rfl
   have f4 : wr.cell? ⟨vb, vf + j * 5 + 4, none⟩ = some (.int .i64 x4) := fr 4 _ rfl
   have p0 : wr.cell? ⟨gV, j * 5, none⟩ = some (.int .i64 x0) := qr 0 _ rfl
   have p1 : wr.cell? ⟨gV, j * 5 + 1, none⟩ = some (.int .i64 x1) := qr 1 _ rfl
   have p2 : wr.cell? ⟨gV, j * 5 + 2, none⟩ = some (.int .i64 x2) := qr 2 _ rfl
   have p3 : wr.cell? ⟨gV, j * 5 + 3, none⟩ = some (.slice na' xd.length nc) := qr 3 _ rfl
   have p4 : wr.cell? ⟨gV, j * 5 + 4, none⟩ = some (.int .i64 x4) := qr 4 _ rfl
   have TS : Hid (∀ m, Calls Try.prog 19 #[.slice ma xd.length mc, .slice na' xd.length nc] (wr.drewN m) fun e w' => e = .returned (.bool true) ∧ ∃ k, w' = (wr.drewN m).drewN k) := fun m => (same_any _ _ _ xd xd (fd.below (below_drawn (Below.refl _ _) m)) (qd.below (below_drawn (Below.refl _ _) m))).mono fun _ _ ⟨h1, h2⟩ => ⟨by rw [h1, decide_eq_true rfl], h2⟩
   have RV := hdH (rv)
   clear rv rq fr fd qr qd ho hm1 hm2
   go_wp2
   go_quiet ((go_at_call 19; exact Calls.quiet_of (TS.out _)))
   have HQC : Hid (Below y1.heap.size y1 (wr.drewN nq)) := below_drawn HQB.out nq
   obtain ⟨wc, hwc⟩ : ∃ x, x = wr.drewN nq := ⟨_, rfl⟩
   rw [← hwc] at HQC ⊢
   clear hwc TS f0 f1 f2 f3 f4 p0 p1 p2 p3 p4 HQB
   go_wp2
   go_loopw [14, 15] (fun c14 i wz => ∃ m : Nat, m ≤ j + 1 ∧ i = .int .i64 (m : Int) ∧ c14 = .int .i64 (cnts (l.take m) x1 x2) ∧ Hid (Below y1.heap.size y1 wz)) (fun _ i _ => j + 1 - (intOf i).toNat)
   case atStart => exact ⟨0, Nat.zero_le _, rfl, rfl, HQC⟩
   case round =>
    clear HQC
    obtain ⟨m, hm, rfl, rfl, HQZ⟩ := hrel
    have hb9 := cnts_le x1 x2 l m (by omega)
    obtain ⟨cc, hcc⟩ : ∃ cc, cnts (l.take m) x1 x2 = cc := ⟨_, rfl⟩
    rw [hcc] at hb9 ⊢
    have c0 : 0 ≤ cc := hb9.1
    have c1 : cc ≤ 1000 := by have := hb9.2; omega
    have m0 : (0 : Int) ≤ (m : Int) := by omega
    obtain ⟨wz, hwz⟩ : ∃ x, x = wr := ⟨_, rfl⟩
    rw [← hwz] at HQZ ⊢
    have FJ := (RV.out j hjl _ HQZ.out).1
    rw [HE.out] at FJ
    have f0 : wz.cell? ⟨vb, vf + j * 5, none⟩ = some (.int .i64 x0) := FJ 0 _ rfl
    have f1 : wz.cell? ⟨vb, vf + j * 5 + 1, none⟩ = some (.int .i64 x1) := FJ 1 _ rfl
    have f2 : wz.cell? ⟨vb, vf + j * 5 + 2, none⟩ = some (.int .i64 x2) := FJ 2 _ rfl
    clear hb9 FJ hwz
    by_cases hmj : m ≤ j
    ·have m1 : (m : Int) ≤ (j : Int) := by omega
     have m2 : (m : Int) < (l.length : Int) := by omega
     have hstep : cnts (l.take (m + 1)) x1 x2 = cnt x1 x2 cc (gO l m) := by rw [cnts_take (by omega), hcc]
     have GM := (RV.out m (by omega) _ HQZ.out).1
     obtain ⟨⟨z0, z1, z2, zd, z4⟩, hz⟩ : ∃ o, gO l m = o := ⟨_, rfl⟩
     rw [hz] at hstep GM
     have g0' : wz.cell? ⟨vb, vf + m * 5, none⟩ = some (.int .i64 z0) := GM 0 _ rfl
     have g1' : wz.cell? ⟨vb, vf + m * 5 + 1, none⟩ = some (.int .i64 z1) := GM 1 _ rfl
     have g2' : wz.cell? ⟨vb, vf + m * 5 + 2, none⟩ = some (.int .i64 z2) := GM 2 _ rfl
     have g4' : wz.cell? ⟨vb, vf + m * 5 + 4, none⟩ = some (.int .i64 z4) := GM 4 _ rfl
     clear GM hz hcc
     by_cases h2 : z0 = 2
     ·subst h2
      by_cases h4 : z4 = 0
      ·subst h4
       by_cases h1 : z1 = x1
       ·have h1' := h1.symm; subst h1'; clear h1
        have hs9 : cnts (l.take (m + 1)) x1 x2 = 0 := (by rw [hstep]; simp [cnt])
        have HS9' := hdH (hs9)
        clear hstep hs9
        have fz : Fz wz vb (vf + j * 5) (vf + m * 5) x0 x1 x2 2 x1 z2 0 := ⟨f0, f1, f2, g0', g1', g2', g4'⟩
        go_wp2
        go_quiet (fail)
        obtain ⟨wy, hwy, HQY, fy⟩ := fz_drawn HQZ fz nq
        rw [hwy]; clear hwy f0 f1 f2 g0' g1' g2' g4' HQZ fz
        obtain ⟨f0, f1, f2, g0', g1', g2', g4'⟩ := id fy
        obtain ⟨wz, rfl⟩ : ∃ x, x = wy := ⟨_, rfl⟩; have HQZ := HQY; have fz := fy; clear HQY fy
        go_wp2
        go_quiet (fail)
        obtain ⟨wy, hwy, HQY, fy⟩ := fz_drawn HQZ fz nq
        rw [hwy]; clear hwy f0 f1 f2 g0' g1' g2' g4' HQZ fz
        obtain ⟨f0, f1, f2, g0', g1', g2', g4'⟩ := id fy
        clear fy; have HQZ := HQY; clear HQY
        go_wp2
        go_roundw
        case rel => exact ⟨m + 1, by omega, by go_num, by rw [HS9'.out], HQZ⟩
        case measure => simp [intOf]; omega
       ·skip
        have hs9 : cnts (l.take (m + 1)) x1 x2 = cc := (by rw [hstep]; simp [cnt, h1])
        have HS9' := hdH (hs9)
        clear hstep hs9
        have fz : Fz wz vb (vf + j * 5) (vf + m * 5) x0 x1 x2 2 z1 z2 0 := ⟨f0, f1, f2, g0', g1', g2', g4'⟩
        go_wp2
        go_quiet (fail)
        obtain ⟨wy, hwy, HQY, fy⟩ := fz_drawn HQZ fz nq
        rw [hwy]; clear hwy f0 f1 f2 g0' g1' g2' g4' HQZ fz
        obtain ⟨f0, f1, f2, g0', g1', g2', g4'⟩ := id fy
        obtain ⟨wz, rfl⟩ : ∃ x, x = wy := ⟨_, rfl⟩; have HQZ := HQY; have fz := fy; clear HQY fy
        go_wp2
        go_quiet (fail)
        obtain ⟨wy, hwy, HQY, fy⟩ := fz_drawn HQZ fz nq
        rw [hwy]; clear hwy f0 f1 f2 g0' g1' g2' g4' HQZ fz
        obtain ⟨f0, f1, f2, g0', g1', g2', g4'⟩ := id fy
        clear fy; have HQZ := HQY; clear HQY
        go_wp2
        go_roundw
        case rel => exact ⟨m + 1, by omega, by go_num, by rw [HS9'.out], HQZ⟩
        case measure => simp [intOf]; omega
      ·have d4 : decide (z4 = 0) = false := by simp [h4]
       have d5 : (z4 == 0) = false := by simp [h4]
       have hs9 : cnts (l.take (m + 1)) x1 x2 = cc := (by rw [hstep]; simp [cnt, h4])
       have HS9' := hdH (hs9)
       clear hstep hs9
       have fz : Fz wz vb (vf + j * 5) (vf + m * 5) x0 x1 x2 2 z1 z2 z4 := ⟨f0, f1, f2, g0', g1', g2', g4'⟩
       go_wp2
       go_quiet (fail)
       obtain ⟨wy, hwy, HQY, fy⟩ := fz_drawn HQZ fz nq
       rw [hwy]; clear hwy f0 f1 f2 g0' g1' g2' g4' HQZ fz
       obtain ⟨f0, f1, f2, g0', g1', g2', g4'⟩ := id fy
       obtain ⟨wz, rfl⟩ : ∃ x, x = wy := ⟨_, rfl⟩; have HQZ := HQY; have fz := fy; clear HQY fy
       go_wp2
       go_quiet (fail)
       obtain ⟨wy, hwy, HQY, fy⟩ := fz_drawn HQZ fz nq
       rw [hwy]; clear hwy f0 f1 f2 g0' g1' g2' g4' HQZ fz
       obtain ⟨f0, f1, f2, g0', g1', g2', g4'⟩ := id fy
       clear fy; have HQZ := HQY; clear HQY
       go_wp2
       go_roundw
       case rel => exact ⟨m + 1, by omega, by go_num, by rw [HS9'.out], HQZ⟩
       case measure => simp [intOf]; omega
     ·by_cases h0 : z0 = 1
      ·subst h0
       by_cases hp : z1 = x1 ∧ z2 = x2
       ·obtain ⟨hp1, hp2⟩ := hp; have hp1 := hp1.symm; have hp2 := hp2.symm; subst hp1; subst hp2
        have hs9 : cnts (l.take (m + 1)) x1 x2 = cc + 1 := (by rw [hstep]; simp [cnt])
        have HS9' := hdH (hs9)
        clear hstep hs9
        have fz : Fz wz vb (vf + j * 5) (vf + m * 5) x0 x1 x2 1 x1 x2 z4 := ⟨f0, f1, f2, g0', g1', g2', g4'⟩
        go_wp2
        go_quiet (fail)
        obtain ⟨wy, hwy, HQY, fy⟩ := fz_drawn HQZ fz nq
        rw [hwy]; clear hwy f0 f1 f2 g0' g1' g2' g4' HQZ fz
        obtain ⟨f0, f1, f2, g0', g1', g2', g4'⟩ := id fy
        obtain ⟨wz, rfl⟩ : ∃ x, x = wy := ⟨_, rfl⟩; have HQZ := HQY; have fz := fy; clear HQY fy
        go_wp2
        go_quiet (fail)
        obtain ⟨wy, hwy, HQY, fy⟩ := fz_drawn HQZ fz nq
        rw [hwy]; clear hwy f0 f1 f2 g0' g1' g2' g4' HQZ fz
        obtain ⟨f0, f1, f2, g0', g1', g2', g4'⟩ := id fy
        clear fy; have HQZ := HQY; clear HQY
        go_wp2
        go_roundw
        case rel => exact ⟨m + 1, by omega, by go_num, by rw [HS9'.out], HQZ⟩
        case measure => simp [intOf]; omega
       ·have pe : ∀ w : World, (binOp .eql 43 (.agg #[.int .i64 z1, .int .i64 z2]) (.agg #[.int .i64 x1, .int .i64 x2])).run Try.prog w = .ok (.bool false) w := fun w => eql_place hp w
        have hs9 : cnts (l.take (m + 1)) x1 x2 = cc := (by rw [hstep]; simp only [cnt]; rw [if_neg (by simp), if_neg (fun q => hp q.2)]; omega)
        have HS9' := hdH (hs9)
        clear hstep hs9
        have fz : Fz wz vb (vf + j * 5) (vf + m * 5) x0 x1 x2 1 z1 z2 z4 := ⟨f0, f1, f2, g0', g1', g2', g4'⟩
        go_wp2
        go_quiet (fail)
        obtain ⟨wy, hwy, HQY, fy⟩ := fz_drawn HQZ fz nq
        rw [hwy]; clear hwy f0 f1 f2 g0' g1' g2' g4' HQZ fz
        obtain ⟨f0, f1, f2, g0', g1', g2', g4'⟩ := id fy
        obtain ⟨wz, rfl⟩ : ∃ x, x = wy := ⟨_, rfl⟩; have HQZ := HQY; have fz := fy; clear HQY fy
        go_wp2
        go_quiet (fail)
        obtain ⟨wy, hwy, HQY, fy⟩ := fz_drawn HQZ fz nq
        rw [hwy]; clear hwy f0 f1 f2 g0' g1' g2' g4' HQZ fz
        obtain ⟨f0, f1, f2, g0', g1', g2', g4'⟩ := id fy
        clear fy; have HQZ := HQY; clear HQY
        go_wp2
        go_roundw
        case rel => exact ⟨m + 1, by omega, by go_num, by rw [HS9'.out], HQZ⟩
        case measure => simp [intOf]; omega
      ·have d4 : decide (z0 = 2) = false := by simp [h2]
       have d5 : (z0 == 2) = false := by simp [h2]
       have d6 : decide (z0 = 1) = false := by simp [h0]
       have d7 : (z0 == 1) = false := by simp [h0]
       have hs9 : cnts (l.take (m + 1)) x1 x2 = cc := (by rw [hstep]; simp [cnt, h2, h0])
       have HS9' := hdH (hs9)
       clear hstep hs9
       have fz : Fz wz vb (vf + j * 5) (vf + m * 5) x0 x1 x2 z0 z1 z2 z4 := ⟨f0, f1, f2, g0', g1', g2', g4'⟩
       go_wp2
       go_quiet (fail)
       obtain ⟨wy, hwy, HQY, fy⟩ := fz_drawn HQZ fz nq
       rw [hwy]; clear hwy f0 f1 f2 g0' g1' g2' g4' HQZ fz
       obtain ⟨f0, f1, f2, g0', g1', g2', g4'⟩ := id fy
       obtain ⟨wz, rfl⟩ : ∃ x, x = wy := ⟨_, rfl⟩; have HQZ := HQY; have fz := fy; clear HQY fy
       go_wp2
       go_quiet (fail)
       obtain ⟨wy, hwy, HQY, fy⟩ := fz_drawn HQZ fz nq
       rw [hwy]; clear hwy f0 f1 f2 g0' g1' g2' g4' HQZ fz
       obtain ⟨f0, f1, f2, g0', g1', g2', g4'⟩ := id fy
       clear fy; have HQZ := HQY; clear HQY
       go_wp2
       go_roundw
       case rel => exact ⟨m + 1, by omega, by go_num, by rw [HS9'.out], HQZ⟩
       case measure => simp [intOf]; omega
    ·have hnm : ¬ ((m : Int) ≤ (j : Int)) := by omega
     have e9 : m = j + 1 := by omega
     by_cases h0 : x0 = 1
     ·have hc2 : cc ≤ 2 := by have h9 := two2_at HT2.out hjl (by rw [HE.out]; exact h0); rw [HE.out] at h9; rw [← hcc, e9]; exact h9
      have hc3 : ¬ (2 < cc) := by omega
      subst h0
      clear hcc e9 f1 f2
      go_wp2
      go_roundw
      case rel => exact ⟨j + 1, by omega, by go_num, HQZ⟩
      case measure => simp [intOf]; omega
     ·clear hcc e9 f1 f2
      go_wp2
      go_roundw
      case rel => exact ⟨j + 1, by omega, by go_num, HQZ⟩
      case measure => simp [intOf]; omega
  ·have jn : ¬ ((j : Int) < (l.length : Int)) := by omega
   have t0 := tR
   go_wp2_with (first
    | (have q0 := t0; go_at_call 11; refine (awake_any _).mono ?_; rintro e9 wz ⟨rfl, Bz⟩; have BBz : Hid (Below w.heap.size w wz) := (BB1.out.trans (HQB.out.mono BB1.out.size)).trans (Bz.mono (BB1.out.trans (HQB.out.mono BB1.out.size)).size); clear Bz t0))
   go_ret
   exact ⟨rfl, BBz.out⟩
theorem trc_L : trc_S.2.2.2.2.2.2.2.1 := by
 intro N P S g2 g3 g4 g5 po so pc sc fs ms ts w HSH HS9 HSP HF HMK HK HST HGL SB SG SU SL SN zz0 w1 zz1 zz2 w2 zz3 zz4 w3 zz5 zz6 w4 zz7 zz8 w5 zz9 c r d q pv tv zz10 zz11 w6 zz12 zz13 zz14 zz15 w7 zz16 zz17 zz18 zz19 w8 zz20 zz21 LZ wr u8 u9 u10 u11 u47 u48 u49 u50 u51 u52 u53 u54 u55 u56 u57 u58 u59 u60 u61 u62 u63 u64 u65 u66 u67 u68 u69 u70 u71 u72 u73 u74 u75 u76 u77 u78 u79 u80 u81 u82 u83 u84 u85 u86 u87 u88 u89 u90 u91 u92 u93 u94 u95 u96 u97 u98 u99 u100 u101 u102 u103 u104 u105 u106 u107 u108 u109 u110 u111 u112 u113 u114 k hk hk2 M s l bq bc pq pn pd gV cp HS HW HNB HC HI HG HWT BB r7 lk0 hlt' lk
 have t0 := tR
 have HLN : Hid (l.length ≤ 1000) := (by have h1 := HI.out.1.2.2.1; have h2 := HI.out.2; show _ ≤ _; omega)
 have HT2 : Hid (Two2 l) := HI.out.1.2.2.2.1
 have ST := hdh (sim_trace HS.out HLN.out HWT.out.2.2.2.2.2.2)
 have t0 := tR
 go_wp2_with (first
  | (have q0 := t0; go_at_call 26; refine ST.out.mono ?_; rintro e9 y1 ⟨v9, rfl, O9, B9⟩; obtain ⟨vo, vc, rfl⟩ := opr_form O9; have HV := hdH (O9); have HQ : Hid (Opr y1 (.slice (some ⟨gV, 0, none⟩) l.length cp) l) := HWT.out.opr.below B9; have BB1 := bT BB B9; clear O9 B9 t0))
 have hl9 : (l.length : Int) ≤ 1000 := by have := HLN.out; omega
 go_loopw [13] (fun i wq => ∃ j : Nat, j ≤ l.length ∧ i = .int .i64 (j : Int) ∧ Hid (Below y1.heap.size y1 wq)) (fun i _ => l.length - (intOf i).toNat)
 case atStart => exact ⟨0, Nat.zero_le _, rfl, Below.refl _ _⟩
 case round =>
  obtain ⟨j, hj, rfl, HQB⟩ := hrel
  have j0 : (0 : Int) ≤ (j : Int) := by omega
  by_cases hjl : j < l.length
  ·have j1 : (j : Int) < (l.length : Int) := by omega
   obtain ⟨vb, vf, dv, hvo, rv⟩ := opr_all HV.out (by omega)
   obtain ⟨qb, qf, dq, hqo, rq⟩ := opr_all HQ.out (by omega)
   injection hqo with hqo; injection hqo with hq1 hq2 _; subst hq1; subst hq2; subst hvo
   obtain ⟨fr, fd⟩ := rv j hjl _ HQB.out
   obtain ⟨qr, qd⟩ := rq j hjl _ HQB.out
   obtain ⟨⟨x0, x1, x2, xd, x4⟩, ho⟩ : ∃ o, gO l j = o := ⟨_, rfl⟩
   have HE := hdH (ho)
   rw [ho] at fr fd qr qd
   obtain ⟨ma, mc, hm1⟩ := byt_form fd
   obtain ⟨na', nc, hm2⟩ := byt_form qd
   rw [hm1] at fr fd; rw [hm2, Nat.zero_add] at qr; rw [hm2] at qd
   have f0 : wr.cell? ⟨vb, vf + j * 5, none⟩ = some (.int .i64 x0) := fr 0 _ rfl
   have f1 : wr.cell? ⟨vb, vf + j * 5 + 1, none⟩ = some (.int .i64 x1) := fr 1 _ rfl
   have f2 : wr.cell? ⟨vb, vf + j * 5 + 2, none⟩ = some (.int .i64 x2) := fr 2 _ rfl
   have f3 : wr.cell? ⟨vb, vf + j * 5 + 3, none⟩ = some (.slice ma xd.length mc) := fr 3 _ rfl
   have f4 : wr.cell? ⟨vb, vf + j * 5 + 4, none⟩ = some (.int .i64 x4) := fr 4 _ rfl
   have p0 : wr.cell? ⟨gV, j * 5, none⟩ = some (.int .i64 x0) := qr 0 _ rfl
   have p1 : wr.cell? ⟨gV, j * 5 + 1, none⟩ = some (.int .i64 x1) := qr 1 _ rfl
   have p2 : wr.cell? ⟨gV, j * 5 + 2, none⟩ = some (.int .i64 x2) := qr 2 _ rfl
   have p3 : wr.cell? ⟨gV, j * 5 + 3, none⟩ = some (.slice na' xd.length nc) := qr 3 _ rfl
   have p4 : wr.cell? ⟨gV, j * 5 + 4, none⟩ = some (.int .i64 x4) := qr 4 _ rfl
   have TS : Hid (∀ m, Calls Try.prog 19 #[.slice ma xd.length mc, .slice na' xd.length nc] (wr.drewN m) fun e w' => e = .returned (.bool true) ∧ ∃ k, w' = (wr.drewN m).drewN k) := fun m => (same_any _ _ _ xd xd (fd.below (below_drawn (Below.refl _ _) m)) (qd.below (below_drawn (Below.refl _ _) m))).mono fun _ _ ⟨h1, h2⟩ => ⟨by rw [h1, decide_eq_true rfl], h2⟩
   have RV := hdH (rv)
   clear rv rq fr fd qr qd ho hm1 hm2
   go_wp2
   go_quiet ((go_at_call 19; exact Calls.quiet_of (TS.out _)))
   have HQC : Hid (Below y1.heap.size y1 (wr.drewN nq)) := below_drawn HQB.out nq
   obtain ⟨wc, hwc⟩ : ∃ x, x = wr.drewN nq := ⟨_, rfl⟩
   rw [← hwc] at HQC ⊢
   clear hwc TS f0 f1 f2 f3 f4 p0 p1 p2 p3 p4 HQB
   go_wp2
   go_loopw [14, 15] (fun c14 i wz => ∃ m : Nat, m ≤ j + 1 ∧ i = .int .i64 (m : Int) ∧ c14 = .int .i64 (cnts (l.take m) x1 x2) ∧ Hid (Below y1.heap.size y1 wz)) (fun _ i _ => j + 1 - (intOf i).toNat)
   case atStart => exact ⟨0, Nat.zero_le _, rfl, rfl, HQC⟩
   case round =>
    clear HQC
    obtain ⟨m, hm, rfl, rfl, HQZ⟩ := hrel
    have hb9 := cnts_le x1 x2 l m (by omega)
    obtain ⟨cc, hcc⟩ : ∃ cc, cnts (l.take m) x1 x2 = cc := ⟨_, rfl⟩
    rw [hcc] at hb9 ⊢
    have c0 : 0 ≤ cc := hb9.1
    have c1 : cc ≤ 1000 := by have := hb9.2; omega
    have m0 : (0 : Int) ≤ (m : Int) := by omega
    obtain ⟨wz, hwz⟩ : ∃ x, x = wr := ⟨_, rfl⟩
    rw [← hwz] at HQZ ⊢
    have FJ := (RV.out j hjl _ HQZ.out).1
    rw [HE.out] at FJ
    have f0 : wz.cell? ⟨vb, vf + j * 5, none⟩ = some (.int .i64 x0) := FJ 0 _ rfl
    have f1 : wz.cell? ⟨vb, vf + j * 5 + 1, none⟩ = some (.int .i64 x1) := FJ 1 _ rfl
    have f2 : wz.cell? ⟨vb, vf + j * 5 + 2, none⟩ = some (.int .i64 x2) := FJ 2 _ rfl
    clear hb9 FJ hwz
    by_cases hmj : m ≤ j
    ·have m1 : (m : Int) ≤ (j : Int) := by omega
     have m2 : (m : Int) < (l.length : Int) := by omega
     have hstep : cnts (l.take (m + 1)) x1 x2 = cnt x1 x2 cc (gO l m) := by rw [cnts_take (by omega), hcc]
     have GM := (RV.out m (by omega) _ HQZ.out).1
     obtain ⟨⟨z0, z1, z2, zd, z4⟩, hz⟩ : ∃ o, gO l m = o := ⟨_, rfl⟩
     rw [hz] at hstep GM
     have g0' : wz.cell? ⟨vb, vf + m * 5, none⟩ = some (.int .i64 z0) := GM 0 _ rfl
     have g1' : wz.cell? ⟨vb, vf + m * 5 + 1, none⟩ = some (.int .i64 z1) := GM 1 _ rfl
     have g2' : wz.cell? ⟨vb, vf + m * 5 + 2, none⟩ = some (.int .i64 z2) := GM 2 _ rfl
     have g4' : wz.cell? ⟨vb, vf + m * 5 + 4, none⟩ = some (.int .i64 z4) := GM 4 _ rfl
     clear GM hz hcc
     by_cases h2 : z0 = 2
     ·subst h2
      by_cases h4 : z4 = 0
      ·subst h4
       by_cases h1 : z1 = x1
       ·have h1' := h1.symm; subst h1'; clear h1
        have hs9 : cnts (l.take (m + 1)) x1 x2 = 0 := (by rw [hstep]; simp [cnt])
        have HS9' := hdH (hs9)
        clear hstep hs9
        have fz : Fz wz vb (vf + j * 5) (vf + m * 5) x0 x1 x2 2 x1 z2 0 := ⟨f0, f1, f2, g0', g1', g2', g4'⟩
        go_wp2
        go_quiet (fail)
        obtain ⟨wy, hwy, HQY, fy⟩ := fz_drawn HQZ fz nq
        rw [hwy]; clear hwy f0 f1 f2 g0' g1' g2' g4' HQZ fz
        obtain ⟨f0, f1, f2, g0', g1', g2', g4'⟩ := id fy
        obtain ⟨wz, rfl⟩ : ∃ x, x = wy := ⟨_, rfl⟩; have HQZ := HQY; have fz := fy; clear HQY fy
        go_wp2
        go_quiet (fail)
        obtain ⟨wy, hwy, HQY, fy⟩ := fz_drawn HQZ fz nq
        rw [hwy]; clear hwy f0 f1 f2 g0' g1' g2' g4' HQZ fz
        obtain ⟨f0, f1, f2, g0', g1', g2', g4'⟩ := id fy
        clear fy; have HQZ := HQY; clear HQY
        go_wp2
        go_roundw
        case rel => exact ⟨m + 1, by omega, by go_num, by rw [HS9'.out], HQZ⟩
        case measure => simp [intOf]; omega
       ·skip
        have hs9 : cnts (l.take (m + 1)) x1 x2 = cc := (by rw [hstep]; simp [cnt, h1])
        have HS9' := hdH (hs9)
        clear hstep hs9
        have fz : Fz wz vb (vf + j * 5) (vf + m * 5) x0 x1 x2 2 z1 z2 0 := ⟨f0, f1, f2, g0', g1', g2', g4'⟩
        go_wp2
        go_quiet (fail)
        obtain ⟨wy, hwy, HQY, fy⟩ := fz_drawn HQZ fz nq
        rw [hwy]; clear hwy f0 f1 f2 g0' g1' g2' g4' HQZ fz
        obtain ⟨f0, f1, f2, g0', g1', g2', g4'⟩ := id fy
        obtain ⟨wz, rfl⟩ : ∃ x, x = wy := ⟨_, rfl⟩; have HQZ := HQY; have fz := fy; clear HQY fy
        go_wp2
        go_quiet (fail)
        obtain ⟨wy, hwy, HQY, fy⟩ := fz_drawn HQZ fz nq
        rw [hwy]; clear hwy f0 f1 f2 g0' g1' g2' g4' HQZ fz
        obtain ⟨f0, f1, f2, g0', g1', g2', g4'⟩ := id fy
        clear fy; have HQZ := HQY; clear HQY
        go_wp2
        go_roundw
        case rel => exact ⟨m + 1, by omega, by go_num, by rw [HS9'.out], HQZ⟩
        case measure => simp [intOf]; omega
      ·have d4 : decide (z4 = 0) = false := by simp [h4]
       have d5 : (z4 == 0) = false := by simp [h4]
       have hs9 : cnts (l.take (m + 1)) x1 x2 = cc := (by rw [hstep]; simp [cnt, h4])
       have HS9' := hdH (hs9)
       clear hstep hs9
       have fz : Fz wz vb (vf + j * 5) (vf + m * 5) x0 x1 x2 2 z1 z2 z4 := ⟨f0, f1, f2, g0', g1', g2', g4'⟩
       go_wp2
       go_quiet (fail)
       obtain ⟨wy, hwy, HQY, fy⟩ := fz_drawn HQZ fz nq
       rw [hwy]; clear hwy f0 f1 f2 g0' g1' g2' g4' HQZ fz
       obtain ⟨f0, f1, f2, g0', g1', g2', g4'⟩ := id fy
       obtain ⟨wz, rfl⟩ : ∃ x, x = wy := ⟨_, rfl⟩; have HQZ := HQY; have fz := fy; clear HQY fy
       go_wp2
       go_quiet (fail)
       obtain ⟨wy, hwy, HQY, fy⟩ := fz_drawn HQZ fz nq
       rw [hwy]; clear hwy f0 f1 f2 g0' g1' g2' g4' HQZ fz
       obtain ⟨f0, f1, f2, g0', g1', g2', g4'⟩ := id fy
       clear fy; have HQZ := HQY; clear HQY
       go_wp2
       go_roundw
       case rel => exact ⟨m + 1, by omega, by go_num, by rw [HS9'.out], HQZ⟩
       case measure => simp [intOf]; omega
     ·by_cases h0 : z0 = 1
      ·subst h0
       by_cases hp : z1 = x1 ∧ z2 = x2
       ·obtain ⟨hp1, hp2⟩ := hp; have hp1 := hp1.symm; have hp2 := hp2.symm; subst hp1; subst hp2
        have hs9 : cnts (l.take (m + 1)) x1 x2 = cc + 1 := (by rw [hstep]; simp [cnt])
        have HS9' := hdH (hs9)
        clear hstep hs9
        have fz : Fz wz vb (vf + j * 5) (vf + m * 5) x0 x1 x2 1 x1 x2 z4 := ⟨f0, f1, f2, g0', g1', g2', g4'⟩
        go_wp2
        go_quiet (fail)
        obtain ⟨wy, hwy, HQY, fy⟩ := fz_drawn HQZ fz nq
        rw [hwy]; clear hwy f0 f1 f2 g0' g1' g2' g4' HQZ fz
        obtain ⟨f0, f1, f2, g0', g1', g2', g4'⟩ := id fy
        obtain ⟨wz, rfl⟩ : ∃ x, x = wy := ⟨_, rfl⟩; have HQZ := HQY; have fz := fy; clear HQY fy
        go_wp2
        go_quiet (fail)
        obtain ⟨wy, hwy, HQY, fy⟩ := fz_drawn HQZ fz nq
        rw [hwy]; clear hwy f0 f1 f2 g0' g1' g2' g4' HQZ fz
        obtain ⟨f0, f1, f2, g0', g1', g2', g4'⟩ := id fy
        clear fy; have HQZ := HQY; clear HQY
        go_wp2
        go_roundw
        case rel => exact ⟨m + 1, by omega, by go_num, by rw [HS9'.out], HQZ⟩
        case measure => simp [intOf]; omega
       ·have pe : ∀ w : World, (binOp .eql 43 (.agg #[.int .i64 z1, .int .i64 z2]) (.agg #[.int .i64 x1, .int .i64 x2])).run Try.prog w = .ok (.bool false) w := fun w => eql_place hp w
        have hs9 : cnts (l.take (m + 1)) x1 x2 = cc := (by rw [hstep]; simp only [cnt]; rw [if_neg (by simp), if_neg (fun q => hp q.2)]; omega)
        have HS9' := hdH (hs9)
        clear hstep hs9
        have fz : Fz wz vb (vf + j * 5) (vf + m * 5) x0 x1 x2 1 z1 z2 z4 := ⟨f0, f1, f2, g0', g1', g2', g4'⟩
        go_wp2
        go_quiet (fail)
        obtain ⟨wy, hwy, HQY, fy⟩ := fz_drawn HQZ fz nq
        rw [hwy]; clear hwy f0 f1 f2 g0' g1' g2' g4' HQZ fz
        obtain ⟨f0, f1, f2, g0', g1', g2', g4'⟩ := id fy
        obtain ⟨wz, rfl⟩ : ∃ x, x = wy := ⟨_, rfl⟩; have HQZ := HQY; have fz := fy; clear HQY fy
        go_wp2
        go_quiet (fail)
        obtain ⟨wy, hwy, HQY, fy⟩ := fz_drawn HQZ fz nq
        rw [hwy]; clear hwy f0 f1 f2 g0' g1' g2' g4' HQZ fz
        obtain ⟨f0, f1, f2, g0', g1', g2', g4'⟩ := id fy
        clear fy; have HQZ := HQY; clear HQY
        go_wp2
        go_roundw
        case rel => exact ⟨m + 1, by omega, by go_num, by rw [HS9'.out], HQZ⟩
        case measure => simp [intOf]; omega
      ·have d4 : decide (z0 = 2) = false := by simp [h2]
       have d5 : (z0 == 2) = false := by simp [h2]
       have d6 : decide (z0 = 1) = false := by simp [h0]
       have d7 : (z0 == 1) = false := by simp [h0]
       have hs9 : cnts (l.take (m + 1)) x1 x2 = cc := (by rw [hstep]; simp [cnt, h2, h0])
       have HS9' := hdH (hs9)
       clear hstep hs9
       have fz : Fz wz vb (vf + j * 5) (vf + m * 5) x0 x1 x2 z0 z1 z2 z4 := ⟨f0, f1, f2, g0', g1', g2', g4'⟩
       go_wp2
       go_quiet (fail)
       obtain ⟨wy, hwy, HQY, fy⟩ := fz_drawn HQZ fz nq
       rw [hwy]; clear hwy f0 f1 f2 g0' g1' g2' g4' HQZ fz
       obtain ⟨f0, f1, f2, g0', g1', g2', g4'⟩ := id fy
       obtain ⟨wz, rfl⟩ : ∃ x, x = wy := ⟨_, rfl⟩; have HQZ := HQY; have fz := fy; clear HQY fy
       go_wp2
       go_quiet (fail)
       obtain ⟨wy, hwy, HQY, fy⟩ := fz_drawn HQZ fz nq
       rw [hwy]; clear hwy f0 f1 f2 g0' g1' g2' g4' HQZ fz
       obtain ⟨f0, f1, f2, g0', g1', g2', g4'⟩ := id fy
       clear fy; have HQZ := HQY; clear HQY
       go_wp2
       go_roundw
       case rel => exact ⟨m + 1, by omega, by go_num, by rw [HS9'.out], HQZ⟩
       case measure => simp [intOf]; omega
    ·have hnm : ¬ ((m : Int) ≤ (j : Int)) := by omega
     have e9 : m = j + 1 := by omega
     by_cases h0 : x0 = 1
     ·have hc2 : cc ≤ 2 := by have h9 := two2_at HT2.out hjl (by rw [HE.out]; exact h0); rw [HE.out] at h9; rw [← hcc, e9]; exact h9
      have hc3 : ¬ (2 < cc) := by omega
      subst h0
      clear hcc e9 f1 f2
      go_wp2
      go_roundw
      case rel => exact ⟨j + 1, by omega, by go_num, HQZ⟩
      case measure => simp [intOf]; omega
     ·clear hcc e9 f1 f2
      go_wp2
      go_roundw
      case rel => exact ⟨j + 1, by omega, by go_num, HQZ⟩
      case measure => simp [intOf]; omega
  ·have jn : ¬ ((j : Int) < (l.length : Int)) := by omega
   have t0 := tR
   go_wp2_with (first
    | (have q0 := t0; go_at_call 11; refine (awake_any _).mono ?_; rintro e9 wz ⟨rfl, Bz⟩; have BBz : Hid (Below w.heap.size w wz) := (BB1.out.trans (HQB.out.mono BB1.out.size)).trans (Bz.mono (BB1.out.trans (HQB.out.mono BB1.out.size)).size); clear Bz t0))
   go_ret
   exact ⟨rfl, BBz.out⟩
theorem trc_D (N P S : Nat) (g2 g3 g4 g5 : Int) (hs : Shp [(N : Int), P, g2, g3, g4, g5] N P S) (po so : Option Addr) (pc sc : Nat) (fs : List (Int × Bool × Value)) (ms : Nat → List Int) (ts : List Stp) (w : World) (hf : Fls w (.slice po fs.length pc) fs) (hm : Mks w fs ms) (hk : fs.length ≤ 64 ∧ Okp fs ms fs.length) (hl : (N : Int) ≤ 16 ∧ (P : Int) ≤ 20 ∧ g2 ≤ 128) (hst : Stps w (.slice so ts.length sc) ts) :
  Calls Try.prog 5 #[.agg ([.int .i64 (N : Int), .int .i64 (P : Int), .int .i64 g2, .int .i64 g3, .int .i64 g4, .int .i64 g5, .slice po fs.length pc, .slice so ts.length sc] : List Value).toArray] w fun e w' => e = .returned (.bool true) ∧ Below w.heap.size w w' :=
 trc_S.2.2.2.2.2.2.2.2.down (fun _ _ => trc_E) (fun _ _ => trc_F) (fun _ _ => trc_G) (fun _ _ => trc_H) (fun _ _ => trc_I) (fun _ _ => trc_J) (fun _ _ => trc_K) (fun _ _ => trc_L) N P S g2 g3 g4 g5 hs po so pc sc fs ms ts w hf hm hk hl hst
end Go.Proofs.Ytikcohjhhoiakaa.na
namespace Go.Proofs.Ytikcohjhhoiakaa.nandTraces
open Go.ChangeShapes Go.WideShapes Go.ChangeAt Go.RowKit
set_option maxRecDepth 20000

open Go.Proofs.Ytikcohjhhoiakaa.na Go.Proofs.Ytikcohjhhoiakaa.fa

theorem walk (g : List Int) (pv sv : Value) (fs : List (Int × Bool × Value)) (ms : Nat → List Int) (ts : List Stp) (w : World) (hg : g.length = 6) (hf : Fls w pv fs) (hm : Mks w fs ms) (hst : Stps w sv ts) :
    Calls Try.prog 5 #[.agg ((g : List Int).map (Value.int .i64) ++ [pv, sv]).toArray] w fun e w' => e = .returned (.bool true) ∧ Below w.heap.size w w' := by
  obtain ⟨g0, g1, g2, g3, g4, g5, rfl⟩ : ∃ g0 g1 g2 g3 g4 g5, g = [g0, g1, g2, g3, g4, g5] := by
    match g, hg with
    | [g0, g1, g2, g3, g4, g5], _ => exact ⟨g0, g1, g2, g3, g4, g5, rfl⟩
  obtain ⟨po, pc, rfl⟩ : ∃ ao cap, pv = .slice ao fs.length cap := by obtain ⟨ao, cap, e, _⟩ := hf; exact ⟨ao, cap, e⟩
  obtain ⟨so, sc, rfl⟩ : ∃ ao cap, sv = .slice ao ts.length cap := by obtain ⟨⟨ao, cap, e, _⟩, _⟩ := hst; exact ⟨ao, cap, by rw [List.length_map] at e; exact e⟩
  by_cases hr : ge.Rt [g0, g1, g2, g3, g4, g5]
  · by_cases hk : fs.length ≤ 64 ∧ Okp fs ms fs.length
    · by_cases hl : g0 ≤ 16 ∧ g1 ≤ 20 ∧ g2 ≤ 128
      · obtain ⟨N, P, S, rfl, rfl, hs⟩ := shp_of hr
        exact trc_D N P S g2 g3 g4 g5 hs po so pc sc fs ms ts w hf hm hk hl hst
      · exact trc_C g0 g1 g2 g3 g4 g5 po so pc sc fs ms ts w hf hm hr hk hl
    · exact trc_B g0 g1 g2 g3 g4 g5 po so pc sc fs ms ts w hf hm hr hk
  · exact trc_A g0 g1 g2 g3 g4 g5 po so pc sc fs ts w hr

theorem params : ∀ t ∈ Try.f5.params.toList, Try.prog.readableRec t = true ∧ t < Try.prog.types.size := by
  rw [Try.params5]
  intro t ht
  simp at ht
  subst ht
  exact ⟨by kernel_rfl, of_decide_eq_true (by kernel_rfl)⟩

theorem contract (H : Type) (enc : TypeId × Value → H) (W : World) (base : Nat) (args : Array Value) (ds gs : List (DataW H)) (before : List MemPlace)
    (hval : ∀ (j : Nat) t v, Try.f5.params[j]? = some t → args[j]? = some v → Value.okWide Try.prog W .any base t v)
    (hW : DataW.Whole enc Try.prog Try.f5.params.toList Rows.nandTracesSpec.vars false W args.toList ds gs before)
    (hsz : (DataW.weightsEach Try.prog (Try.f5.params.toList ++ (OpenSpec.ofChange Rows.nandTracesSpec).bare.plain.varTypes Try.prog) (ds ++ gs)).all (· ≤ reachBytes) = true) :
    Calls Try.prog 5 args W fun e W' => ∃ v, e = .returned v ∧ Rows.nandTracesSpec.post enc Try.prog Try.f5 false true false false W args v W' := by
  have hW' := hW
  obtain ⟨p, q, hA0, hV, rfl, hfz, hnd⟩ := hW
  have hA : DataW.TrodAll enc Try.prog W 0 (fun _ => true) true Try.f5.params.toList args.toList ds p := hA0
  rw [Try.params5] at hA hval
  obtain ⟨v0, d0, rfl, rfl, h0⟩ := trodAll_one hA
  obtain ⟨rfl, rfl⟩ := trodVars_none hV
  obtain ⟨g0, pv0, sv0, fs0, ms0, ts0, rfl, n0, b0, c0, e0⟩ := case_open (hval 0 27 v0 rfl rfl) h0 (fun n hn => by have := List.all_eq_true.1 hsz n (DataW.weights_mem_each (j := 0) (t := 27) (d := d0) (by rw [Try.params5]; rfl) rfl n hn); simpa using this)
  clear hA0
  refine (walk g0 pv0 sv0 fs0 ms0 ts0 W n0 b0 c0 e0).mono fun e W' ⟨he, hg⟩ => ?_
  subst he
  exact ⟨_, rfl, post_law rfl (by kernel_rfl) params rfl rfl rfl hW' hg⟩

theorem laid_met (os : Os) : laidMet Try.prog Rows.nandTracesRow.laid ((World.holding Try.prog os ⟨#[], #[], []⟩).forCall (fun _ _ => 0) ⟨#[], #[.agg #[.int .i64 0, .int .i64 0, .int .i64 0, .int .i64 0, .int .i64 0, .int .i64 0, .slice none 0 0, .slice none 0 0]], []⟩).memory :=
  laidMet_of_run' 8 (by kernel_rfl) (by kernel_rfl)
theorem reads (os : Os) {H : Type} (enc : TypeId × Value → H) : ∃ places, DataW.whole enc Try.prog ((World.holding Try.prog os ⟨#[], #[], []⟩).forCall (fun _ _ => 0) ⟨#[], #[.agg #[.int .i64 0, .int .i64 0, .int .i64 0, .int .i64 0, .int .i64 0, .int .i64 0, .slice none 0 0, .slice none 0 0]], []⟩).memory Try.f5.params.toList Rows.nandTracesSpec.vars false #[Value.agg #[.int .i64 0, .int .i64 0, .int .i64 0, .int .i64 0, .int .i64 0, .int .i64 0, .slice none 0 0, .slice none 0 0]].toList 8 = some ([.agg [.agg [.lit (.int .i64 0), .lit (.int .i64 0), .lit (.int .i64 0), .lit (.int .i64 0), .lit (.int .i64 0), .lit (.int .i64 0)], .nil, .nil]], [], places) :=
  ⟨[], by kernel_rfl⟩

set_option maxRecDepth 100000 in
theorem lifted (os : Os) (started : os.Started) (H : Type) (enc : TypeId × Value → H) (F : Stop.Interp) :
    ReturnsInHanded {} Try.checked os 5 .any ((OpenSpec.ofChange Rows.nandTracesSpec).preRow enc Try.prog Try.f5 Rows.nandTracesRow.domain false Rows.nandTracesRow.laid) (((OpenSpec.ofChange Rows.nandTracesSpec).at F).post enc Try.prog Try.f5 false true false false) := by
  obtain ⟨places, hx⟩ := reads os enc
  refine returnsInHanded_of_row (C := Try.checked) (s := OpenSpec.ofChange Rows.nandTracesSpec) own started (by kernel_rfl) Try.func5
    (witness_row_at (enc := enc) (C := Try.checked) false (World.holding Try.prog os ⟨#[], #[], []⟩) #[.agg #[.int .i64 0, .int .i64 0, .int .i64 0, .int .i64 0, .int .i64 0, .int .i64 0, .slice none 0 0, .slice none 0 0]] rfl (by kernel_rfl) (by kernel_rfl) (by kernel_rfl)
      (OpenSpec.preRow_of_cond 8 hx (by kernel_rfl) (fun k hk => by cases hk) (by kernel_rfl) (laid_met os))) ?_
  intro W base args ds gs before hval hW _ _ hsz _ _ _
  exact contract H enc W base args ds gs before hval hW hsz

theorem said : Rows.NandTracesSaid :=
  OpenClaim.holds_of_cond 5 Try.f5 rfl rfl rfl rfl rfl rfl rfl ⟨rfl, rfl, rfl, rfl, rfl⟩ rfl rfl rfl rfl rfl (by kernel_rfl) Try.func5 (by kernel_rfl)
    (of_decide_eq_true (by kernel_rfl)) (by unfold Func.isWrapper; first | (rw [if_pos (by decide +kernel)]; kernel_rfl) | (rw [if_neg (by decide +kernel)]; exact ⟨rfl, rfl⟩))
    (fun os started H enc _ F => by rw [OpenClaim.pre_eq_preRow]; exact lifted os started H enc F)
end Go.Proofs.Ytikcohjhhoiakaa.nandTraces

namespace Go.Proofs.Ytikcohjhhoiakaa
theorem nandTraces_said : Rows.NandTracesSaid := nandTraces.said
#print axioms nandTraces_said
end Go.Proofs.Ytikcohjhhoiakaa
