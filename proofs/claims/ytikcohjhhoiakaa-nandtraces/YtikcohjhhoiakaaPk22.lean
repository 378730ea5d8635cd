/- Texts put together. -/
import Derived.Test.YtikcohjhhoiakaaPk21
import Derived.Test.YtikcohjhhoiakaaPk13
set_option maxHeartbeats 8000000
namespace Go.Proofs.Ytikcohjhhoiakaa.na
open Go.RowKit Go.Proofs.Ytikcohjhhoiakaa.fa
set_option maxRecDepth 20000
theorem rpg_off (N P : Nat) (g2 g3 g4 g5 : Int) (bq : Option Addr) (bc : Nat) (po : Option Addr) (pn pc : Nat) (n b p : Int) (v : Value) (w : World) :
  Calls Try.prog 41 #[.agg (chr [(N : Int), P, g2, g3, g4, g5] (.slice bq N bc) (.slice po pn pc) true n).toArray, .agg (ints .i64 [b, p]), v] w fun e w' => e = .returned (.tuple #[.agg (chr [(N : Int), P, g2, g3, g4, g5] (.slice bq N bc) (.slice po pn pc) true n).toArray, .int .i64 4]) ∧ Below w.heap.size w w' := by
 have t0 := tR
 go_enter Try.func41, Try.ntmps41
 go_wp2_with (first
  | (have q3 := t3; refine store_lawC _ (chr [(N : Int), P, g2, g3, g4, g5] (.slice bq N bc) (.slice po pn pc) true n) w2.heap.size 0 rfl rfl HC.out.2 rowy_chipR.2 chrO ?_; intro w9 E3 R3 T3 B3; have HR3 := hdH (R3); have BB := hdH (BB.out.trans (B3.mono (by omega))); clear E3 R3 T3 B3 t3)
  | (have q2 := t2; refine new_lawC _ _ zero_chr ?_; intro w3 V3 B3 l3; have HC := hdH (V3); have HA := hdH (HA.out.below B3 (by omega)); have HP := hdH (HP.out.below B3 (by omega)); have BB := hdH (BB.out.trans (B3.mono (by omega))); obtain ⟨r0, r1, r2, r3, r4, r5, r6, r7, r8, r9⟩ := vK10 HA.out; clear V3 B3 t2; have t3 := tR)
  | (have q1 := t1; refine box_lawF _ rfl (.tmp 1) 43 rfl .i64 [b, p] rfl ?_; intro w2 X2 B2 l2; have HP := hdH (X2); have HA := hdH (HA.out.below B2 l1); have BB := hdH (BB.out.trans (B2.mono (by omega))); clear X2 B2 t1; have t2 := tR)
  | (have q0 := t0; refine box_lawC _ (chr [(N : Int), P, g2, g3, g4, g5] (.slice bq N bc) (.slice po pn pc) true n) rfl ?_; intro w1 V1 B1 l1; have HA := hdH (V1); have BB := hdH (B1); clear V1 B1 t0; have t1 := tR))
 exact bodyPost_ret (v := .tuple #[.agg (chr [(N : Int), P, g2, g3, g4, g5] (.slice bq N bc) (.slice po pn pc) true n).toArray, .int .i64 4]) (results_cv rfl _ _ w2.heap.size _ _ rowy_chipR rfl rfl HR3.out) rfl ⟨rfl, BB.out⟩
theorem rpk_on (N P : Nat) (g2 g3 g4 g5 : Int) (bq : Option Addr) (bc : Nat) (po : Option Addr) (pn pc : Nat) (n b p : Int) (a x : Int) (w : World) :
  Calls Try.prog 44 #[.agg (chr [(N : Int), P, g2, g3, g4, g5] (.slice bq N bc) (.slice po pn pc) false n).toArray, .agg (ints .i64 [b, p]), .int .i64 a, .int .u8 x] w fun e w' => e = .returned (.tuple #[.agg (chr [(N : Int), P, g2, g3, g4, g5] (.slice bq N bc) (.slice po pn pc) false n).toArray, .int .i64 4]) ∧ Below w.heap.size w w' := by
 have t0 := tR
 go_enter Try.func44, Try.ntmps44
 go_wp2_with (first
  | (have q3 := t3; refine store_lawC _ (chr [(N : Int), P, g2, g3, g4, g5] (.slice bq N bc) (.slice po pn pc) false n) w2.heap.size 0 rfl rfl HC.out.2 rowy_chipR.2 chrO ?_; intro w9 E3 R3 T3 B3; have HR3 := hdH (R3); have BB := hdH (BB.out.trans (B3.mono (by omega))); clear E3 R3 T3 B3 t3)
  | (have q2 := t2; refine new_lawC _ _ zero_chr ?_; intro w3 V3 B3 l3; have HC := hdH (V3); have HA := hdH (HA.out.below B3 (by omega)); have HP := hdH (HP.out.below B3 (by omega)); have BB := hdH (BB.out.trans (B3.mono (by omega))); obtain ⟨r0, r1, r2, r3, r4, r5, r6, r7, r8, r9⟩ := vK10 HA.out; clear V3 B3 t2; have t3 := tR)
  | (have q1 := t1; refine box_lawF _ rfl (.tmp 1) 43 rfl .i64 [b, p] rfl ?_; intro w2 X2 B2 l2; have HP := hdH (X2); have HA := hdH (HA.out.below B2 l1); have BB := hdH (BB.out.trans (B2.mono (by omega))); clear X2 B2 t1; have t2 := tR)
  | (have q0 := t0; refine box_lawC _ (chr [(N : Int), P, g2, g3, g4, g5] (.slice bq N bc) (.slice po pn pc) false n) rfl ?_; intro w1 V1 B1 l1; have HA := hdH (V1); have BB := hdH (B1); clear V1 B1 t0; have t1 := tR))
 exact bodyPost_ret (v := .tuple #[.agg (chr [(N : Int), P, g2, g3, g4, g5] (.slice bq N bc) (.slice po pn pc) false n).toArray, .int .i64 4]) (results_cv rfl _ _ w2.heap.size _ _ rowy_chipR rfl rfl HR3.out) rfl ⟨rfl, BB.out⟩
theorem rpg_no (N P : Nat) (g2 g3 g4 g5 : Int) (bq : Option Addr) (bc : Nat) (po : Option Addr) (pn pc : Nat) (n b p : Int) (S : Nat) (hs : Shp [(N : Int), P, g2, g3, g4, g5] N P S) (vq : Option Addr) (vl vc : Nat) (hno : ¬ (0 ≤ b ∧ b < (N : Int) ∧ 0 ≤ p ∧ p < (P : Int) ∧ vl = S)) (w : World) :
  Calls Try.prog 41 #[.agg (chr [(N : Int), P, g2, g3, g4, g5] (.slice bq N bc) (.slice po pn pc) false n).toArray, .agg (ints .i64 [b, p]), .slice vq vl vc] w fun e w' => e = .returned (.tuple #[.agg (chr [(N : Int), P, g2, g3, g4, g5] (.slice bq N bc) (.slice po pn pc) false n).toArray, .int .i64 2]) ∧ Below w.heap.size w w' := by
 have t0 := tR
 have HQS : IntKind.i64.wrap (g2 + 88) = (S : Int) := by
  obtain ⟨gl, hr, z0, z1, z2⟩ := hs
  obtain ⟨k1, k2, k3, -⟩ := hr.1
  have e1 : gb [(N : Int), P, g2, g3, g4, g5] 2 = g2 := rfl
  rw [IntKind.wrap_i64]; omega
 have HQ2 : g2 + 88 = (S : Int) := hs.2.2.2.2
 by_cases hg : 0 ≤ b ∧ b < (N : Int) ∧ 0 ≤ p ∧ p < (P : Int)
 ·have hv : vl ≠ S := fun e => hno ⟨hg.1, hg.2.1, hg.2.2.1, hg.2.2.2, e⟩
  have hv1 : (vl : Int) ≠ (S : Int) := by omega
  have hv2 : ((vl : Int) == (S : Int)) = false := by rw [beq_eq_false_iff_ne]; exact hv1
  have SR : Hid (∀ w, Calls Try.prog 23 #[.agg (ints .i64 [(N : Int), P, g2, g3, g4, g5]), .agg (ints .i64 [b, p])] w fun e w' => e = .returned (.bool true) ∧ Below w.heap.size w w') := fun w => by
   have z := place_any [(N : Int), P, g2, g3, g4, g5] N P S hs b p w
   rw [show decide (0 ≤ b ∧ b < (N : Int) ∧ 0 ≤ p ∧ p < (P : Int)) = true from decide_eq_true hg] at z
   exact z
  clear hs hno HQ2
  go_enter Try.func41, Try.ntmps41
  go_wp2_with (first
   | (have q4 := t4; refine store_lawC _ (chr [(N : Int), P, g2, g3, g4, g5] (.slice bq N bc) (.slice po pn pc) false n) w2.heap.size 0 rfl rfl HC.out.2 rowy_chipR.2 chrO ?_; intro w9 E3 R3 T3 B3; have HR3 := hdH (R3); have BB := hdH (BB.out.trans (B3.mono (by omega))); clear E3 R3 T3 B3 t4)
   | (have q3 := t3; go_at_call 23; refine (SR.out _).mono ?_; rintro e9 w4 ⟨rfl, B4⟩; have HC := hdH (HC.out.below B4 l3); have HA := hdH (HA.out.below B4 (by omega)); have BB := hdH (BB.out.trans (B4.mono (by omega))); clear r0 r1 r2 r3 r4 r5 r6 r7 r8 r9; obtain ⟨r0, r1, r2, r3, r4, r5, r6, r7, r8, r9⟩ := vK10 HA.out; clear B4 t3; have t4 := tR)
   | (have q2 := t2; refine new_lawC _ _ zero_chr ?_; intro w3 V3 B3 l3; have HC := hdH (V3); have HA := hdH (HA.out.below B3 (by omega)); have HP := hdH (HP.out.below B3 (by omega)); have BB := hdH (BB.out.trans (B3.mono (by omega))); obtain ⟨r0, r1, r2, r3, r4, r5, r6, r7, r8, r9⟩ := vK10 HA.out; have u0 : w3.cell? ⟨w1.heap.size, 0, none⟩ = some (.int .i64 b) := HP.out.cell0 0 (by simp); have u1 : w3.cell? ⟨w1.heap.size, 1, none⟩ = some (.int .i64 p) := HP.out.cell0 1 (by simp); clear V3 B3 t2; have t3 := tR)
   | (have q1 := t1; refine box_lawF _ rfl (.tmp 1) 43 rfl .i64 [b, p] rfl ?_; intro w2 X2 B2 l2; have HP := hdH (X2); have HA := hdH (HA.out.below B2 l1); have BB := hdH (BB.out.trans (B2.mono (by omega))); clear X2 B2 t1; have t2 := tR)
   | (have q0 := t0; refine box_lawC _ (chr [(N : Int), P, g2, g3, g4, g5] (.slice bq N bc) (.slice po pn pc) false n) rfl ?_; intro w1 V1 B1 l1; have HA := hdH (V1); have BB := hdH (B1); clear V1 B1 t0; have t1 := tR))
  exact bodyPost_ret (v := .tuple #[.agg (chr [(N : Int), P, g2, g3, g4, g5] (.slice bq N bc) (.slice po pn pc) false n).toArray, .int .i64 2]) (results_cv rfl _ _ w2.heap.size _ _ rowy_chipR rfl rfl HR3.out) rfl ⟨rfl, BB.out⟩
 ·skip
  have SR : Hid (∀ w, Calls Try.prog 23 #[.agg (ints .i64 [(N : Int), P, g2, g3, g4, g5]), .agg (ints .i64 [b, p])] w fun e w' => e = .returned (.bool false) ∧ Below w.heap.size w w') := fun w => by
   have z := place_any [(N : Int), P, g2, g3, g4, g5] N P S hs b p w
   rw [show decide (0 ≤ b ∧ b < (N : Int) ∧ 0 ≤ p ∧ p < (P : Int)) = false from decide_eq_false hg] at z
   exact z
  clear hs hno HQ2 HQS
  go_enter Try.func41, Try.ntmps41
  go_wp2_with (first
   | (have q4 := t4; refine store_lawC _ (chr [(N : Int), P, g2, g3, g4, g5] (.slice bq N bc) (.slice po pn pc) false n) w2.heap.size 0 rfl rfl HC.out.2 rowy_chipR.2 chrO ?_; intro w9 E3 R3 T3 B3; have HR3 := hdH (R3); have BB := hdH (BB.out.trans (B3.mono (by omega))); clear E3 R3 T3 B3 t4)
   | (have q3 := t3; go_at_call 23; refine (SR.out _).mono ?_; rintro e9 w4 ⟨rfl, B4⟩; have HC := hdH (HC.out.below B4 l3); have HA := hdH (HA.out.below B4 (by omega)); have BB := hdH (BB.out.trans (B4.mono (by omega))); clear r0 r1 r2 r3 r4 r5 r6 r7 r8 r9; obtain ⟨r0, r1, r2, r3, r4, r5, r6, r7, r8, r9⟩ := vK10 HA.out; clear B4 t3; have t4 := tR)
   | (have q2 := t2; refine new_lawC _ _ zero_chr ?_; intro w3 V3 B3 l3; have HC := hdH (V3); have HA := hdH (HA.out.below B3 (by omega)); have HP := hdH (HP.out.below B3 (by omega)); have BB := hdH (BB.out.trans (B3.mono (by omega))); obtain ⟨r0, r1, r2, r3, r4, r5, r6, r7, r8, r9⟩ := vK10 HA.out; have u0 : w3.cell? ⟨w1.heap.size, 0, none⟩ = some (.int .i64 b) := HP.out.cell0 0 (by simp); have u1 : w3.cell? ⟨w1.heap.size, 1, none⟩ = some (.int .i64 p) := HP.out.cell0 1 (by simp); clear V3 B3 t2; have t3 := tR)
   | (have q1 := t1; refine box_lawF _ rfl (.tmp 1) 43 rfl .i64 [b, p] rfl ?_; intro w2 X2 B2 l2; have HP := hdH (X2); have HA := hdH (HA.out.below B2 l1); have BB := hdH (BB.out.trans (B2.mono (by omega))); clear X2 B2 t1; have t2 := tR)
   | (have q0 := t0; refine box_lawC _ (chr [(N : Int), P, g2, g3, g4, g5] (.slice bq N bc) (.slice po pn pc) false n) rfl ?_; intro w1 V1 B1 l1; have HA := hdH (V1); have BB := hdH (B1); clear V1 B1 t0; have t1 := tR))
  exact bodyPost_ret (v := .tuple #[.agg (chr [(N : Int), P, g2, g3, g4, g5] (.slice bq N bc) (.slice po pn pc) false n).toArray, .int .i64 2]) (results_cv rfl _ _ w2.heap.size _ _ rowy_chipR rfl rfl HR3.out) rfl ⟨rfl, BB.out⟩
theorem rpk_no (N P : Nat) (g2 g3 g4 g5 : Int) (bq : Option Addr) (bc : Nat) (po : Option Addr) (pn pc : Nat) (n b p : Int) (S : Nat) (hs : Shp [(N : Int), P, g2, g3, g4, g5] N P S) (a x : Int) (hno : ¬ (0 ≤ b ∧ b < (N : Int) ∧ 0 ≤ p ∧ p < (P : Int) ∧ 0 ≤ a ∧ a < (S : Int))) (w : World) :
  Calls Try.prog 44 #[.agg (chr [(N : Int), P, g2, g3, g4, g5] (.slice bq N bc) (.slice po pn pc) true n).toArray, .agg (ints .i64 [b, p]), .int .i64 a, .int .u8 x] w fun e w' => e = .returned (.tuple #[.agg (chr [(N : Int), P, g2, g3, g4, g5] (.slice bq N bc) (.slice po pn pc) true n).toArray, .int .i64 2]) ∧ Below w.heap.size w w' := by
 have t0 := tR
 have HQS : IntKind.i64.wrap (g2 + 88) = (S : Int) := by
  obtain ⟨gl, hr, z0, z1, z2⟩ := hs
  obtain ⟨k1, k2, k3, -⟩ := hr.1
  have e1 : gb [(N : Int), P, g2, g3, g4, g5] 2 = g2 := rfl
  rw [IntKind.wrap_i64]; omega
 have HQ2 : g2 + 88 = (S : Int) := hs.2.2.2.2
 by_cases hg : 0 ≤ b ∧ b < (N : Int) ∧ 0 ≤ p ∧ p < (P : Int)
 ·by_cases ha : 0 ≤ a
  ·have ha1 : ¬ a < 0 := by omega
   have ha2 : (S : Int) ≤ a := by
    have : ¬ a < (S : Int) := fun e => hno ⟨hg.1, hg.2.1, hg.2.2.1, hg.2.2.2, ha, e⟩
    omega
   have SR : Hid (∀ w, Calls Try.prog 23 #[.agg (ints .i64 [(N : Int), P, g2, g3, g4, g5]), .agg (ints .i64 [b, p])] w fun e w' => e = .returned (.bool true) ∧ Below w.heap.size w w') := fun w => by
    have z := place_any [(N : Int), P, g2, g3, g4, g5] N P S hs b p w
    rw [show decide (0 ≤ b ∧ b < (N : Int) ∧ 0 ≤ p ∧ p < (P : Int)) = true from decide_eq_true hg] at z
    exact z
   clear hs hno HQ2
   go_enter Try.func44, Try.ntmps44
   go_wp2_with (first
    | (have q4 := t4; refine store_lawC _ (chr [(N : Int), P, g2, g3, g4, g5] (.slice bq N bc) (.slice po pn pc) true n) w2.heap.size 0 rfl rfl HC.out.2 rowy_chipR.2 chrO ?_; intro w9 E3 R3 T3 B3; have HR3 := hdH (R3); have BB := hdH (BB.out.trans (B3.mono (by omega))); clear E3 R3 T3 B3 t4)
    | (have q3 := t3; go_at_call 23; refine (SR.out _).mono ?_; rintro e9 w4 ⟨rfl, B4⟩; have HC := hdH (HC.out.below B4 l3); have HA := hdH (HA.out.below B4 (by omega)); have BB := hdH (BB.out.trans (B4.mono (by omega))); clear r0 r1 r2 r3 r4 r5 r6 r7 r8 r9; obtain ⟨r0, r1, r2, r3, r4, r5, r6, r7, r8, r9⟩ := vK10 HA.out; clear B4 t3; have t4 := tR)
    | (have q2 := t2; refine new_lawC _ _ zero_chr ?_; intro w3 V3 B3 l3; have HC := hdH (V3); have HA := hdH (HA.out.below B3 (by omega)); have HP := hdH (HP.out.below B3 (by omega)); have BB := hdH (BB.out.trans (B3.mono (by omega))); obtain ⟨r0, r1, r2, r3, r4, r5, r6, r7, r8, r9⟩ := vK10 HA.out; have u0 : w3.cell? ⟨w1.heap.size, 0, none⟩ = some (.int .i64 b) := HP.out.cell0 0 (by simp); have u1 : w3.cell? ⟨w1.heap.size, 1, none⟩ = some (.int .i64 p) := HP.out.cell0 1 (by simp); clear V3 B3 t2; have t3 := tR)
    | (have q1 := t1; refine box_lawF _ rfl (.tmp 1) 43 rfl .i64 [b, p] rfl ?_; intro w2 X2 B2 l2; have HP := hdH (X2); have HA := hdH (HA.out.below B2 l1); have BB := hdH (BB.out.trans (B2.mono (by omega))); clear X2 B2 t1; have t2 := tR)
    | (have q0 := t0; refine box_lawC _ (chr [(N : Int), P, g2, g3, g4, g5] (.slice bq N bc) (.slice po pn pc) true n) rfl ?_; intro w1 V1 B1 l1; have HA := hdH (V1); have BB := hdH (B1); clear V1 B1 t0; have t1 := tR))
   exact bodyPost_ret (v := .tuple #[.agg (chr [(N : Int), P, g2, g3, g4, g5] (.slice bq N bc) (.slice po pn pc) true n).toArray, .int .i64 2]) (results_cv rfl _ _ w2.heap.size _ _ rowy_chipR rfl rfl HR3.out) rfl ⟨rfl, BB.out⟩
  ·have ha1 : a < 0 := by omega
   have SR : Hid (∀ w, Calls Try.prog 23 #[.agg (ints .i64 [(N : Int), P, g2, g3, g4, g5]), .agg (ints .i64 [b, p])] w fun e w' => e = .returned (.bool true) ∧ Below w.heap.size w w') := fun w => by
    have z := place_any [(N : Int), P, g2, g3, g4, g5] N P S hs b p w
    rw [show decide (0 ≤ b ∧ b < (N : Int) ∧ 0 ≤ p ∧ p < (P : Int)) = true from decide_eq_true hg] at z
    exact z
   clear hs hno HQ2
   go_enter Try.func44, Try.ntmps44
   go_wp2_with (first
    | (have q4 := t4; refine store_lawC _ (chr [(N : Int), P, g2, g3, g4, g5] (.slice bq N bc) (.slice po pn pc) true n) w2.heap.size 0 rfl rfl HC.out.2 rowy_chipR.2 chrO ?_; intro w9 E3 R3 T3 B3; have HR3 := hdH (R3); have BB := hdH (BB.out.trans (B3.mono (by omega))); clear E3 R3 T3 B3 t4)
    | (have q3 := t3; go_at_call 23; refine (SR.out _).mono ?_; rintro e9 w4 ⟨rfl, B4⟩; have HC := hdH (HC.out.below B4 l3); have HA := hdH (HA.out.below B4 (by omega)); have BB := hdH (BB.out.trans (B4.mono (by omega))); clear r0 r1 r2 r3 r4 r5 r6 r7 r8 r9; obtain ⟨r0, r1, r2, r3, r4, r5, r6, r7, r8, r9⟩ := vK10 HA.out; clear B4 t3; have t4 := tR)
    | (have q2 := t2; refine new_lawC _ _ zero_chr ?_; intro w3 V3 B3 l3; have HC := hdH (V3); have HA := hdH (HA.out.below B3 (by omega)); have HP := hdH (HP.out.below B3 (by omega)); have BB := hdH (BB.out.trans (B3.mono (by omega))); obtain ⟨r0, r1, r2, r3, r4, r5, r6, r7, r8, r9⟩ := vK10 HA.out; have u0 : w3.cell? ⟨w1.heap.size, 0, none⟩ = some (.int .i64 b) := HP.out.cell0 0 (by simp); have u1 : w3.cell? ⟨w1.heap.size, 1, none⟩ = some (.int .i64 p) := HP.out.cell0 1 (by simp); clear V3 B3 t2; have t3 := tR)
    | (have q1 := t1; refine box_lawF _ rfl (.tmp 1) 43 rfl .i64 [b, p] rfl ?_; intro w2 X2 B2 l2; have HP := hdH (X2); have HA := hdH (HA.out.below B2 l1); have BB := hdH (BB.out.trans (B2.mono (by omega))); clear X2 B2 t1; have t2 := tR)
    | (have q0 := t0; refine box_lawC _ (chr [(N : Int), P, g2, g3, g4, g5] (.slice bq N bc) (.slice po pn pc) true n) rfl ?_; intro w1 V1 B1 l1; have HA := hdH (V1); have BB := hdH (B1); clear V1 B1 t0; have t1 := tR))
   exact bodyPost_ret (v := .tuple #[.agg (chr [(N : Int), P, g2, g3, g4, g5] (.slice bq N bc) (.slice po pn pc) true n).toArray, .int .i64 2]) (results_cv rfl _ _ w2.heap.size _ _ rowy_chipR rfl rfl HR3.out) rfl ⟨rfl, BB.out⟩
 ·skip
  have SR : Hid (∀ w, Calls Try.prog 23 #[.agg (ints .i64 [(N : Int), P, g2, g3, g4, g5]), .agg (ints .i64 [b, p])] w fun e w' => e = .returned (.bool false) ∧ Below w.heap.size w w') := fun w => by
   have z := place_any [(N : Int), P, g2, g3, g4, g5] N P S hs b p w
   rw [show decide (0 ≤ b ∧ b < (N : Int) ∧ 0 ≤ p ∧ p < (P : Int)) = false from decide_eq_false hg] at z
   exact z
  clear hs hno HQ2 HQS
  go_enter Try.func44, Try.ntmps44
  go_wp2_with (first
   | (have q4 := t4; refine store_lawC _ (chr [(N : Int), P, g2, g3, g4, g5] (.slice bq N bc) (.slice po pn pc) true n) w2.heap.size 0 rfl rfl HC.out.2 rowy_chipR.2 chrO ?_; intro w9 E3 R3 T3 B3; have HR3 := hdH (R3); have BB := hdH (BB.out.trans (B3.mono (by omega))); clear E3 R3 T3 B3 t4)
   | (have q3 := t3; go_at_call 23; refine (SR.out _).mono ?_; rintro e9 w4 ⟨rfl, B4⟩; have HC := hdH (HC.out.below B4 l3); have HA := hdH (HA.out.below B4 (by omega)); have BB := hdH (BB.out.trans (B4.mono (by omega))); clear r0 r1 r2 r3 r4 r5 r6 r7 r8 r9; obtain ⟨r0, r1, r2, r3, r4, r5, r6, r7, r8, r9⟩ := vK10 HA.out; clear B4 t3; have t4 := tR)
   | (have q2 := t2; refine new_lawC _ _ zero_chr ?_; intro w3 V3 B3 l3; have HC := hdH (V3); have HA := hdH (HA.out.below B3 (by omega)); have HP := hdH (HP.out.below B3 (by omega)); have BB := hdH (BB.out.trans (B3.mono (by omega))); obtain ⟨r0, r1, r2, r3, r4, r5, r6, r7, r8, r9⟩ := vK10 HA.out; have u0 : w3.cell? ⟨w1.heap.size, 0, none⟩ = some (.int .i64 b) := HP.out.cell0 0 (by simp); have u1 : w3.cell? ⟨w1.heap.size, 1, none⟩ = some (.int .i64 p) := HP.out.cell0 1 (by simp); clear V3 B3 t2; have t3 := tR)
   | (have q1 := t1; refine box_lawF _ rfl (.tmp 1) 43 rfl .i64 [b, p] rfl ?_; intro w2 X2 B2 l2; have HP := hdH (X2); have HA := hdH (HA.out.below B2 l1); have BB := hdH (BB.out.trans (B2.mono (by omega))); clear X2 B2 t1; have t2 := tR)
   | (have q0 := t0; refine box_lawC _ (chr [(N : Int), P, g2, g3, g4, g5] (.slice bq N bc) (.slice po pn pc) true n) rfl ?_; intro w1 V1 B1 l1; have HA := hdH (V1); have BB := hdH (B1); clear V1 B1 t0; have t1 := tR))
  exact bodyPost_ret (v := .tuple #[.agg (chr [(N : Int), P, g2, g3, g4, g5] (.slice bq N bc) (.slice po pn pc) true n).toArray, .int .i64 2]) (results_cv rfl _ _ w2.heap.size _ _ rowy_chipR rfl rfl HR3.out) rfl ⟨rfl, BB.out⟩
section
variable {ops : Array Oper} {rest : List Oper} {a : Act} {Q : Exit → Act → World → Prop} {w : World} {d : Option Tmp} {ty : TypeId} {pos : String} {af : Array Edge} {gd : Option (Nat × Bool)}
theorem at_store {t : TypeId} {x y : Operand} (h : wpList Try.prog ops Q (⟨d, Op.store t x y, ty, pos, af, gd⟩ :: rest) a w) : wpList Try.prog ops Q (⟨d, Op.store t x y, ty, pos, af, gd⟩ :: rest) a w := h
theorem at_alloc {t : TypeId} (h : wpList Try.prog ops Q (⟨d, Op.alloc t, ty, pos, af, gd⟩ :: rest) a w) : wpList Try.prog ops Q (⟨d, Op.alloc t, ty, pos, af, gd⟩ :: rest) a w := h
end
theorem rpg_scr (N P : Nat) (g2 g3 g4 g5 : Int) (bq : Option Addr) (bc : Nat) (po : Option Addr) (pn pc : Nat) (S : Nat) (hs : Shp [(N : Int), P, g2, g3, g4, g5] N P S) (n b p : Nat) (hb : b < N) (hp : p < P) (gv uv : Nat → Value) (l : Nat → Int) (s : Nat → Bool) (e : Nat → Int) (pg : Nat → Nat → List Int) (us : Nat → Nat → Int) (vq : Option Addr) (vc : Nat) (w : World)
  (hR : Rws w (.slice bq N bc) 5 (bks N gv uv l s e)) (hB : ∀ b, b < N → Blk w (gv b) (uv b) P (pg b) (us b)) (h7 : s b = true) :
  Calls Try.prog 41 #[.agg (chr [(N : Int), P, g2, g3, g4, g5] (.slice bq N bc) (.slice po pn pc) false (n : Int)).toArray, .agg (ints .i64 [(b : Int), (p : Int)]), .slice vq S vc] w fun x w' => x = .returned (.tuple #[.agg (chr [(N : Int), P, g2, g3, g4, g5] (.slice bq N bc) (.slice po pn pc) false (n : Int)).toArray, .int .i64 7]) ∧ Below w.heap.size w w' := by
 have HQS : IntKind.i64.wrap (g2 + 88) = (S : Int) := by
  obtain ⟨gl, hr, z0, z1, z2⟩ := hs
  obtain ⟨k1, k2, k3, -⟩ := hr.1
  have e1 : gb [(N : Int), P, g2, g3, g4, g5] 2 = g2 := rfl
  rw [IntKind.wrap_i64]; omega
 have b0 : (0 : Int) ≤ (b : Int) := by omega
 have b1 : (b : Int) < (N : Int) := by omega
 have p0 : (0 : Int) ≤ (p : Int) := by omega
 have p1 : (p : Int) < (P : Int) := by omega
 have SR : Hid (∀ w, Calls Try.prog 23 #[.agg (ints .i64 [(N : Int), P, g2, g3, g4, g5]), .agg (ints .i64 [(b : Int), (p : Int)])] w fun e w' => e = .returned (.bool true) ∧ Below w.heap.size w w') := fun w => by
  have z := place_any [(N : Int), P, g2, g3, g4, g5] N P S hs b p w
  rw [show decide (0 ≤ (b : Int) ∧ (b : Int) < (N : Int) ∧ 0 ≤ (p : Int) ∧ (p : Int) < (P : Int)) = true from decide_eq_true ⟨b0, b1, p0, p1⟩] at z
  exact z
 obtain ⟨⟨xv, hx1, hx2⟩, hy1⟩ := hB b hb
 obtain ⟨xq, xc, hx⟩ := rws_form hx1 (pgc_len P xv)
 obtain ⟨yq, yc, hy⟩ := rws_form hy1 (usc_len P (us b))
 rw [hx] at hx1
 rw [hy] at hy1
 obtain ⟨xb, xo, hxq, hcx⟩ := hx1.at (t := p) (by rw [pgc_len]; exact hp)
 obtain ⟨yb, yo, hyq, hcy⟩ := hy1.at (t := p) (by rw [usc_len]; exact hp)
 subst hxq
 subst hyq
 rw [pgc_el P xv p hp] at hcx
 rw [usc_el P (us b) p hp] at hcy
 have CX : Hid (∀ w', Below w.heap.size w w' → w'.cell? ⟨xb, xo + p, none⟩ = some (xv p)) := fun w' h => by
  have z := hcx 0 _ rfl
  rw [Nat.mul_one, Nat.add_zero] at z
  rw [h.cell (World.block_lt_of_cell? w _ z)]; exact z
 have CY : Hid (∀ w', Below w.heap.size w w' → w'.cell? ⟨yb, yo + p, none⟩ = some (.int .i64 (us b p))) := fun w' h => by
  have z := hcy 0 _ rfl
  rw [Nat.mul_one, Nat.add_zero] at z
  rw [h.cell (World.block_lt_of_cell? w _ z)]; exact z
 have hc9 := hR.at (t := b) (by rw [bks_len]; exact hb)
 obtain ⟨bb, off, hbq, hc⟩ := hc9
 subst hbq
 rw [bks_el N gv uv l s e b hb, hx, hy] at hc
 have HC0 : Hid (∀ w', Below w.heap.size w w' → w'.rangeAt bb (off + b * 5) (bkc (.slice (some ⟨xb, xo, none⟩) P xc) (.slice (some ⟨yb, yo, none⟩) P yc) (l b) (s b) (e b))) := fun w' h => range_heap hc (h.block bb (range_lt hc (by simp [bkc])))
 have H7 := hdH (h7)
 clear h7
 clear hs hR hB hc hx1 hx2 hy1 hcx hcy CX
 have t0 := tR
 go_enter Try.func41, Try.ntmps41
 go_wp2_with (first
  | (have q6 := t6; (with_reducible refine at_store ?_); refine store_lawC _ (chr [(N : Int), P, g2, g3, g4, g5] (.slice (some ⟨bb, off, none⟩) N bc) (.slice po pn pc) false (n : Int)) w2.heap.size 0 rfl rfl HC.out.2 rowy_chipR.2 chrO ?_; intro w9 E9 R9 T9 B9; have HR3 := hdH (R9); have BB := hdH (BB.out.trans (B9.mono (by have := HL.out; omega))); clear E9 R9 T9 B9 t6)
  | (have q5 := t5; (with_reducible refine at_store ?_); refine store_lawC _ (bkc (.slice (some ⟨xb, xo, none⟩) P xc) (.slice (some ⟨yb, yo, none⟩) P yc) (l b) (s b) (e b)) w4.heap.size 0 rfl rfl HX0.out.2 rowy_blk.2 bkcO ?_; intro w6 E6 R6 T6 B6; have HX : Hid (Vr w6 w4.heap.size (bkc (.slice (some ⟨xb, xo, none⟩) P xc) (.slice (some ⟨yb, yo, none⟩) P yc) (l b) (s b) (e b))) := ⟨R6, T6⟩; have HA := hdH (HA.out.below B6 (by have := HL.out; omega)); have HC := hdH (HC.out.below B6 (by have := HL.out; omega)); have HP := hdH (HP.out.below B6 (by have := HL.out; omega)); have BB := hdH (BB.out.trans (B6.mono (by have := HL.out; omega))); have l6 : w4.heap.size < w6.heap.size := Nat.lt_of_lt_of_le l5 B6.size; obtain ⟨r0, r1, r2, r3, r4, r5, r6, r7, r8, r9⟩ := vK10 HA.out; have u0 : w6.cell? ⟨w1.heap.size, 0, none⟩ = some (.int .i64 (b : Int)) := HP.out.cell0 0 (by simp); have u1 : w6.cell? ⟨w1.heap.size, 1, none⟩ = some (.int .i64 (p : Int)) := HP.out.cell0 1 (by simp); obtain ⟨x0, x1, x2, x3, x4⟩ := vK5 HX.out; have cy := CY.out w6 BB.out; have h7 := H7.out; clear E6 R6 T6 B6 t5; have t6 := tR)
  | (have q4 := t4; (with_reducible refine at_alloc ?_); refine new_lawC _ _ zero_blk ?_; intro w5 V5 B5 l5; have HX0 := hdH (V5); have HA := vB HA B5 (vlt HA.out); have HC := vB HC B5 (vlt HC.out); have HP := hdH (HP.out.below B5 (HP.out.lt (by simp))); have BB := bT BB B5; clear d0 d1 d2 d3 d4; clear r0 r1 r2 r3 r4 r5 r6 r7 r8 r9; clear u0 u1 V5 B5 t4; have t5 := tR)
  | (have q3 := t3; go_at_call 23; refine (SR.out _).mono ?_; rintro e9 w4 ⟨rfl, B4⟩; have HC := vB HC B4 (vlt HC.out); have HA := vB HA B4 (vlt HA.out); have HP := hdH (HP.out.below B4 (HP.out.lt (by simp))); have BB := bT BB B4; have HL : Hid (w.heap.size < w1.heap.size ∧ w1.heap.size < w2.heap.size ∧ w2.heap.size < w4.heap.size) := ⟨l1, l2, Nat.lt_of_lt_of_le l3 B4.size⟩; clear r0 r1 r2 r3 r4 r5 r6 r7 r8 r9; clear u0 u1; obtain ⟨r0, r1, r2, r3, r4, r5, r6, r7, r8, r9⟩ := vK10 HA.out; have u0 : w4.cell? ⟨w1.heap.size, 0, none⟩ = some (.int .i64 (b : Int)) := HP.out.cell0 0 (by simp); have u1 : w4.cell? ⟨w1.heap.size, 1, none⟩ = some (.int .i64 (p : Int)) := HP.out.cell0 1 (by simp); have hcc := HC0.out w4 BB.out; have d0 := hcc 0 _ rfl; rw [Nat.add_zero] at d0; have d1 := hcc 1 _ rfl; have d2 := hcc 2 _ rfl; have d3 := hcc 3 _ rfl; have d4 := hcc 4 _ rfl; clear hcc B4 t3; have t4 := tR)
  | (have q2 := t2; (with_reducible refine at_alloc ?_); refine new_lawC _ _ zero_chr ?_; intro w3 V3 B3 l3; have HC := hdH (V3); have HA := vB HA B3 (vlt HA.out); have HP := hdH (HP.out.below B3 (HP.out.lt (by simp))); have BB := bT BB B3; obtain ⟨r0, r1, r2, r3, r4, r5, r6, r7, r8, r9⟩ := vK10 HA.out; have u0 : w3.cell? ⟨w1.heap.size, 0, none⟩ = some (.int .i64 (b : Int)) := HP.out.cell0 0 (by simp); have u1 : w3.cell? ⟨w1.heap.size, 1, none⟩ = some (.int .i64 (p : Int)) := HP.out.cell0 1 (by simp); clear V3 B3 t2; have t3 := tR)
  | (have q1 := t1; refine box_lawF _ rfl (.tmp 1) 43 rfl .i64 [(b : Int), (p : Int)] rfl ?_; intro w2 X2 B2 l2; have HP := hdH (X2); have HA := vB HA B2 (vlt HA.out); have BB := bT BB B2; clear X2 B2 t1; have t2 := tR)
  | (have q0 := t0; refine box_lawC _ (chr [(N : Int), P, g2, g3, g4, g5] (.slice (some ⟨bb, off, none⟩) N bc) (.slice po pn pc) false (n : Int)) rfl ?_; intro w1 V1 B1 l1; have HA := hdH (V1); have BB := hdH (B1); clear V1 B1 t0; have t1 := tR))
 exact bodyPost_ret (v := .tuple #[.agg (chr [(N : Int), P, g2, g3, g4, g5] (.slice (some ⟨bb, off, none⟩) N bc) (.slice po pn pc) false (n : Int)).toArray, .int .i64 7]) (results_cv rfl _ _ w2.heap.size _ _ rowy_chipR rfl rfl HR3.out) rfl ⟨rfl, BB.out⟩
theorem rpg_twc (N P : Nat) (g2 g3 g4 g5 : Int) (bq : Option Addr) (bc : Nat) (po : Option Addr) (pn pc : Nat) (S : Nat) (hs : Shp [(N : Int), P, g2, g3, g4, g5] N P S) (n b p : Nat) (hb : b < N) (hp : p < P) (gv uv : Nat → Value) (l : Nat → Int) (s : Nat → Bool) (e : Nat → Int) (pg : Nat → Nat → List Int) (us : Nat → Nat → Int) (vq : Option Addr) (vc : Nat) (w : World)
  (hR : Rws w (.slice bq N bc) 5 (bks N gv uv l s e)) (hB : ∀ b, b < N → Blk w (gv b) (uv b) P (pg b) (us b)) (h7 : s b = false) (h2 : 2 ≤ us b p) :
  Calls Try.prog 41 #[.agg (chr [(N : Int), P, g2, g3, g4, g5] (.slice bq N bc) (.slice po pn pc) false (n : Int)).toArray, .agg (ints .i64 [(b : Int), (p : Int)]), .slice vq S vc] w fun x w' => x = .returned (.tuple #[.agg (chr [(N : Int), P, g2, g3, g4, g5] (.slice bq N bc) (.slice po pn pc) false (n : Int)).toArray, .int .i64 7]) ∧ Below w.heap.size w w' := by
 have HQS : IntKind.i64.wrap (g2 + 88) = (S : Int) := by
  obtain ⟨gl, hr, z0, z1, z2⟩ := hs
  obtain ⟨k1, k2, k3, -⟩ := hr.1
  have e1 : gb [(N : Int), P, g2, g3, g4, g5] 2 = g2 := rfl
  rw [IntKind.wrap_i64]; omega
 have b0 : (0 : Int) ≤ (b : Int) := by omega
 have b1 : (b : Int) < (N : Int) := by omega
 have p0 : (0 : Int) ≤ (p : Int) := by omega
 have p1 : (p : Int) < (P : Int) := by omega
 have SR : Hid (∀ w, Calls Try.prog 23 #[.agg (ints .i64 [(N : Int), P, g2, g3, g4, g5]), .agg (ints .i64 [(b : Int), (p : Int)])] w fun e w' => e = .returned (.bool true) ∧ Below w.heap.size w w') := fun w => by
  have z := place_any [(N : Int), P, g2, g3, g4, g5] N P S hs b p w
  rw [show decide (0 ≤ (b : Int) ∧ (b : Int) < (N : Int) ∧ 0 ≤ (p : Int) ∧ (p : Int) < (P : Int)) = true from decide_eq_true ⟨b0, b1, p0, p1⟩] at z
  exact z
 obtain ⟨⟨xv, hx1, hx2⟩, hy1⟩ := hB b hb
 obtain ⟨xq, xc, hx⟩ := rws_form hx1 (pgc_len P xv)
 obtain ⟨yq, yc, hy⟩ := rws_form hy1 (usc_len P (us b))
 rw [hx] at hx1
 rw [hy] at hy1
 obtain ⟨xb, xo, hxq, hcx⟩ := hx1.at (t := p) (by rw [pgc_len]; exact hp)
 obtain ⟨yb, yo, hyq, hcy⟩ := hy1.at (t := p) (by rw [usc_len]; exact hp)
 subst hxq
 subst hyq
 rw [pgc_el P xv p hp] at hcx
 rw [usc_el P (us b) p hp] at hcy
 have CX : Hid (∀ w', Below w.heap.size w w' → w'.cell? ⟨xb, xo + p, none⟩ = some (xv p)) := fun w' h => by
  have z := hcx 0 _ rfl
  rw [Nat.mul_one, Nat.add_zero] at z
  rw [h.cell (World.block_lt_of_cell? w _ z)]; exact z
 have CY : Hid (∀ w', Below w.heap.size w w' → w'.cell? ⟨yb, yo + p, none⟩ = some (.int .i64 (us b p))) := fun w' h => by
  have z := hcy 0 _ rfl
  rw [Nat.mul_one, Nat.add_zero] at z
  rw [h.cell (World.block_lt_of_cell? w _ z)]; exact z
 have hc9 := hR.at (t := b) (by rw [bks_len]; exact hb)
 obtain ⟨bb, off, hbq, hc⟩ := hc9
 subst hbq
 rw [bks_el N gv uv l s e b hb, hx, hy] at hc
 have HC0 : Hid (∀ w', Below w.heap.size w w' → w'.rangeAt bb (off + b * 5) (bkc (.slice (some ⟨xb, xo, none⟩) P xc) (.slice (some ⟨yb, yo, none⟩) P yc) (l b) (s b) (e b))) := fun w' h => range_heap hc (h.block bb (range_lt hc (by simp [bkc])))
 have h2a : us b p ≥ 2 := h2
 have H7 := hdH (h7)
 clear h7
 clear hs hR hB hc hx1 hx2 hy1 hcx hcy CX
 have t0 := tR
 go_enter Try.func41, Try.ntmps41
 go_wp2_with (first
  | (have q6 := t6; (with_reducible refine at_store ?_); refine store_lawC _ (chr [(N : Int), P, g2, g3, g4, g5] (.slice (some ⟨bb, off, none⟩) N bc) (.slice po pn pc) false (n : Int)) w2.heap.size 0 rfl rfl HC.out.2 rowy_chipR.2 chrO ?_; intro w9 E9 R9 T9 B9; have HR3 := hdH (R9); have BB := hdH (BB.out.trans (B9.mono (by have := HL.out; omega))); clear E9 R9 T9 B9 t6)
  | (have q5 := t5; (with_reducible refine at_store ?_); refine store_lawC _ (bkc (.slice (some ⟨xb, xo, none⟩) P xc) (.slice (some ⟨yb, yo, none⟩) P yc) (l b) (s b) (e b)) w4.heap.size 0 rfl rfl HX0.out.2 rowy_blk.2 bkcO ?_; intro w6 E6 R6 T6 B6; have HX : Hid (Vr w6 w4.heap.size (bkc (.slice (some ⟨xb, xo, none⟩) P xc) (.slice (some ⟨yb, yo, none⟩) P yc) (l b) (s b) (e b))) := ⟨R6, T6⟩; have HA := hdH (HA.out.below B6 (by have := HL.out; omega)); have HC := hdH (HC.out.below B6 (by have := HL.out; omega)); have HP := hdH (HP.out.below B6 (by have := HL.out; omega)); have BB := hdH (BB.out.trans (B6.mono (by have := HL.out; omega))); have l6 : w4.heap.size < w6.heap.size := Nat.lt_of_lt_of_le l5 B6.size; obtain ⟨r0, r1, r2, r3, r4, r5, r6, r7, r8, r9⟩ := vK10 HA.out; have u0 : w6.cell? ⟨w1.heap.size, 0, none⟩ = some (.int .i64 (b : Int)) := HP.out.cell0 0 (by simp); have u1 : w6.cell? ⟨w1.heap.size, 1, none⟩ = some (.int .i64 (p : Int)) := HP.out.cell0 1 (by simp); obtain ⟨x0, x1, x2, x3, x4⟩ := vK5 HX.out; have cy := CY.out w6 BB.out; have h7 := H7.out; clear E6 R6 T6 B6 t5; have t6 := tR)
  | (have q4 := t4; (with_reducible refine at_alloc ?_); refine new_lawC _ _ zero_blk ?_; intro w5 V5 B5 l5; have HX0 := hdH (V5); have HA := vB HA B5 (vlt HA.out); have HC := vB HC B5 (vlt HC.out); have HP := hdH (HP.out.below B5 (HP.out.lt (by simp))); have BB := bT BB B5; clear d0 d1 d2 d3 d4; clear r0 r1 r2 r3 r4 r5 r6 r7 r8 r9; clear u0 u1 V5 B5 t4; have t5 := tR)
  | (have q3 := t3; go_at_call 23; refine (SR.out _).mono ?_; rintro e9 w4 ⟨rfl, B4⟩; have HC := vB HC B4 (vlt HC.out); have HA := vB HA B4 (vlt HA.out); have HP := hdH (HP.out.below B4 (HP.out.lt (by simp))); have BB := bT BB B4; have HL : Hid (w.heap.size < w1.heap.size ∧ w1.heap.size < w2.heap.size ∧ w2.heap.size < w4.heap.size) := ⟨l1, l2, Nat.lt_of_lt_of_le l3 B4.size⟩; clear r0 r1 r2 r3 r4 r5 r6 r7 r8 r9; clear u0 u1; obtain ⟨r0, r1, r2, r3, r4, r5, r6, r7, r8, r9⟩ := vK10 HA.out; have u0 : w4.cell? ⟨w1.heap.size, 0, none⟩ = some (.int .i64 (b : Int)) := HP.out.cell0 0 (by simp); have u1 : w4.cell? ⟨w1.heap.size, 1, none⟩ = some (.int .i64 (p : Int)) := HP.out.cell0 1 (by simp); have hcc := HC0.out w4 BB.out; have d0 := hcc 0 _ rfl; rw [Nat.add_zero] at d0; have d1 := hcc 1 _ rfl; have d2 := hcc 2 _ rfl; have d3 := hcc 3 _ rfl; have d4 := hcc 4 _ rfl; clear hcc B4 t3; have t4 := tR)
  | (have q2 := t2; (with_reducible refine at_alloc ?_); refine new_lawC _ _ zero_chr ?_; intro w3 V3 B3 l3; have HC := hdH (V3); have HA := vB HA B3 (vlt HA.out); have HP := hdH (HP.out.below B3 (HP.out.lt (by simp))); have BB := bT BB B3; obtain ⟨r0, r1, r2, r3, r4, r5, r6, r7, r8, r9⟩ := vK10 HA.out; have u0 : w3.cell? ⟨w1.heap.size, 0, none⟩ = some (.int .i64 (b : Int)) := HP.out.cell0 0 (by simp); have u1 : w3.cell? ⟨w1.heap.size, 1, none⟩ = some (.int .i64 (p : Int)) := HP.out.cell0 1 (by simp); clear V3 B3 t2; have t3 := tR)
  | (have q1 := t1; refine box_lawF _ rfl (.tmp 1) 43 rfl .i64 [(b : Int), (p : Int)] rfl ?_; intro w2 X2 B2 l2; have HP := hdH (X2); have HA := vB HA B2 (vlt HA.out); have BB := bT BB B2; clear X2 B2 t1; have t2 := tR)
  | (have q0 := t0; refine box_lawC _ (chr [(N : Int), P, g2, g3, g4, g5] (.slice (some ⟨bb, off, none⟩) N bc) (.slice po pn pc) false (n : Int)) rfl ?_; intro w1 V1 B1 l1; have HA := hdH (V1); have BB := hdH (B1); clear V1 B1 t0; have t1 := tR))
 exact bodyPost_ret (v := .tuple #[.agg (chr [(N : Int), P, g2, g3, g4, g5] (.slice (some ⟨bb, off, none⟩) N bc) (.slice po pn pc) false (n : Int)).toArray, .int .i64 7]) (results_cv rfl _ _ w2.heap.size _ _ rowy_chipR rfl rfl HR3.out) rfl ⟨rfl, BB.out⟩
theorem rpg_ord (N P : Nat) (g2 g3 g4 g5 : Int) (bq : Option Addr) (bc : Nat) (po : Option Addr) (pn pc : Nat) (S : Nat) (hs : Shp [(N : Int), P, g2, g3, g4, g5] N P S) (n b p : Nat) (hb : b < N) (hp : p < P) (gv uv : Nat → Value) (l : Nat → Int) (s : Nat → Bool) (e : Nat → Int) (pg : Nat → Nat → List Int) (us : Nat → Nat → Int) (vq : Option Addr) (vc : Nat) (w : World)
  (hR : Rws w (.slice bq N bc) 5 (bks N gv uv l s e)) (hB : ∀ b, b < N → Blk w (gv b) (uv b) P (pg b) (us b)) (h7 : s b = false) (h2 : us b p = 0) (h3 : (p : Int) ≤ l b) :
  Calls Try.prog 41 #[.agg (chr [(N : Int), P, g2, g3, g4, g5] (.slice bq N bc) (.slice po pn pc) false (n : Int)).toArray, .agg (ints .i64 [(b : Int), (p : Int)]), .slice vq S vc] w fun x w' => x = .returned (.tuple #[.agg (chr [(N : Int), P, g2, g3, g4, g5] (.slice bq N bc) (.slice po pn pc) false (n : Int)).toArray, .int .i64 6]) ∧ Below w.heap.size w w' := by
 have HQS : IntKind.i64.wrap (g2 + 88) = (S : Int) := by
  obtain ⟨gl, hr, z0, z1, z2⟩ := hs
  obtain ⟨k1, k2, k3, -⟩ := hr.1
  have e1 : gb [(N : Int), P, g2, g3, g4, g5] 2 = g2 := rfl
  rw [IntKind.wrap_i64]; omega
 have b0 : (0 : Int) ≤ (b : Int) := by omega
 have b1 : (b : Int) < (N : Int) := by omega
 have p0 : (0 : Int) ≤ (p : Int) := by omega
 have p1 : (p : Int) < (P : Int) := by omega
 have SR : Hid (∀ w, Calls Try.prog 23 #[.agg (ints .i64 [(N : Int), P, g2, g3, g4, g5]), .agg (ints .i64 [(b : Int), (p : Int)])] w fun e w' => e = .returned (.bool true) ∧ Below w.heap.size w w') := fun w => by
  have z := place_any [(N : Int), P, g2, g3, g4, g5] N P S hs b p w
  rw [show decide (0 ≤ (b : Int) ∧ (b : Int) < (N : Int) ∧ 0 ≤ (p : Int) ∧ (p : Int) < (P : Int)) = true from decide_eq_true ⟨b0, b1, p0, p1⟩] at z
  exact z
 obtain ⟨⟨xv, hx1, hx2⟩, hy1⟩ := hB b hb
 obtain ⟨xq, xc, hx⟩ := rws_form hx1 (pgc_len P xv)
 obtain ⟨yq, yc, hy⟩ := rws_form hy1 (usc_len P (us b))
 rw [hx] at hx1
 rw [hy] at hy1
 obtain ⟨xb, xo, hxq, hcx⟩ := hx1.at (t := p) (by rw [pgc_len]; exact hp)
 obtain ⟨yb, yo, hyq, hcy⟩ := hy1.at (t := p) (by rw [usc_len]; exact hp)
 subst hxq
 subst hyq
 rw [pgc_el P xv p hp] at hcx
 rw [usc_el P (us b) p hp] at hcy
 have CX : Hid (∀ w', Below w.heap.size w w' → w'.cell? ⟨xb, xo + p, none⟩ = some (xv p)) := fun w' h => by
  have z := hcx 0 _ rfl
  rw [Nat.mul_one, Nat.add_zero] at z
  rw [h.cell (World.block_lt_of_cell? w _ z)]; exact z
 have CY : Hid (∀ w', Below w.heap.size w w' → w'.cell? ⟨yb, yo + p, none⟩ = some (.int .i64 (us b p))) := fun w' h => by
  have z := hcy 0 _ rfl
  rw [Nat.mul_one, Nat.add_zero] at z
  rw [h.cell (World.block_lt_of_cell? w _ z)]; exact z
 have hc9 := hR.at (t := b) (by rw [bks_len]; exact hb)
 obtain ⟨bb, off, hbq, hc⟩ := hc9
 subst hbq
 rw [bks_el N gv uv l s e b hb, hx, hy] at hc
 have HC0 : Hid (∀ w', Below w.heap.size w w' → w'.rangeAt bb (off + b * 5) (bkc (.slice (some ⟨xb, xo, none⟩) P xc) (.slice (some ⟨yb, yo, none⟩) P yc) (l b) (s b) (e b))) := fun w' h => range_heap hc (h.block bb (range_lt hc (by simp [bkc])))
 rw [h2] at CY
 have H7 := hdH (h7)
 clear h7
 clear hs hR hB hc hx1 hx2 hy1 hcx hcy CX
 have t0 := tR
 go_enter Try.func41, Try.ntmps41
 go_wp2_with (first
  | (have q6 := t6; (with_reducible refine at_store ?_); refine store_lawC _ (chr [(N : Int), P, g2, g3, g4, g5] (.slice (some ⟨bb, off, none⟩) N bc) (.slice po pn pc) false (n : Int)) w2.heap.size 0 rfl rfl HC.out.2 rowy_chipR.2 chrO ?_; intro w9 E9 R9 T9 B9; have HR3 := hdH (R9); have BB := hdH (BB.out.trans (B9.mono (by have := HL.out; omega))); clear E9 R9 T9 B9 t6)
  | (have q5 := t5; (with_reducible refine at_store ?_); refine store_lawC _ (bkc (.slice (some ⟨xb, xo, none⟩) P xc) (.slice (some ⟨yb, yo, none⟩) P yc) (l b) (s b) (e b)) w4.heap.size 0 rfl rfl HX0.out.2 rowy_blk.2 bkcO ?_; intro w6 E6 R6 T6 B6; have HX : Hid (Vr w6 w4.heap.size (bkc (.slice (some ⟨xb, xo, none⟩) P xc) (.slice (some ⟨yb, yo, none⟩) P yc) (l b) (s b) (e b))) := ⟨R6, T6⟩; have HA := hdH (HA.out.below B6 (by have := HL.out; omega)); have HC := hdH (HC.out.below B6 (by have := HL.out; omega)); have HP := hdH (HP.out.below B6 (by have := HL.out; omega)); have BB := hdH (BB.out.trans (B6.mono (by have := HL.out; omega))); have l6 : w4.heap.size < w6.heap.size := Nat.lt_of_lt_of_le l5 B6.size; obtain ⟨r0, r1, r2, r3, r4, r5, r6, r7, r8, r9⟩ := vK10 HA.out; have u0 : w6.cell? ⟨w1.heap.size, 0, none⟩ = some (.int .i64 (b : Int)) := HP.out.cell0 0 (by simp); have u1 : w6.cell? ⟨w1.heap.size, 1, none⟩ = some (.int .i64 (p : Int)) := HP.out.cell0 1 (by simp); obtain ⟨x0, x1, x2, x3, x4⟩ := vK5 HX.out; have cy := CY.out w6 BB.out; have h7 := H7.out; clear E6 R6 T6 B6 t5; have t6 := tR)
  | (have q4 := t4; (with_reducible refine at_alloc ?_); refine new_lawC _ _ zero_blk ?_; intro w5 V5 B5 l5; have HX0 := hdH (V5); have HA := vB HA B5 (vlt HA.out); have HC := vB HC B5 (vlt HC.out); have HP := hdH (HP.out.below B5 (HP.out.lt (by simp))); have BB := bT BB B5; clear d0 d1 d2 d3 d4; clear r0 r1 r2 r3 r4 r5 r6 r7 r8 r9; clear u0 u1 V5 B5 t4; have t5 := tR)
  | (have q3 := t3; go_at_call 23; refine (SR.out _).mono ?_; rintro e9 w4 ⟨rfl, B4⟩; have HC := vB HC B4 (vlt HC.out); have HA := vB HA B4 (vlt HA.out); have HP := hdH (HP.out.below B4 (HP.out.lt (by simp))); have BB := bT BB B4; have HL : Hid (w.heap.size < w1.heap.size ∧ w1.heap.size < w2.heap.size ∧ w2.heap.size < w4.heap.size) := ⟨l1, l2, Nat.lt_of_lt_of_le l3 B4.size⟩; clear r0 r1 r2 r3 r4 r5 r6 r7 r8 r9; clear u0 u1; obtain ⟨r0, r1, r2, r3, r4, r5, r6, r7, r8, r9⟩ := vK10 HA.out; have u0 : w4.cell? ⟨w1.heap.size, 0, none⟩ = some (.int .i64 (b : Int)) := HP.out.cell0 0 (by simp); have u1 : w4.cell? ⟨w1.heap.size, 1, none⟩ = some (.int .i64 (p : Int)) := HP.out.cell0 1 (by simp); have hcc := HC0.out w4 BB.out; have d0 := hcc 0 _ rfl; rw [Nat.add_zero] at d0; have d1 := hcc 1 _ rfl; have d2 := hcc 2 _ rfl; have d3 := hcc 3 _ rfl; have d4 := hcc 4 _ rfl; clear hcc B4 t3; have t4 := tR)
  | (have q2 := t2; (with_reducible refine at_alloc ?_); refine new_lawC _ _ zero_chr ?_; intro w3 V3 B3 l3; have HC := hdH (V3); have HA := vB HA B3 (vlt HA.out); have HP := hdH (HP.out.below B3 (HP.out.lt (by simp))); have BB := bT BB B3; obtain ⟨r0, r1, r2, r3, r4, r5, r6, r7, r8, r9⟩ := vK10 HA.out; have u0 : w3.cell? ⟨w1.heap.size, 0, none⟩ = some (.int .i64 (b : Int)) := HP.out.cell0 0 (by simp); have u1 : w3.cell? ⟨w1.heap.size, 1, none⟩ = some (.int .i64 (p : Int)) := HP.out.cell0 1 (by simp); clear V3 B3 t2; have t3 := tR)
  | (have q1 := t1; refine box_lawF _ rfl (.tmp 1) 43 rfl .i64 [(b : Int), (p : Int)] rfl ?_; intro w2 X2 B2 l2; have HP := hdH (X2); have HA := vB HA B2 (vlt HA.out); have BB := bT BB B2; clear X2 B2 t1; have t2 := tR)
  | (have q0 := t0; refine box_lawC _ (chr [(N : Int), P, g2, g3, g4, g5] (.slice (some ⟨bb, off, none⟩) N bc) (.slice po pn pc) false (n : Int)) rfl ?_; intro w1 V1 B1 l1; have HA := hdH (V1); have BB := hdH (B1); clear V1 B1 t0; have t1 := tR))
 exact bodyPost_ret (v := .tuple #[.agg (chr [(N : Int), P, g2, g3, g4, g5] (.slice (some ⟨bb, off, none⟩) N bc) (.slice po pn pc) false (n : Int)).toArray, .int .i64 6]) (results_cv rfl _ _ w2.heap.size _ _ rowy_chipR rfl rfl HR3.out) rfl ⟨rfl, BB.out⟩
end Go.Proofs.Ytikcohjhhoiakaa.na
