/- What the reference's Turned answers. No claim of its own. -/
import Derived.Test.YtjiddmgnkldmkaaFMix
namespace Go.Proofs.Ytjiddmgnkldmkaa
open Go.RowKit

set_option linter.unusedSimpArgs false in
set_option maxRecDepth 20000 in
set_option maxHeartbeats 4000000 in
theorem turned_any (cs vs : List Nat) (w : World) (hc : Col cs) (hv : Col vs) :
    Calls Try.prog 64 #[.agg (ints .u8 (cI cs)), .agg (ints .u8 (cI vs))] w fun e w' => e = .returned (.agg (ints .u8 (cI (trn cs vs)))) ∧ Below w.heap.size w w' := by
  have HC : Hid (Col cs) := hc
  have HV : Hid (Col vs) := hv
  have LC : Hid ((cI cs).length = 4) := by show _ = _; rw [cI_len]; exact hc.1
  have LV : Hid ((cI vs).length = 4) := by show _ = _; rw [cI_len]; exact hv.1
  have GC : Hid (∀ i, gb (cI cs) i = (gn cs i : Int)) := gb_cI cs
  have GV : Hid (∀ i, gb (cI vs) i = (gn vs i : Int)) := gb_cI vs
  have HE : Hid (prt cs vs 4 0 = cI (trn cs vs) ∧ (cI (trn cs vs)).length = 4) := ⟨prt_end cs vs, rfl⟩
  have HZ : Hid (prt cs vs 0 0 = z4) := prt_zero cs vs
  obtain ⟨xs, hxs⟩ : ∃ xs, xs = cI cs := ⟨_, rfl⟩
  obtain ⟨ys, hys⟩ : ∃ ys, ys = cI vs := ⟨_, rfl⟩
  obtain ⟨zs, hzs⟩ : ∃ zs, zs = cI (trn cs vs) := ⟨_, rfl⟩
  rw [← hxs] at LC GC
  rw [← hys] at LV GV
  rw [← hzs] at HE
  rw [← hxs, ← hys, ← hzs]
  clear hxs hys hzs hc hv
  go_enter Try.func64, Try.ntmps64
  go_wp2_with (first
    | (refine box_lawF _ rfl (.tmp 0) 48 rfl .u8 xs rfl ?_; intro w1 A1 B1 s1; have HA1 : Hid (Ar w1 w.heap.size 0 .u8 xs) := A1; clear A1)
    | (refine box_lawF _ rfl (.tmp 1) 48 rfl .u8 ys rfl ?_; intro w2 A2 B2 s2; have HA2 : Hid (Ar w2 w1.heap.size 0 .u8 ys) := A2; clear A2)
    | (have q2 := s2; have q3 := s3; refine build_law _ rfl 48 _ rfl (.agg (ints .u8 z4)) (by kernel_rfl) ?_)
    | (have q2 := s2; have q3 := s3; have q4 := s4; refine store_lawF _ rfl (.tmp 5) (.tmp 7) 48 rfl .u8 z4 z4 w3.heap.size rfl rfl HA4.out 4 i_arr4 rfl rfl ?_; intro w5 A5 B5; have HA5 : Hid (Ar w5 w3.heap.size 0 .u8 z4) := A5; clear A5)
    | (have q2 := s2; have q3 := s3; refine new_lawF _ rfl 48 rfl .u8 z4 z_arr4 ?_; intro w4 A4 B4 s4; have HA4 : Hid (Ar w4 w3.heap.size 0 .u8 z4) := A4; clear A4)
    | (have q2 := s2; refine new_lawF _ rfl 48 rfl .u8 z4 z_arr4 ?_; intro w3 A3 B3 s3; have HA3 : Hid (Ar w3 w2.heap.size 0 .u8 z4) := A3; clear A3))
  have D1 : Hid (Ar w3 w.heap.size 0 .u8 xs) := (HA1.out.below B2 s1).below B3 (by omega)
  have D2 : Hid (Ar w3 w1.heap.size 0 .u8 ys) := HA2.out.below B3 s2
  have BW : Below w.heap.size w w3 := (B1.trans (B2.mono (by omega))).trans (B3.mono (by omega))
  have BS : Below w3.heap.size w3 w5 := B4.trans B5
  have o1 : w.heap.size < w3.heap.size := by omega
  have o2 : w1.heap.size < w3.heap.size := by omega
  have o3 : w2.heap.size < w3.heap.size := by omega
  generalize w2.heap.size = g2 at *
  generalize w1.heap.size = g1 at *
  generalize w3.heap.size = g3 at *
  go_loopw [6] (fun i wr => ∃ k : Nat, k ≤ 4 ∧ i = .int .i64 k ∧ Ar wr g3 0 .u8 (prt cs vs k 0) ∧ Below g3 w3 wr) (fun i _ => 4 - (intOf i).toNat)
  case atStart => exact ⟨0, Nat.zero_le _, rfl, by rw [HZ.out]; exact HA5.out, BS⟩
  case round =>
    obtain ⟨k, hk, rfl, hA, hB⟩ := hrel
    obtain ⟨wa, rfl⟩ : ∃ wx, wx = wr := ⟨_, rfl⟩
    have k0 : (0 : Int) ≤ (k : Int) := by omega
    have q1 : IntKind.i64.wrap (k : Int) = k := by rw [IntKind.wrap_i64]; omega
    have HB : Hid (Below g3 w3 wa) := hB
    have HA : Hid (Ar wa g3 0 .u8 (prt cs vs k 0)) := hA
    clear hA hB
    by_cases hlt : k < 4
    · have k1 : (k : Int) < 4 := by omega
      have c0 := (D1.out.below HB.out o1).cell0 k (by rw [LC.out]; omega)
      rw [GC.out] at c0
      obtain ⟨j1, hj1⟩ : ∃ j, j = (k + 1) % 4 := ⟨_, rfl⟩
      have a1 : (0 : Int) ≤ (j1 : Int) := by omega
      have b1 : (j1 : Int) < 4 := by omega
      have p1 : IntKind.i64.wrap (j1 : Int) = j1 := by rw [IntKind.wrap_i64]; omega
      have l1 : IntKind.i64.wrap ((k : Int) + 1) = (k : Int) + 1 := by rw [IntKind.wrap_i64]; omega
      have r1 : ((k : Int) + 1) % 4 = (j1 : Int) := by omega
      have t1 : ((k : Int) + 1).tmod 4 = (j1 : Int) := by rw [Int.tmod_eq_emod_of_nonneg (by omega)]; omega
      have c1 := (D1.out.below HB.out o1).cell0 j1 (by rw [LC.out]; omega)
      rw [GC.out] at c1
      obtain ⟨j2, hj2⟩ : ∃ j, j = (k + 2) % 4 := ⟨_, rfl⟩
      have a2 : (0 : Int) ≤ (j2 : Int) := by omega
      have b2 : (j2 : Int) < 4 := by omega
      have p2 : IntKind.i64.wrap (j2 : Int) = j2 := by rw [IntKind.wrap_i64]; omega
      have l2 : IntKind.i64.wrap ((k : Int) + 2) = (k : Int) + 2 := by rw [IntKind.wrap_i64]; omega
      have r2 : ((k : Int) + 2) % 4 = (j2 : Int) := by omega
      have t2 : ((k : Int) + 2).tmod 4 = (j2 : Int) := by rw [Int.tmod_eq_emod_of_nonneg (by omega)]; omega
      have c2 := (D1.out.below HB.out o1).cell0 j2 (by rw [LC.out]; omega)
      rw [GC.out] at c2
      obtain ⟨j3, hj3⟩ : ∃ j, j = (k + 3) % 4 := ⟨_, rfl⟩
      have a3 : (0 : Int) ≤ (j3 : Int) := by omega
      have b3 : (j3 : Int) < 4 := by omega
      have p3 : IntKind.i64.wrap (j3 : Int) = j3 := by rw [IntKind.wrap_i64]; omega
      have l3 : IntKind.i64.wrap ((k : Int) + 3) = (k : Int) + 3 := by rw [IntKind.wrap_i64]; omega
      have r3 : ((k : Int) + 3) % 4 = (j3 : Int) := by omega
      have t3 : ((k : Int) + 3).tmod 4 = (j3 : Int) := by rw [Int.tmod_eq_emod_of_nonneg (by omega)]; omega
      have c3 := (D1.out.below HB.out o1).cell0 j3 (by rw [LC.out]; omega)
      rw [GC.out] at c3
      have e0 := (D2.out.below HB.out o2).cell0 0 (by rw [LV.out]; omega)
      rw [GV.out] at e0
      have e1 := (D2.out.below HB.out o2).cell0 1 (by rw [LV.out]; omega)
      rw [GV.out] at e1
      have e2 := (D2.out.below HB.out o2).cell0 2 (by rw [LV.out]; omega)
      rw [GV.out] at e2
      have e3 := (D2.out.below HB.out o2).cell0 3 (by rw [LV.out]; omega)
      rw [GV.out] at e3
      have M0 : Hid (∀ w0, Calls Try.prog 67 #[.int .u8 (gn vs 0), .int .u8 (gn cs k)] w0 fun e w' => e = .returned (.int .u8 (gm (gn vs 0) (gn cs k))) ∧ w' = w0) := fun w0 => rmul_any _ _ w0 (HV.out.2 0) (HC.out.2 _)
      have M1 : Hid (∀ w0, Calls Try.prog 67 #[.int .u8 (gn vs 1), .int .u8 (gn cs j1)] w0 fun e w' => e = .returned (.int .u8 (gm (gn vs 1) (gn cs j1))) ∧ w' = w0) := fun w0 => rmul_any _ _ w0 (HV.out.2 1) (HC.out.2 _)
      have M2 : Hid (∀ w0, Calls Try.prog 67 #[.int .u8 (gn vs 2), .int .u8 (gn cs j2)] w0 fun e w' => e = .returned (.int .u8 (gm (gn vs 2) (gn cs j2))) ∧ w' = w0) := fun w0 => rmul_any _ _ w0 (HV.out.2 2) (HC.out.2 _)
      have M3 : Hid (∀ w0, Calls Try.prog 67 #[.int .u8 (gn vs 3), .int .u8 (gn cs j3)] w0 fun e w' => e = .returned (.int .u8 (gm (gn vs 3) (gn cs j3))) ∧ w' = w0) := fun w0 => rmul_any _ _ w0 (HV.out.2 3) (HC.out.2 _)
      have HX : Hid (((tt cs vs k : Nat) : Int) = bits .xor .u8 (bits .xor .u8 (bits .xor .u8 (gm (gn vs 0) (gn cs k) : Nat) (gm (gn vs 1) (gn cs j1) : Nat)) (gm (gn vs 2) (gn cs j2) : Nat)) (gm (gn vs 3) (gn cs j3) : Nat)) := by
        have g0 := gm_lt (gn vs 0) (gn cs k) (HV.out.2 0)
        have g1 := gm_lt (gn vs 1) (gn cs j1) (HV.out.2 1)
        have g2 := gm_lt (gn vs 2) (gn cs j2) (HV.out.2 2)
        have g3 := gm_lt (gn vs 3) (gn cs j3) (HV.out.2 3)
        show _ = _
        rw [u8_xor_nat _ _ g0 g1, u8_xor_nat _ _ (xor_lt _ _ g0 g1) g2, u8_xor_nat _ _ (xor_lt _ _ (xor_lt _ _ g0 g1) g2) g3, hj1, hj2, hj3]
        rfl
      have HS : Hid ((prt cs vs k 0).set k ((tt cs vs k : Nat) : Int) = prt cs vs (k + 1) 0) := prt_put cs vs k hlt
      clear hj1 hj2 hj3
      generalize tt cs vs k = y1 at *
      generalize gm (gn vs 0) (gn cs k) = m0 at *
      generalize gm (gn vs 1) (gn cs j1) = m1 at *
      generalize gm (gn vs 2) (gn cs j2) = m2 at *
      generalize gm (gn vs 3) (gn cs j3) = m3 at *
      generalize gn cs k = u0 at *
      generalize gn cs j1 = u1 at *
      generalize gn cs j2 = u2 at *
      generalize gn cs j3 = u3 at *
      generalize gn vs 0 = v0 at *
      generalize gn vs 1 = v1 at *
      generalize gn vs 2 = v2 at *
      generalize gn vs 3 = v3 at *
      go_wp2
      refine wp_region_any (by kernel_rfl) ?_
      change wpAny _ _ _ _ _ _ _ (World.drew _)
      refine wpAny_quiet_then (C := fun w' => ∃ n, w' = wa.drewN n) 0 35 1 _ (by kernel_rfl) rfl (by kernel_rfl) (by kernel_rfl) ⟨1, rfl⟩ ?_
      simp only [List.take_succ_cons, List.take_zero, List.drop_zero]
      repeat (quiet_step (first
        | with_reducible exact Calls.quiet_of_same (M0.out _)
        | with_reducible exact Calls.quiet_of_same (M1.out _)
        | with_reducible exact Calls.quiet_of_same (M2.out _)
        | with_reducible exact Calls.quiet_of_same (M3.out _)))
      refine wpQuiet_nil ?_
      rintro f _ ⟨nq, rfl⟩
      have A1 := HA.out.drewN nq
      have A2 := A1.set0 k (by rw [prt_len]; omega) (y1 : Int)
      rw [HS.out] at A2
      have B2' : Below g3 w3 ((wa.drewN nq).setCell ⟨g3, k, none⟩ (.int .u8 (y1 : Int))) := (below_drewN HB.out nq).setCell (Nat.le_refl _) _
      refine wpAny_ready (rs := [35]) (by kernel_rfl) (by simp) ?_
      refine AllReady.cons rfl (fun K hK => ?_) AllReady.nil
      refine step_set _ rfl none rfl (.tmp 46) (.tmp 45) 5 rfl .u8 (y1 : Int) g3 k rfl (by rw [HX.out]; rfl) (by rw [A1.cell0 k (by rw [prt_len]; omega)]; rfl) (A1.free0 k (by rw [prt_len]; omega)) i_u8 (hK _ _ ?_)
      simp only [Act.put, List.setIfInBounds_toArray, List.set_cons_zero, List.set_cons_succ]
      have HA6 : Hid (Ar ((wa.drewN nq).setCell ⟨g3, k, none⟩ (.int .u8 (y1 : Int))) g3 0 .u8 (prt cs vs (k + 1) 0)) := A2
      have HB6 : Hid (Below g3 w3 ((wa.drewN nq).setCell ⟨g3, k, none⟩ (.int .u8 (y1 : Int)))) := B2'
      clear A1 A2 B2' c0 c1 c2 c3 e0 e1 e2 e3
      generalize (wa.drewN nq).setCell ⟨g3, k, none⟩ (.int .u8 (y1 : Int)) = w6 at *
      refine wpAny_done (by kernel_rfl) ?_ _
      go_wp2
      go_roundw
      case rel => exact ⟨k + 1, by omega, by go_num, HA6.out, HB6.out⟩
      case measure => simp [intOf]; omega
    · have hk4 : k = 4 := by omega
      subst hk4
      rw [HE.out.1] at HA
      have D3 : Hid (Ar wa g2 0 .u8 z4) := HA3.out.below HB.out o3
      go_wp2_with (first
        | (refine load_law _ rfl (.tmp 5) 48 rfl .u8 zs g3 0 rfl HA.out 4 5 Try.underlying48 i_arr4 HE.out.2 ?_)
        | (refine store_lawF _ rfl (.tmp 4) (.tmp 47) 48 rfl .u8 z4 zs g2 rfl rfl D3.out 4 i_arr4 rfl HE.out.2 ?_; intro w7 A7 B7))
      refine bodyPost_ret (v := .agg (ints .u8 zs)) (results_ar rfl _ _ g2 0 .u8 zs rfl A7 4 5 Try.underlying48 i_arr4 HE.out.2) rfl ⟨rfl, ?_⟩
      exact (BW.trans (HB.out.mono (by omega))).trans (B7.mono (by omega))
end Go.Proofs.Ytjiddmgnkldmkaa
