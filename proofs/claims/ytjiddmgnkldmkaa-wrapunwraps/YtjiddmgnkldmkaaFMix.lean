/- What field's weigh, Mix and Unmix answer. No claim of its own. -/
import Derived.Test.YtjiddmgnkldmkaaFMixM
import Derived.Test.YtjiddmgnkldmkaaFRef
import Derived.Test.YtjiddmgnkldmkaaQuiet2
namespace Go.Proofs.Ytjiddmgnkldmkaa
open Go.RowKit

theorem i_arr4 : (Try.prog.info? 48).map (·.size) = some 4 := by kernel_rfl
theorem z_arr4 : (Try.prog.info? 48).map (fun i => (i.zero, i.size)) = some (some (.agg (ints .u8 z4)), z4.length) := by kernel_rfl

/-- an array's element -/
theorem idx4 {ops : Array Oper} {rest : List Oper} {o : Oper} {a : Act} {Q : Exit → Act → World → Prop} (w : World) (hg : o.guard = none) (x y : Operand) (hop : o.op = Op.index 48 x y) (xs : List Int) (I : Int) (i : Nat) (hx : a.eval x = .agg (ints .u8 xs)) (hy : a.eval y = .int .i64 I) (hI : I = (i : Int)) (hl : xs.length = 4) (hi : i < 4)
    (q : Int) (hq : q = gb xs i) (hK : wpList Try.prog ops Q rest (a.put o.dst (.int .u8 q)) w) : wpList Try.prog ops Q (o :: rest) a w := by
  subst hq
  subst hI
  refine wpList_plain hg fun K hK' => ?_
  have e : (ints .u8 xs)[i]? = some (.int .u8 (gb xs i)) := by simp [ints, gb, List.getD, show i < xs.length by omega]
  have hu := Try.underlying48
  have hu2 := Try.underlying5
  have hsz : (ints .u8 xs).size = 4 := by simp [ints, hl]
  have hr : (Instr.index 48 (.agg (ints .u8 xs)) (.int .i64 i)).run Try.prog w = .ok (.int .u8 (gb xs i)) w := by
    simp [Instr.index, asIntOf, run_underlying hu, run_underlying hu2, Go.part, isAgg, e]
    intro h; omega
  unfold Oper.wp execOp
  simp only [hop, hx, hy, Sem.run_bind, Sem.run_pure, Result.andThen_ok, hr]
  exact hK' _ _ hK

set_option linter.unusedSimpArgs false in
set_option maxRecDepth 20000 in
set_option maxHeartbeats 4000000 in
theorem weigh_any (cs vs : List Nat) (w : World) (hc : Col cs) (hv : Col vs) :
    Calls Try.prog 75 #[.agg (ints .u8 (cI cs)), .agg (ints .u8 (cI vs))] w fun e w' => e = .returned (.agg (ints .u8 (cI (trn cs vs)))) ∧ Below w.heap.size w w' := by
  have HC : Hid (Col cs) := hc
  have HV : Hid (Col vs) := hv
  have LC : Hid ((cI cs).length = 4) := by show _ = _; rw [cI_len]; exact hc.1
  have LV : Hid ((cI vs).length = 4) := by show _ = _; rw [cI_len]; exact hv.1
  have GC : Hid (∀ i, gb (cI cs) i = (gn cs i : Int)) := gb_cI cs
  have GV : Hid (∀ i, gb (cI vs) i = (gn vs i : Int)) := gb_cI vs
  have HE : Hid (prt cs vs 4 0 = cI (trn cs vs) ∧ (cI (trn cs vs)).length = 4) := ⟨prt_end cs vs, rfl⟩
  have HZ : Hid (prt cs vs 0 0 = z4) := prt_zero cs vs
  obtain ⟨xs, hxs⟩ : ∃ xs, xs = cI cs := ⟨_, rfl⟩
  obtain ⟨ys, hys⟩ : ∃ ys, ys = cI vs := ⟨_, rfl⟩
  obtain ⟨zs, hzs⟩ : ∃ zs, zs = cI (trn cs vs) := ⟨_, rfl⟩
  rw [← hxs] at LC GC
  rw [← hys] at LV GV
  rw [← hzs] at HE
  rw [← hxs, ← hys, ← hzs]
  clear hxs hys hzs hc hv
  go_enter Try.func75, Try.ntmps75
  go_wp2_with (first
    | (refine box_lawF _ rfl (.tmp 0) 48 rfl .u8 xs rfl ?_; intro w1 A1 B1 s1; have HA1 : Hid (Ar w1 w.heap.size 0 .u8 xs) := A1; clear A1)
    | (refine box_lawF _ rfl (.tmp 1) 48 rfl .u8 ys rfl ?_; intro w2 A2 B2 s2; have HA2 : Hid (Ar w2 w1.heap.size 0 .u8 ys) := A2; clear A2)
    | (have q2 := s2; have q3 := s3; refine new_lawF _ rfl 48 rfl .u8 z4 z_arr4 ?_; intro w4 A4 B4 s4; have HA4 : Hid (Ar w4 w3.heap.size 0 .u8 z4) := A4; clear A4)
    | (have q2 := s2; refine new_lawF _ rfl 48 rfl .u8 z4 z_arr4 ?_; intro w3 A3 B3 s3; have HA3 : Hid (Ar w3 w2.heap.size 0 .u8 z4) := A3; clear A3))
  have D1 : Hid (Ar w3 w.heap.size 0 .u8 xs) := (HA1.out.below B2 s1).below B3 (by omega)
  have D2 : Hid (Ar w3 w1.heap.size 0 .u8 ys) := HA2.out.below B3 s2
  have BW : Below w.heap.size w w3 := (B1.trans (B2.mono (by omega))).trans (B3.mono (by omega))
  have o1 : w.heap.size < w3.heap.size := by omega
  have o2 : w1.heap.size < w3.heap.size := by omega
  have o3 : w2.heap.size < w3.heap.size := by omega
  generalize w2.heap.size = g2 at *
  generalize w1.heap.size = g1 at *
  generalize w3.heap.size = g3 at *
  go_loopw [9] (fun i wr => ∃ k : Nat, k ≤ 4 ∧ i = .int .i64 k ∧ Ar wr g3 0 .u8 (prt cs vs k 0) ∧ Below g3 w3 wr) (fun i _ => 4 - (intOf i).toNat)
  case atStart => exact ⟨0, Nat.zero_le _, rfl, by rw [HZ.out]; exact HA4.out, B4⟩
  case round =>
    obtain ⟨k, hk, rfl, hA, hB⟩ := hrel
    obtain ⟨wa, rfl⟩ : ∃ wx, wx = wr := ⟨_, rfl⟩
    have k0 : (0 : Int) ≤ (k : Int) := by omega
    have q1 : IntKind.i64.wrap (k : Int) = k := by rw [IntKind.wrap_i64]; omega
    have HB : Hid (Below g3 w3 wa) := hB
    have HA : Hid (Ar wa g3 0 .u8 (prt cs vs k 0)) := hA
    clear hA
    by_cases hlt : k < 4
    · have k1 : (k : Int) < 4 := by omega
      go_wp2_with (refine load_law _ rfl (.tmp 3) 48 rfl .u8 ys g1 0 rfl (D2.out.below HB.out o2) 4 5 Try.underlying48 i_arr4 LV.out ?_)
      go_loopw [13] (fun j wr => ∃ m : Nat, m ≤ 4 ∧ j = .int .i64 m ∧ Ar wr g3 0 .u8 (prt cs vs k m) ∧ Below g3 w3 wr) (fun j _ => 4 - (intOf j).toNat)
      case atStart => exact ⟨0, Nat.zero_le _, rfl, HA.out, HB.out⟩
      case round =>
        obtain ⟨m, hm, rfl, hA', hB'⟩ := hrel
        obtain ⟨wb, rfl⟩ : ∃ wx, wx = wr := ⟨_, rfl⟩
        clear HA HB hB
        have m0 : (0 : Int) ≤ (m : Int) := by omega
        have q2 : IntKind.i64.wrap (m : Int) = m := by rw [IntKind.wrap_i64]; omega
        by_cases hmt : m < 4
        · have m1 : (m : Int) < 4 := by omega
          obtain ⟨j, hj⟩ : ∃ j, j = (k + m) % 4 := ⟨_, rfl⟩
          have j0 : (0 : Int) ≤ (j : Int) := by omega
          have j1 : (j : Int) < 4 := by omega
          have q3 : IntKind.i64.wrap (j : Int) = j := by rw [IntKind.wrap_i64]; omega
          have q4 : IntKind.i64.wrap ((k : Int) + (m : Int)) = (k : Int) + (m : Int) := by rw [IntKind.wrap_i64]; omega
          have r1 : ((k : Int) + (m : Int)) % 4 = (j : Int) := by omega
          have r2 : ((k : Int) + (m : Int)).tmod 4 = (j : Int) := by rw [Int.tmod_eq_emod_of_nonneg (by omega)]; omega
          have c0 := hA'.cell0 k (by rw [prt_len]; omega)
          rw [prt_at cs vs k m hlt] at c0
          have c1 := (D1.out.below hB' o1).cell0 j (by rw [LC.out]; omega)
          rw [GC.out] at c1
          have HM : Hid (∀ w0, Calls Try.prog 79 #[.int .u8 (gn cs j), .int .u8 (gn vs m)] w0 fun e w' => e = .returned (.int .u8 (gm (gn vs m) (gn cs j))) ∧ w' = w0) := fun w0 => by rw [gm_comm (gn vs m) (gn cs j) (HV.out.2 m) (HC.out.2 j)]; exact mul_any _ _ w0 (HC.out.2 j) (HV.out.2 m)
          have hx := u8_xor_nat (acc cs vs k m) (gm (gn vs m) (gn cs j)) (acc_lt cs vs HV.out k m) (gm_lt _ _ (HV.out.2 m))
          have hy : acc cs vs k m ^^^ gm (gn vs m) (gn cs j) = acc cs vs k (m + 1) := by rw [hj]; rfl
          rw [hy] at hx
          have HS : Hid ((prt cs vs k m).set k ((acc cs vs k (m + 1) : Nat) : Int) = prt cs vs k (m + 1)) := prt_set cs vs k m
          have HGV : Hid (((gn vs m : Nat) : Int) = gb ys m) := (GV.out m).symm
          have HA' : Hid (Ar wb g3 0 .u8 (prt cs vs k m)) := hA'
          have HB' : Hid (Below g3 w3 wb) := hB'
          clear hA' hB' hy hj
          generalize acc cs vs k (m + 1) = y1 at *
          generalize acc cs vs k m = y0 at *
          generalize gm (gn vs m) (gn cs j) = p at *
          generalize gn cs j = c at *
          generalize gn vs m = v at *
          go_wp2_with (refine idx4 _ rfl (.tmp 12) (.tmp 13) rfl ys _ m rfl rfl rfl LV.out (by omega) (v : Int) HGV.out ?_)
          refine wp_region_any (by kernel_rfl) ?_
          change wpAny _ _ _ _ _ _ _ (World.drew _)
          refine wpAny_quiet_then (C := fun w' => ∃ n, w' = wb.drewN n) 0 13 1 _ (by kernel_rfl) rfl (by kernel_rfl) (by kernel_rfl) ⟨1, rfl⟩ ?_
          simp only [List.take_succ_cons, List.take_zero, List.drop_zero]
          repeat (quiet_step (with_reducible exact Calls.quiet_of_same (HM.out _)))
          refine wpQuiet_nil ?_
          rintro f _ ⟨nq, rfl⟩
          have A1 := HA'.out.drewN nq
          have A2 := A1.set0 k (by rw [prt_len]; omega) (y1 : Int)
          rw [HS.out] at A2
          have B2' : Below g3 w3 ((wb.drewN nq).setCell ⟨g3, k, none⟩ (.int .u8 (y1 : Int))) := (below_drewN HB'.out nq).setCell (Nat.le_refl _) _
          refine wpAny_ready (rs := [13]) (by kernel_rfl) (by simp) ?_
          refine AllReady.cons rfl (fun K hK => ?_) AllReady.nil
          refine step_set _ rfl none rfl (.tmp 29) (.tmp 28) 5 rfl .u8 (y1 : Int) g3 k rfl (by first | rfl | (rw [← hx]; rfl)) (by rw [A1.cell0 k (by rw [prt_len]; omega)]; rfl) (A1.free0 k (by rw [prt_len]; omega)) i_u8 (hK _ _ ?_)
          simp only [Act.put, List.setIfInBounds_toArray, List.set_cons_zero, List.set_cons_succ]
          have HA6 : Hid (Ar ((wb.drewN nq).setCell ⟨g3, k, none⟩ (.int .u8 (y1 : Int))) g3 0 .u8 (prt cs vs k (m + 1))) := A2
          have HB6 : Hid (Below g3 w3 ((wb.drewN nq).setCell ⟨g3, k, none⟩ (.int .u8 (y1 : Int)))) := B2'
          clear A1 A2 B2' c0 c1
          generalize (wb.drewN nq).setCell ⟨g3, k, none⟩ (.int .u8 (y1 : Int)) = w6 at *
          refine wpAny_done (by kernel_rfl) ?_ _
          go_wp2
          go_roundw
          case rel => exact ⟨m + 1, by omega, by go_num, HA6.out, HB6.out⟩
          case measure => simp [intOf]; omega
        · have hm4 : m = 4 := by omega
          subst hm4
          rw [prt_row cs vs k hlt] at hA'
          have HA6 : Hid (Ar wb g3 0 .u8 (prt cs vs (k + 1) 0)) := hA'
          have HB6 : Hid (Below g3 w3 wb) := hB'
          clear hA' hB'
          go_wp2
          go_roundw
          case rel => exact ⟨k + 1, by omega, by go_num, HA6.out, HB6.out⟩
          case measure => simp [intOf]; omega
    · have hk4 : k = 4 := by omega
      subst hk4
      rw [HE.out.1] at HA
      have D3 : Hid (Ar wa g2 0 .u8 z4) := HA3.out.below HB.out o3
      go_wp2_with (first
        | (refine load_law _ rfl (.tmp 5) 48 rfl .u8 zs g3 0 rfl HA.out 4 5 Try.underlying48 i_arr4 HE.out.2 ?_)
        | (refine store_lawF _ rfl (.tmp 4) (.tmp 32) 48 rfl .u8 z4 zs g2 rfl rfl D3.out 4 i_arr4 rfl HE.out.2 ?_; intro w7 A7 B7))
      refine bodyPost_ret (v := .agg (ints .u8 zs)) (results_ar rfl _ _ g2 0 .u8 zs rfl A7 4 5 Try.underlying48 i_arr4 HE.out.2) rfl ⟨rfl, ?_⟩
      exact (BW.trans (hB.mono (by omega))).trans (B7.mono (by omega))

set_option maxHeartbeats 2000000 in
theorem mix_any (cs : List Nat) (w : World) (hc : Col cs) :
    Calls Try.prog 60 #[.agg (ints .u8 (cI cs))] w fun e w' => e = .returned (.agg (ints .u8 (cI (trn cs mixW)))) ∧ Below w.heap.size w w' := by
  have HW : Hid (∀ w0, Calls Try.prog 75 #[.agg (ints .u8 (cI cs)), .agg (ints .u8 (cI mixW))] w0 fun e w' => e = .returned (.agg (ints .u8 (cI (trn cs mixW)))) ∧ Below w0.heap.size w0 w') := fun w0 => weigh_any cs mixW w0 hc mixW_col
  have LC : Hid ((cI cs).length = 4) := by show _ = _; rw [cI_len]; exact hc.1
  have LZ : Hid ((cI (trn cs mixW)).length = 4) := rfl
  obtain ⟨ys, hys⟩ : ∃ ys, ys = cI mixW := ⟨_, rfl⟩
  have HY : Hid (ys = cI mixW) := hys
  rw [← hys] at HW
  generalize cI (trn cs mixW) = zs at *
  generalize cI cs = xs at *
  clear hys hc
  go_enter Try.func60, Try.ntmps60
  go_wp2_with (first
    | (refine box_lawF _ rfl (.tmp 0) 48 rfl .u8 xs rfl ?_; intro w1 A1 B1 s1; have HA1 : Hid (Ar w1 w.heap.size 0 .u8 xs) := A1; clear A1)
    | (have q1 := s1; refine new_lawF _ rfl 48 rfl .u8 z4 z_arr4 ?_; intro w2 A2 B2 s2; have HA2 : Hid (Ar w2 w1.heap.size 0 .u8 z4) := A2; clear A2; have D1 : Hid (Ar w2 w.heap.size 0 .u8 xs) := HA1.out.below B2 s1)
    | (have q2 := s2; refine load_law _ rfl (.tmp 1) 48 rfl .u8 xs w.heap.size 0 rfl D1.out 4 5 Try.underlying48 i_arr4 LC.out ?_)
    | (have q2 := s2; refine build_law _ rfl 48 _ rfl (.agg (ints .u8 ys)) (by rw [HY.out]; kernel_rfl) ?_)
    | (go_at_call 75; refine (HW.out _).mono ?_; rintro e w3 ⟨rfl, B3⟩; have HA3 : Hid (Ar w3 w1.heap.size 0 .u8 z4) := HA2.out.below B3 s2)
    | (refine store_lawF _ rfl (.tmp 2) (.tmp 5) 48 rfl .u8 z4 zs w1.heap.size rfl rfl HA3.out 4 i_arr4 rfl LZ.out ?_; intro w4 A4 B4))
  refine bodyPost_ret (v := .agg (ints .u8 zs)) (results_ar rfl _ _ w1.heap.size 0 .u8 zs rfl A4 4 5 Try.underlying48 i_arr4 LZ.out) rfl ⟨rfl, ?_⟩
  exact ((B1.trans (B2.mono (by omega))).trans (B3.mono (by omega))).trans (B4.mono (by omega))

set_option maxHeartbeats 2000000 in
theorem unmix_any (cs : List Nat) (w : World) (hc : Col cs) :
    Calls Try.prog 69 #[.agg (ints .u8 (cI cs))] w fun e w' => e = .returned (.agg (ints .u8 (cI (trn cs unmW)))) ∧ Below w.heap.size w w' := by
  have HW : Hid (∀ w0, Calls Try.prog 75 #[.agg (ints .u8 (cI cs)), .agg (ints .u8 (cI unmW))] w0 fun e w' => e = .returned (.agg (ints .u8 (cI (trn cs unmW)))) ∧ Below w0.heap.size w0 w') := fun w0 => weigh_any cs unmW w0 hc unmW_col
  have LC : Hid ((cI cs).length = 4) := by show _ = _; rw [cI_len]; exact hc.1
  have LZ : Hid ((cI (trn cs unmW)).length = 4) := rfl
  obtain ⟨ys, hys⟩ : ∃ ys, ys = cI unmW := ⟨_, rfl⟩
  have HY : Hid (ys = cI unmW) := hys
  rw [← hys] at HW
  generalize cI (trn cs unmW) = zs at *
  generalize cI cs = xs at *
  clear hys hc
  go_enter Try.func69, Try.ntmps69
  go_wp2_with (first
    | (refine box_lawF _ rfl (.tmp 0) 48 rfl .u8 xs rfl ?_; intro w1 A1 B1 s1; have HA1 : Hid (Ar w1 w.heap.size 0 .u8 xs) := A1; clear A1)
    | (have q1 := s1; refine new_lawF _ rfl 48 rfl .u8 z4 z_arr4 ?_; intro w2 A2 B2 s2; have HA2 : Hid (Ar w2 w1.heap.size 0 .u8 z4) := A2; clear A2; have D1 : Hid (Ar w2 w.heap.size 0 .u8 xs) := HA1.out.below B2 s1)
    | (have q2 := s2; refine load_law _ rfl (.tmp 1) 48 rfl .u8 xs w.heap.size 0 rfl D1.out 4 5 Try.underlying48 i_arr4 LC.out ?_)
    | (have q2 := s2; refine build_law _ rfl 48 _ rfl (.agg (ints .u8 ys)) (by rw [HY.out]; kernel_rfl) ?_)
    | (go_at_call 75; refine (HW.out _).mono ?_; rintro e w3 ⟨rfl, B3⟩; have HA3 : Hid (Ar w3 w1.heap.size 0 .u8 z4) := HA2.out.below B3 s2)
    | (refine store_lawF _ rfl (.tmp 2) (.tmp 5) 48 rfl .u8 z4 zs w1.heap.size rfl rfl HA3.out 4 i_arr4 rfl LZ.out ?_; intro w4 A4 B4))
  refine bodyPost_ret (v := .agg (ints .u8 zs)) (results_ar rfl _ _ w1.heap.size 0 .u8 zs rfl A4 4 5 Try.underlying48 i_arr4 LZ.out) rfl ⟨rfl, ?_⟩
  exact ((B1.trans (B2.mono (by omega))).trans (B3.mono (by omega))).trans (B4.mono (by omega))
end Go.Proofs.Ytjiddmgnkldmkaa
