/- What aes' shifted, shiftedList, Shift and Unshift answer. No claim of its own. -/
import Derived.Test.YtjiddmgnkldmkaaAXor
namespace Go.Proofs.Ytjiddmgnkldmkaa
open Go.RowKit

/-- the first t bytes are there -/
def prs (b : List Int) (n t : Nat) : List Int := (List.range 16).map fun i => if i < t then gb b (shi i n) else 0
theorem prs_len (b : List Int) (n t : Nat) : (prs b n t).length = 16 := by simp [prs]
theorem gb_prs (b : List Int) (n t i : Nat) (h : i < 16) : gb (prs b n t) i = if i < t then gb b (shi i n) else 0 := range_gb _ _ _ h
theorem prs_zero (b : List Int) (n : Nat) : prs b n 0 = z16 := rfl
theorem prs_end (b : List Int) (n : Nat) : prs b n 16 = shl16 b n := ext_gb (by rw [prs_len, shl16_len]) fun t ht => by
  rw [prs_len] at ht
  rw [gb_prs _ _ _ _ ht, if_pos ht, shl16_gb _ _ _ ht]
theorem prs_set (b : List Int) (n t : Nat) : (prs b n t).set t (gb b (shi t n)) = prs b n (t + 1) := ext_gb (by simp [prs]) fun i hi => by
  rw [List.length_set, prs_len] at hi
  rw [gb_set _ _ _ _ (by rw [prs_len]; exact hi), gb_prs _ _ _ _ hi, gb_prs _ _ _ _ hi]
  by_cases e : t = i
  · subst e; simp
  · rw [if_neg e]
    by_cases h : i < t
    · rw [if_pos h, if_pos (by omega)]
    · rw [if_neg h, if_neg (by omega)]
/-- how a step tells a shift -/
def Stp (sg : Int) (n : Nat) : Prop := ∀ c i : Nat, c < 4 → i < 4 → -3 ≤ sg * (i : Int) ∧ sg * (i : Int) ≤ 3 ∧ ((c : Int) + 4 + sg * (i : Int)) % 4 = (((c + n * i) % 4 : Nat) : Int)
theorem stp_one : Stp 1 1 := fun c i hc hi => by omega
theorem stp_neg : Stp (-1) 3 := fun c i hc hi => by omega

set_option linter.unusedSimpArgs false in
set_option maxRecDepth 20000 in
set_option maxHeartbeats 4000000 in
theorem shifted_any (xs : List Int) (sg : Int) (n : Nat) (w : World) (hx : Blk xs) (hst : Stp sg n) :
    Calls Try.prog 58 #[.agg (ints .u8 xs), .int .i64 sg] w fun e w' => e = .returned (.agg (ints .u8 (shl16 xs n))) ∧ Below w.heap.size w w' := by
  have HX : Hid (Blk xs) := hx
  have HST : Hid (Stp sg n) := hst
  have HZ : Hid (prs xs n 0 = z16 ∧ prs xs n 16 = shl16 xs n ∧ (shl16 xs n).length = 16) := ⟨prs_zero xs n, prs_end xs n, shl16_len xs n⟩
  generalize shl16 xs n = zs at *
  clear hx hst
  go_enter Try.func58, Try.ntmps58
  go_wp2_with (first
    | (refine box_lawF _ rfl (.tmp 0) 50 rfl .u8 xs rfl ?_; intro w1 A1 B1 s1; have HA1 : Hid (Ar w1 w.heap.size 0 .u8 xs) := A1; clear A1)
    | (have q2 := s2; refine new_lawF _ rfl 50 rfl .u8 z16 z_st ?_; intro w3 A3 B3 s3; have HA3 : Hid (Ar w3 w2.heap.size 0 .u8 z16) := A3; clear A3)
    | (have q1 := s1; refine new_lawF _ rfl 50 rfl .u8 z16 z_st ?_; intro w2 A2 B2 s2; have HA2 : Hid (Ar w2 w1.heap.size 0 .u8 z16) := A2; clear A2))
  have D1 : Hid (Ar w2 w.heap.size 0 .u8 xs) := HA1.out.below B2 s1
  have BW : Below w.heap.size w w2 := B1.trans (B2.mono (by omega))
  have o1 : w.heap.size < w2.heap.size := by omega
  have o2 : w1.heap.size < w2.heap.size := s2
  generalize hg0 : w.heap.size = g0 at *
  generalize w2.heap.size = g2 at *
  generalize w1.heap.size = g1 at *
  go_loopw [8] (fun i wr => ∃ k : Nat, k ≤ 4 ∧ i = .int .i64 k ∧ Ar wr g2 0 .u8 (prs xs n (4 * k)) ∧ Below g2 w2 wr) (fun i _ => 4 - (intOf i).toNat)
  case atStart => exact ⟨0, Nat.zero_le _, rfl, by rw [Nat.mul_zero, HZ.out.1]; exact HA3.out, B3⟩
  case round =>
    obtain ⟨k, hk, rfl, hA, hB⟩ := hrel
    obtain ⟨wa, rfl⟩ : ∃ wx, wx = wr := ⟨_, rfl⟩
    have k0 : (0 : Int) ≤ (k : Int) := by omega
    have q1 : IntKind.i64.wrap (k : Int) = k := by rw [IntKind.wrap_i64]; omega
    have HA : Hid (Ar wa g2 0 .u8 (prs xs n (4 * k))) := hA
    have HB : Hid (Below g2 w2 wa) := hB
    clear hA hB
    by_cases hlt : k < 4
    · have k1 : (k : Int) < 4 := by omega
      go_wp2
      go_loopw [11] (fun j wr => ∃ m : Nat, m ≤ 4 ∧ j = .int .i64 m ∧ Ar wr g2 0 .u8 (prs xs n (4 * k + m)) ∧ Below g2 w2 wr) (fun j _ => 4 - (intOf j).toNat)
      case atStart => exact ⟨0, Nat.zero_le _, rfl, HA.out, HB.out⟩
      case round =>
        obtain ⟨m, hm, rfl, hA', hB'⟩ := hrel
        obtain ⟨wb, rfl⟩ : ∃ wx, wx = wr := ⟨_, rfl⟩
        have m0 : (0 : Int) ≤ (m : Int) := by omega
        have q2 : IntKind.i64.wrap (m : Int) = m := by rw [IntKind.wrap_i64]; omega
        clear HA HB
        by_cases hmt : m < 4
        · have m1 : (m : Int) < 4 := by omega
          obtain ⟨t1, t2, t3⟩ := HST.out k m hlt hmt
          obtain ⟨p, hp⟩ : ∃ p, sg * (m : Int) = p := ⟨_, rfl⟩
          rw [hp] at t1 t2 t3
          obtain ⟨j, hj⟩ : ∃ j, j = (k + n * m) % 4 := ⟨_, rfl⟩
          have HJ : Hid (shi (4 * k + m) n = j * 4 + m) := by
            show _ = _
            unfold shi
            rw [show (4 * k + m) / 4 = k by omega, show (4 * k + m) % 4 = m by omega, ← hj, Nat.mul_comm]
          rw [← hj] at t3
          have j4 : j < 4 := by omega
          have j0 : (0 : Int) ≤ (j : Int) := by omega
          have j1 : (j : Int) < 4 := by omega
          have r1 : IntKind.i64.wrap p = p := by rw [IntKind.wrap_i64]; omega
          have r2 : IntKind.i64.wrap ((k : Int) + 4) = (k : Int) + 4 := by rw [IntKind.wrap_i64]; omega
          have r3 : IntKind.i64.wrap ((k : Int) + 4 + p) = (k : Int) + 4 + p := by rw [IntKind.wrap_i64]; omega
          have r4 : ((k : Int) + 4 + p).tmod 4 = (j : Int) := by rw [Int.tmod_eq_emod_of_nonneg (by omega)]; exact t3
          have r5 : IntKind.i64.wrap (j : Int) = j := by rw [IntKind.wrap_i64]; omega
          have c0 := (D1.out.below hB' o1).cell0 (j * 4 + m) (by rw [HX.out.1]; omega)
          have HS2 : Hid ((prs xs n (4 * k + m)).set (4 * k + m) (gb xs (j * 4 + m)) = prs xs n (4 * k + (m + 1))) := by
            show _ = _
            rw [← HJ.out]; exact prs_set xs n (4 * k + m)
          have HA' : Hid (Ar wb g2 0 .u8 (prs xs n (4 * k + m))) := hA'
          have HB' : Hid (Below g2 w2 wb) := hB'
          clear hA' hB' hj
          generalize gb xs (j * 4 + m) = x at *
          go_wp2
          refine wp_region_any (by kernel_rfl) ?_
          change wpAny _ _ _ _ _ _ _ (World.drew _)
          refine wpAny_quiet_then (C := fun w' => ∃ n, w' = wb.drewN n) 0 15 1 _ (by kernel_rfl) rfl (by kernel_rfl) (by kernel_rfl) ⟨1, rfl⟩ ?_
          simp only [List.take_succ_cons, List.take_zero, List.drop_zero]
          repeat (quiet_step (fail))
          refine wpQuiet_nil ?_
          rintro f _ ⟨nq, rfl⟩
          have A1 := HA'.out.drewN nq
          have A2 := A1.set0 (4 * k + m) (by rw [prs_len]; omega) x
          rw [HS2.out] at A2
          have B2' : Below g2 w2 ((wb.drewN nq).setCell ⟨g2, 4 * k + m, none⟩ (.int .u8 x)) := (below_drewN HB'.out nq).setCell (Nat.le_refl _) _
          refine wpAny_ready (rs := [15]) (by kernel_rfl) (by simp) ?_
          refine AllReady.cons rfl (fun K hK => ?_) AllReady.nil
          refine step_set _ rfl none rfl (.tmp 28) (.tmp 26) 5 rfl .u8 x g2 (4 * k + m) (by rw [Nat.mul_comm 4 k]; rfl) rfl (by rw [A1.cell0 _ (by rw [prs_len]; omega)]; rfl) (A1.free0 _ (by rw [prs_len]; omega)) i_u8 (hK _ _ ?_)
          simp only [Act.put, List.setIfInBounds_toArray, List.set_cons_zero, List.set_cons_succ]
          have HA6 : Hid (Ar ((wb.drewN nq).setCell ⟨g2, 4 * k + m, none⟩ (.int .u8 x)) g2 0 .u8 (prs xs n (4 * k + (m + 1)))) := A2
          have HB6 : Hid (Below g2 w2 ((wb.drewN nq).setCell ⟨g2, 4 * k + m, none⟩ (.int .u8 x))) := B2'
          clear A1 A2 B2' c0
          generalize (wb.drewN nq).setCell ⟨g2, 4 * k + m, none⟩ (.int .u8 x) = w6 at *
          refine wpAny_done (by kernel_rfl) ?_ _
          go_wp2
          go_roundw
          case rel => exact ⟨m + 1, by omega, by go_num, HA6.out, HB6.out⟩
          case measure => simp [intOf]; omega
        · have hm4 : m = 4 := by omega
          subst hm4
          have HA6 : Hid (Ar wb g2 0 .u8 (prs xs n (4 * (k + 1)))) := by show Ar _ _ _ _ _; rw [show 4 * (k + 1) = 4 * k + 4 by omega]; exact hA'
          have HB6 : Hid (Below g2 w2 wb) := hB'
          clear hA' hB'
          go_wp2
          go_roundw
          case rel => exact ⟨k + 1, by omega, by go_num, HA6.out, HB6.out⟩
          case measure => simp [intOf]; omega
    · have hk4 : k = 4 := by omega
      subst hk4
      have HA4 : Hid (Ar wa g2 0 .u8 zs) := by have := HA.out; rw [show 4 * 4 = 16 from rfl, HZ.out.2.1] at this; exact this
      have D2 : Hid (Ar wa g1 0 .u8 z16) := HA2.out.below HB.out o2
      clear HA
      go_wp2_with (first
        | (refine load_lawN _ rfl (.tmp 5) 50 rfl .u8 zs g2 0 rfl HA4.out 4 16 48 Try.underlying50 i_st HZ.out.2.2 ?_)
        | (refine store_lawF _ rfl (.tmp 4) (.tmp 31) 50 rfl .u8 z16 zs g1 rfl rfl D2.out 16 i_st z16_len HZ.out.2.2 ?_; intro w7 A7 B7))
      refine bodyPost_ret (v := .agg (ints .u8 zs)) (results_arN rfl _ _ g1 0 .u8 zs rfl A7 4 16 48 Try.underlying50 i_st HZ.out.2.2) rfl ⟨rfl, ?_⟩
      rw [hg0]
      exact (BW.trans (HB.out.mono (by omega))).trans (B7.mono (by omega))
end Go.Proofs.Ytjiddmgnkldmkaa
