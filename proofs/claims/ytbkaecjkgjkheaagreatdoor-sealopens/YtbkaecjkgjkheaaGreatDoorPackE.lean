/- Texts put together (a claim holds few files). No claim of its own. -/
import Derived.Test.YtbkaecjkgjkheaaGreatDoorPackD
import Derived.Test.YtbkaecjkgjkheaaGreatDoorPackB
import Derived.Deep.DeepCutAuto
/- What aes' xored answers. No claim of its own. -/
namespace Go.Proofs.YtbkaecjkgjkheaaGreatDoor
open Go.RowKit
set_option maxRecDepth 20000

/-- the first n bytes are xored -/
def prx (xs ys : List Int) (n : Nat) : List Int := (List.range 16).map fun t => if t < n then xr (gb xs t) (gb ys t) else gb xs t
theorem prx_len (xs ys : List Int) (n : Nat) : (prx xs ys n).length = 16 := by simp [prx]
theorem gb_prx (xs ys : List Int) (n t : Nat) (h : t < 16) : gb (prx xs ys n) t = if t < n then xr (gb xs t) (gb ys t) else gb xs t := range_gb _ _ _ h
theorem prx_zero (xs ys : List Int) (h : xs.length = 16) : prx xs ys 0 = xs := ext_gb (by rw [prx_len, h]) fun t ht => by
  rw [prx_len] at ht
  rw [gb_prx _ _ _ _ ht, if_neg (by omega)]
theorem prx_end (xs ys : List Int) (h : xs.length = 16) (h' : ys.length = 16) : prx xs ys 16 = xorl xs ys := ext_gb (by rw [prx_len, xorl_len _ _ (by omega), h]) fun t ht => by
  rw [prx_len] at ht
  rw [gb_prx _ _ _ _ ht, if_pos ht, xorl_gb _ _ (by omega) _ (by omega)]
theorem prx_set (xs ys : List Int) (n : Nat) : (prx xs ys n).set n (xr (gb xs n) (gb ys n)) = prx xs ys (n + 1) := ext_gb (by simp [prx]) fun t ht => by
  rw [List.length_set, prx_len] at ht
  rw [gb_set _ _ _ _ (by rw [prx_len]; exact ht), gb_prx _ _ _ _ ht, gb_prx _ _ _ _ ht]
  by_cases e : n = t
  · subst e; simp
  · rw [if_neg e]
    by_cases h : t < n
    · rw [if_pos h, if_pos (by omega)]
    · rw [if_neg h, if_neg (by omega)]

set_option linter.unusedSimpArgs false in
set_option maxRecDepth 20000 in
set_option maxHeartbeats 4000000 in
theorem xored_any (xs ys : List Int) (w : World) (hx : Blk xs) (hy : Blk ys) :
    Calls Tryz.prog 65 #[.agg (ints .u8 xs), .agg (ints .u8 ys)] w fun e w' => e = .returned (.agg (ints .u8 (xorl xs ys))) ∧ Below w.heap.size w w' := by
  have HX : Hid (Blk xs) := hx
  have HY : Hid (Blk ys) := hy
  have HZ : Hid (prx xs ys 0 = xs ∧ prx xs ys 16 = xorl xs ys ∧ (xorl xs ys).length = 16) := ⟨prx_zero xs ys hx.1, prx_end xs ys hx.1 hy.1, (xorl_blk xs ys hx hy).1⟩
  generalize xorl xs ys = zs at *
  clear hx hy
  go_enter Tryz.func65, Tryz.ntmps65
  go_wp2_with (first
    | (refine box_lawF _ rfl (.tmp 0) 88 rfl .u8 xs rfl ?_; intro w1 A1 B1 s1; have HA1 : Hid (Ar w1 w.heap.size 0 .u8 xs) := A1; clear A1)
    | (refine box_lawF _ rfl (.tmp 1) 88 rfl .u8 ys rfl ?_; intro w2 A2 B2 s2; have HA2 : Hid (Ar w2 w1.heap.size 0 .u8 ys) := A2; clear A2)
    | (have q2 := s2; refine new_lawF _ rfl 88 rfl .u8 z16 z_st ?_; intro w3 A3 B3 s3; have HA3 : Hid (Ar w3 w2.heap.size 0 .u8 z16) := A3; clear A3)
    | (have q3 := s3; refine load_lawN _ rfl (.tmp 3) 88 rfl .u8 ys w1.heap.size 0 rfl (HA2.out.below B3 s2) 4 16 86 Tryz.underlying88 i_st HY.out.1 ?_))
  have D1 : Hid (Ar w3 w.heap.size 0 .u8 xs) := (HA1.out.below B2 s1).below B3 (by omega)
  have BW : Below w.heap.size w w3 := (B1.trans (B2.mono (by omega))).trans (B3.mono (by omega))
  have o2 : w2.heap.size < w3.heap.size := s3
  have o1 : w.heap.size < w2.heap.size := by omega
  generalize hg0 : w.heap.size = g0 at *
  generalize w2.heap.size = g2 at *
  generalize w1.heap.size = g1 at *
  go_loopw [10] (fun i wr => ∃ k : Nat, k ≤ 4 ∧ i = .int .i64 k ∧ Ar wr g0 0 .u8 (prx xs ys (4 * k)) ∧ Ar wr g2 0 .u8 z16 ∧ Below g0 w wr ∧ g2 < wr.heap.size) (fun i _ => 4 - (intOf i).toNat)
  case atStart => exact ⟨0, Nat.zero_le _, rfl, by rw [Nat.mul_zero, HZ.out.1]; exact D1.out, HA3.out, BW, o2⟩
  case round =>
    obtain ⟨k, hk, rfl, hA, hR, hB, hS⟩ := hrel
    obtain ⟨wa, rfl⟩ : ∃ wx, wx = wr := ⟨_, rfl⟩
    have k0 : (0 : Int) ≤ (k : Int) := by omega
    have q1 : IntKind.i64.wrap (k : Int) = k := by rw [IntKind.wrap_i64]; omega
    have HA : Hid (Ar wa g0 0 .u8 (prx xs ys (4 * k))) := hA
    have HR : Hid (Ar wa g2 0 .u8 z16) := hR
    have HB : Hid (Below g0 w wa) := hB
    clear hA hR hB
    by_cases hlt : k < 4
    · have k1 : (k : Int) < 4 := by omega
      have CL : Hid ((cut4 ys k).length = 4) := cut4_len ys k (by rw [HY.out.1]; omega)
      have CG : Hid (∀ i, i < 4 → gb (cut4 ys k) i = gb ys (4 * k + i)) := fun i hi => cut4_gb ys k i hi
      obtain ⟨cs, hcs⟩ : ∃ cs, cs = cut4 ys k := ⟨_, rfl⟩
      have HCS : Hid (cs = cut4 ys k) := hcs
      rw [← hcs] at CL CG
      clear hcs
      go_wp2_with (first
        | (refine idx_st _ rfl (.tmp 9) (.tmp 10) rfl ys _ k rfl rfl rfl hlt cs HCS.out ?_)
        | (refine new_lawF _ rfl 86 rfl .u8 z4 z_arr4 ?_; intro w4 A4 B4 s4; have HA4 : Hid (Ar w4 wa.heap.size 0 .u8 z4) := A4; clear A4)
        | (have q4 := s4; refine store_lawF _ rfl (.tmp 6) (.tmp 13) 86 rfl .u8 z4 cs wa.heap.size rfl rfl HA4.out 4 i_arr4 rfl CL.out ?_; intro w5 A5 B5; have HA5 : Hid (Ar w5 wa.heap.size 0 .u8 cs) := A5; clear A5)
        | (refine load_law _ rfl (.tmp 6) 86 rfl .u8 cs wa.heap.size 0 rfl HA5.out 4 5 Tryz.underlying86 i_arr4 CL.out ?_))
      have B45 : Below wa.heap.size wa w5 := B4.trans (B5.mono (by omega))
      have s5 : wa.heap.size ≤ w5.heap.size := B45.size
      have E1 : Hid (Ar w5 g0 0 .u8 (prx xs ys (4 * k + 0))) := HA.out.below B45 (by omega)
      have E2 : Hid (Ar w5 g2 0 .u8 z16) := HR.out.below B45 hS
      have E3 : Hid (Below g0 w w5) := HB.out.trans (B45.mono (by omega))
      have o5 : g2 < w5.heap.size := by omega
      go_loopw [15] (fun j wr => ∃ m : Nat, m ≤ 4 ∧ j = .int .i64 m ∧ Ar wr g0 0 .u8 (prx xs ys (4 * k + m)) ∧ Ar wr g2 0 .u8 z16 ∧ Below g0 w wr ∧ g2 < wr.heap.size) (fun j _ => 4 - (intOf j).toNat)
      case atStart => exact ⟨0, Nat.zero_le _, rfl, E1.out, E2.out, E3.out, o5⟩
      case round =>
        obtain ⟨m, hm, rfl, hA', hR', hB', hS'⟩ := hrel
        obtain ⟨wb, rfl⟩ : ∃ wx, wx = wr := ⟨_, rfl⟩
        have m0 : (0 : Int) ≤ (m : Int) := by omega
        have q2 : IntKind.i64.wrap (m : Int) = m := by rw [IntKind.wrap_i64]; omega
        clear HA HR HB E1 E2 E3
        by_cases hmt : m < 4
        · have m1 : (m : Int) < 4 := by omega
          have c0 := hA'.cell0 (4 * k + m) (by rw [prx_len]; omega)
          rw [gb_prx _ _ _ _ (by omega), if_neg (by omega), Nat.mul_comm 4 k] at c0
          have bx := HX.out.2 (k * 4 + m)
          have by_ := HY.out.2 (k * 4 + m)
          have hxr := xr_of _ _ bx by_
          have HS2 : Hid ((prx xs ys (4 * k + m)).set (4 * k + m) (xr (gb xs (k * 4 + m)) (gb ys (k * 4 + m))) = prx xs ys (4 * k + (m + 1))) := by
            show _ = _
            rw [Nat.mul_comm k 4]; exact prx_set xs ys (4 * k + m)
          have HG : Hid (gb ys (k * 4 + m) = gb cs m) := by show _ = _; rw [CG.out m hmt, Nat.mul_comm]
          have HA' : Hid (Ar wb g0 0 .u8 (prx xs ys (4 * k + m))) := hA'
          have HR' : Hid (Ar wb g2 0 .u8 z16) := hR'
          have HB' : Hid (Below g0 w wb) := hB'
          clear hA' hR' hB' bx by_
          generalize xr (gb xs (k * 4 + m)) (gb ys (k * 4 + m)) = z at *
          generalize gb xs (k * 4 + m) = x at *
          generalize gb ys (k * 4 + m) = y at *
          go_wp2_with (refine idx4 _ rfl (.tmp 14) (.tmp 15) rfl cs _ m rfl rfl rfl CL.out (by omega) y HG.out ?_)
          refine wp_region_any (by kernel_rfl) ?_
          change wpAny _ _ _ _ _ _ _ (World.drew _)
          refine wpAny_quiet_then (C := fun w' => ∃ n, w' = wb.drewN n) 0 9 1 _ (by kernel_rfl) rfl (by kernel_rfl) (by kernel_rfl) ⟨1, rfl⟩ ?_
          simp only [List.take_succ_cons, List.take_zero, List.drop_zero]
          repeat (quiet_step (fail))
          refine wpQuiet_nil ?_
          rintro f _ ⟨nq, rfl⟩
          have A1 := HA'.out.drewN nq
          have A2 := A1.set0 (4 * k + m) (by rw [prx_len]; omega) z
          rw [HS2.out] at A2
          have B2' : Below g0 w ((wb.drewN nq).setCell ⟨g0, 4 * k + m, none⟩ (.int .u8 z)) := (below_drewN HB'.out nq).setCell (Nat.le_refl _) _
          have R2' : Ar ((wb.drewN nq).setCell ⟨g0, 4 * k + m, none⟩ (.int .u8 z)) g2 0 .u8 z16 := (HR'.out.drewN nq).other (by show g2 ≠ g0; omega) _
          refine wpAny_ready (rs := [9]) (by kernel_rfl) (by simp) ?_
          refine AllReady.cons rfl (fun K hK => ?_) AllReady.nil
          refine step_set _ rfl none rfl (.tmp 27) (.tmp 25) 5 rfl .u8 z g0 (4 * k + m) (by rw [Nat.mul_comm 4 k]; rfl) (by first | rfl | (rw [← hxr]; rfl)) (by rw [A1.cell0 _ (by rw [prx_len]; omega)]; rfl) (A1.free0 _ (by rw [prx_len]; omega)) i_u8 (hK _ _ ?_)
          simp only [Act.put, List.setIfInBounds_toArray, List.set_cons_zero, List.set_cons_succ]
          have HA6 : Hid (Ar ((wb.drewN nq).setCell ⟨g0, 4 * k + m, none⟩ (.int .u8 z)) g0 0 .u8 (prx xs ys (4 * k + (m + 1)))) := A2
          have HB6 : Hid (Below g0 w ((wb.drewN nq).setCell ⟨g0, 4 * k + m, none⟩ (.int .u8 z))) := B2'
          have HR6 : Hid (Ar ((wb.drewN nq).setCell ⟨g0, 4 * k + m, none⟩ (.int .u8 z)) g2 0 .u8 z16) := R2'
          have hS6 : g2 < ((wb.drewN nq).setCell ⟨g0, 4 * k + m, none⟩ (.int .u8 z)).heap.size := R2'.lt (by rw [z16_len]; omega)
          clear A1 A2 B2' R2' c0
          generalize (wb.drewN nq).setCell ⟨g0, 4 * k + m, none⟩ (.int .u8 z) = w6 at *
          refine wpAny_done (by kernel_rfl) ?_ _
          go_wp2
          go_roundw
          case rel => exact ⟨m + 1, by omega, by go_num, HA6.out, HR6.out, HB6.out, hS6⟩
          case measure => simp [intOf]; omega
        · have hm4 : m = 4 := by omega
          subst hm4
          have HA6 : Hid (Ar wb g0 0 .u8 (prx xs ys (4 * (k + 1)))) := by show Ar _ _ _ _ _; rw [show 4 * (k + 1) = 4 * k + 4 by omega]; exact hA'
          have HR6 : Hid (Ar wb g2 0 .u8 z16) := hR'
          have HB6 : Hid (Below g0 w wb) := hB'
          clear hA' hR' hB'
          go_wp2
          go_roundw
          case rel => exact ⟨k + 1, by omega, by go_num, HA6.out, HR6.out, HB6.out, hS'⟩
          case measure => simp [intOf]; omega
    · have hk4 : k = 4 := by omega
      subst hk4
      have HA2 : Hid (Ar wa g0 0 .u8 zs) := by have := HA.out; rw [show 4 * 4 = 16 from rfl, HZ.out.2.1] at this; exact this
      clear HA
      go_wp2_with (first
        | (refine load_lawN _ rfl (.tmp 2) 88 rfl .u8 zs g0 0 rfl HA2.out 4 16 86 Tryz.underlying88 i_st HZ.out.2.2 ?_)
        | (refine store_lawF _ rfl (.tmp 4) (.tmp 30) 88 rfl .u8 z16 zs g2 rfl rfl HR.out 16 i_st z16_len HZ.out.2.2 ?_; intro w7 A7 B7))
      refine bodyPost_ret (v := .agg (ints .u8 zs)) (results_arN rfl _ _ g2 0 .u8 zs rfl A7 4 16 86 Tryz.underlying88 i_st HZ.out.2.2) rfl ⟨rfl, ?_⟩
      rw [hg0]
      exact HB.out.trans (B7.mono (by omega))
end Go.Proofs.YtbkaecjkgjkheaaGreatDoor

/- What aes' shifted, shiftedList, Shift and Unshift answer. No claim of its own. -/
namespace Go.Proofs.YtbkaecjkgjkheaaGreatDoor
open Go.RowKit
set_option maxRecDepth 20000

/-- the first t bytes are there -/
def prs (b : List Int) (n t : Nat) : List Int := (List.range 16).map fun i => if i < t then gb b (shi i n) else 0
theorem prs_len (b : List Int) (n t : Nat) : (prs b n t).length = 16 := by simp [prs]
theorem gb_prs (b : List Int) (n t i : Nat) (h : i < 16) : gb (prs b n t) i = if i < t then gb b (shi i n) else 0 := range_gb _ _ _ h
theorem prs_zero (b : List Int) (n : Nat) : prs b n 0 = z16 := rfl
theorem prs_end (b : List Int) (n : Nat) : prs b n 16 = shl16 b n := ext_gb (by rw [prs_len, shl16_len]) fun t ht => by
  rw [prs_len] at ht
  rw [gb_prs _ _ _ _ ht, if_pos ht, shl16_gb _ _ _ ht]
theorem prs_set (b : List Int) (n t : Nat) : (prs b n t).set t (gb b (shi t n)) = prs b n (t + 1) := ext_gb (by simp [prs]) fun i hi => by
  rw [List.length_set, prs_len] at hi
  rw [gb_set _ _ _ _ (by rw [prs_len]; exact hi), gb_prs _ _ _ _ hi, gb_prs _ _ _ _ hi]
  by_cases e : t = i
  · subst e; simp
  · rw [if_neg e]
    by_cases h : i < t
    · rw [if_pos h, if_pos (by omega)]
    · rw [if_neg h, if_neg (by omega)]
/-- how a step tells a shift -/
def Stp (sg : Int) (n : Nat) : Prop := ∀ c i : Nat, c < 4 → i < 4 → -3 ≤ sg * (i : Int) ∧ sg * (i : Int) ≤ 3 ∧ ((c : Int) + 4 + sg * (i : Int)) % 4 = (((c + n * i) % 4 : Nat) : Int)
theorem stp_one : Stp 1 1 := fun c i hc hi => by omega
theorem stp_neg : Stp (-1) 3 := fun c i hc hi => by omega

set_option linter.unusedSimpArgs false in
set_option maxRecDepth 20000 in
set_option maxHeartbeats 4000000 in
theorem shifted_any (xs : List Int) (sg : Int) (n : Nat) (w : World) (hx : Blk xs) (hst : Stp sg n) :
    Calls Tryz.prog 68 #[.agg (ints .u8 xs), .int .i64 sg] w fun e w' => e = .returned (.agg (ints .u8 (shl16 xs n))) ∧ Below w.heap.size w w' := by
  have HX : Hid (Blk xs) := hx
  have HST : Hid (Stp sg n) := hst
  have HZ : Hid (prs xs n 0 = z16 ∧ prs xs n 16 = shl16 xs n ∧ (shl16 xs n).length = 16) := ⟨prs_zero xs n, prs_end xs n, shl16_len xs n⟩
  generalize shl16 xs n = zs at *
  clear hx hst
  go_enter Tryz.func68, Tryz.ntmps68
  go_wp2_with (first
    | (refine box_lawF _ rfl (.tmp 0) 88 rfl .u8 xs rfl ?_; intro w1 A1 B1 s1; have HA1 : Hid (Ar w1 w.heap.size 0 .u8 xs) := A1; clear A1)
    | (have q2 := s2; refine new_lawF _ rfl 88 rfl .u8 z16 z_st ?_; intro w3 A3 B3 s3; have HA3 : Hid (Ar w3 w2.heap.size 0 .u8 z16) := A3; clear A3)
    | (have q1 := s1; refine new_lawF _ rfl 88 rfl .u8 z16 z_st ?_; intro w2 A2 B2 s2; have HA2 : Hid (Ar w2 w1.heap.size 0 .u8 z16) := A2; clear A2))
  have D1 : Hid (Ar w2 w.heap.size 0 .u8 xs) := HA1.out.below B2 s1
  have BW : Below w.heap.size w w2 := B1.trans (B2.mono (by omega))
  have o1 : w.heap.size < w2.heap.size := by omega
  have o2 : w1.heap.size < w2.heap.size := s2
  generalize hg0 : w.heap.size = g0 at *
  generalize w2.heap.size = g2 at *
  generalize w1.heap.size = g1 at *
  go_loopw [8] (fun i wr => ∃ k : Nat, k ≤ 4 ∧ i = .int .i64 k ∧ Ar wr g2 0 .u8 (prs xs n (4 * k)) ∧ Below g2 w2 wr) (fun i _ => 4 - (intOf i).toNat)
  case atStart => exact ⟨0, Nat.zero_le _, rfl, by rw [Nat.mul_zero, HZ.out.1]; exact HA3.out, B3⟩
  case round =>
    obtain ⟨k, hk, rfl, hA, hB⟩ := hrel
    obtain ⟨wa, rfl⟩ : ∃ wx, wx = wr := ⟨_, rfl⟩
    have k0 : (0 : Int) ≤ (k : Int) := by omega
    have q1 : IntKind.i64.wrap (k : Int) = k := by rw [IntKind.wrap_i64]; omega
    have HA : Hid (Ar wa g2 0 .u8 (prs xs n (4 * k))) := hA
    have HB : Hid (Below g2 w2 wa) := hB
    clear hA hB
    by_cases hlt : k < 4
    · have k1 : (k : Int) < 4 := by omega
      go_wp2
      go_loopw [11] (fun j wr => ∃ m : Nat, m ≤ 4 ∧ j = .int .i64 m ∧ Ar wr g2 0 .u8 (prs xs n (4 * k + m)) ∧ Below g2 w2 wr) (fun j _ => 4 - (intOf j).toNat)
      case atStart => exact ⟨0, Nat.zero_le _, rfl, HA.out, HB.out⟩
      case round =>
        obtain ⟨m, hm, rfl, hA', hB'⟩ := hrel
        obtain ⟨wb, rfl⟩ : ∃ wx, wx = wr := ⟨_, rfl⟩
        have m0 : (0 : Int) ≤ (m : Int) := by omega
        have q2 : IntKind.i64.wrap (m : Int) = m := by rw [IntKind.wrap_i64]; omega
        clear HA HB
        by_cases hmt : m < 4
        · have m1 : (m : Int) < 4 := by omega
          obtain ⟨t1, t2, t3⟩ := HST.out k m hlt hmt
          obtain ⟨p, hp⟩ : ∃ p, sg * (m : Int) = p := ⟨_, rfl⟩
          rw [hp] at t1 t2 t3
          obtain ⟨j, hj⟩ : ∃ j, j = (k + n * m) % 4 := ⟨_, rfl⟩
          have HJ : Hid (shi (4 * k + m) n = j * 4 + m) := by
            show _ = _
            unfold shi
            rw [show (4 * k + m) / 4 = k by omega, show (4 * k + m) % 4 = m by omega, ← hj, Nat.mul_comm]
          rw [← hj] at t3
          have j4 : j < 4 := by omega
          have j0 : (0 : Int) ≤ (j : Int) := by omega
          have j1 : (j : Int) < 4 := by omega
          have r1 : IntKind.i64.wrap p = p := by rw [IntKind.wrap_i64]; omega
          have r2 : IntKind.i64.wrap ((k : Int) + 4) = (k : Int) + 4 := by rw [IntKind.wrap_i64]; omega
          have r3 : IntKind.i64.wrap ((k : Int) + 4 + p) = (k : Int) + 4 + p := by rw [IntKind.wrap_i64]; omega
          have r4 : ((k : Int) + 4 + p).tmod 4 = (j : Int) := by rw [Int.tmod_eq_emod_of_nonneg (by omega)]; exact t3
          have r5 : IntKind.i64.wrap (j : Int) = j := by rw [IntKind.wrap_i64]; omega
          have c0 := (D1.out.below hB' o1).cell0 (j * 4 + m) (by rw [HX.out.1]; omega)
          have HS2 : Hid ((prs xs n (4 * k + m)).set (4 * k + m) (gb xs (j * 4 + m)) = prs xs n (4 * k + (m + 1))) := by
            show _ = _
            rw [← HJ.out]; exact prs_set xs n (4 * k + m)
          have HA' : Hid (Ar wb g2 0 .u8 (prs xs n (4 * k + m))) := hA'
          have HB' : Hid (Below g2 w2 wb) := hB'
          clear hA' hB' hj
          generalize gb xs (j * 4 + m) = x at *
          go_wp2
          refine wp_region_any (by kernel_rfl) ?_
          change wpAny _ _ _ _ _ _ _ (World.drew _)
          refine wpAny_quiet_then (C := fun w' => ∃ n, w' = wb.drewN n) 0 15 1 _ (by kernel_rfl) rfl (by kernel_rfl) (by kernel_rfl) ⟨1, rfl⟩ ?_
          simp only [List.take_succ_cons, List.take_zero, List.drop_zero]
          repeat (quiet_step (fail))
          refine wpQuiet_nil ?_
          rintro f _ ⟨nq, rfl⟩
          have A1 := HA'.out.drewN nq
          have A2 := A1.set0 (4 * k + m) (by rw [prs_len]; omega) x
          rw [HS2.out] at A2
          have B2' : Below g2 w2 ((wb.drewN nq).setCell ⟨g2, 4 * k + m, none⟩ (.int .u8 x)) := (below_drewN HB'.out nq).setCell (Nat.le_refl _) _
          refine wpAny_ready (rs := [15]) (by kernel_rfl) (by simp) ?_
          refine AllReady.cons rfl (fun K hK => ?_) AllReady.nil
          refine step_set _ rfl none rfl (.tmp 28) (.tmp 26) 5 rfl .u8 x g2 (4 * k + m) (by rw [Nat.mul_comm 4 k]; rfl) rfl (by rw [A1.cell0 _ (by rw [prs_len]; omega)]; rfl) (A1.free0 _ (by rw [prs_len]; omega)) i_u8 (hK _ _ ?_)
          simp only [Act.put, List.setIfInBounds_toArray, List.set_cons_zero, List.set_cons_succ]
          have HA6 : Hid (Ar ((wb.drewN nq).setCell ⟨g2, 4 * k + m, none⟩ (.int .u8 x)) g2 0 .u8 (prs xs n (4 * k + (m + 1)))) := A2
          have HB6 : Hid (Below g2 w2 ((wb.drewN nq).setCell ⟨g2, 4 * k + m, none⟩ (.int .u8 x))) := B2'
          clear A1 A2 B2' c0
          generalize (wb.drewN nq).setCell ⟨g2, 4 * k + m, none⟩ (.int .u8 x) = w6 at *
          refine wpAny_done (by kernel_rfl) ?_ _
          go_wp2
          go_roundw
          case rel => exact ⟨m + 1, by omega, by go_num, HA6.out, HB6.out⟩
          case measure => simp [intOf]; omega
        · have hm4 : m = 4 := by omega
          subst hm4
          have HA6 : Hid (Ar wb g2 0 .u8 (prs xs n (4 * (k + 1)))) := by show Ar _ _ _ _ _; rw [show 4 * (k + 1) = 4 * k + 4 by omega]; exact hA'
          have HB6 : Hid (Below g2 w2 wb) := hB'
          clear hA' hB'
          go_wp2
          go_roundw
          case rel => exact ⟨k + 1, by omega, by go_num, HA6.out, HB6.out⟩
          case measure => simp [intOf]; omega
    · have hk4 : k = 4 := by omega
      subst hk4
      have HA4 : Hid (Ar wa g2 0 .u8 zs) := by have := HA.out; rw [show 4 * 4 = 16 from rfl, HZ.out.2.1] at this; exact this
      have D2 : Hid (Ar wa g1 0 .u8 z16) := HA2.out.below HB.out o2
      clear HA
      go_wp2_with (first
        | (refine load_lawN _ rfl (.tmp 5) 88 rfl .u8 zs g2 0 rfl HA4.out 4 16 86 Tryz.underlying88 i_st HZ.out.2.2 ?_)
        | (refine store_lawF _ rfl (.tmp 4) (.tmp 31) 88 rfl .u8 z16 zs g1 rfl rfl D2.out 16 i_st z16_len HZ.out.2.2 ?_; intro w7 A7 B7))
      refine bodyPost_ret (v := .agg (ints .u8 zs)) (results_arN rfl _ _ g1 0 .u8 zs rfl A7 4 16 86 Tryz.underlying88 i_st HZ.out.2.2) rfl ⟨rfl, ?_⟩
      rw [hg0]
      exact (BW.trans (HB.out.mono (by omega))).trans (B7.mono (by omega))
end Go.Proofs.YtbkaecjkgjkheaaGreatDoor

/- What aes' mixed and put answer, with Mix and Unmix, Subs and Backs. No claim of its own. -/
namespace Go.Proofs.YtbkaecjkgjkheaaGreatDoor
open Go.RowKit
set_option maxRecDepth 20000

/-- a part of an array is written; the world gets a name -/
theorem store_lawM {ops : Array Oper} {rest : List Oper} {o : Oper} {a : Act} {Q : Exit → Act → World → Prop} (w : World) (hg : o.guard = none) (x y : Operand) (t : TypeId) (hop : o.op = Op.store t x y) (xs ys : List Int) (b p : Nat) (hx : a.eval x = .pointer (some ⟨b, p, none⟩)) (hy : a.eval y = .agg (ints .u8 ys))
    (hA : Ar w b 0 .u8 xs) (n : Nat) (hi : (Tryz.prog.info? t).map (·.size) = some n) (hn : ys.length = n) (hl : p + n ≤ xs.length)
    (hK : ∀ w', Ar w' b 0 .u8 (laid xs p ys) → Below b w w' → (∀ b' o' k' zs, b' ≠ b → Ar w b' o' k' zs → Ar w' b' o' k' zs) → wpList Tryz.prog ops Q rest (a.put o.dst undef) w') :
    wpList Tryz.prog ops Q (o :: rest) a w :=
  store_law w hg x y t hop .u8 ys b p hx hy (by rw [hn]; exact thereG hA p n hl) n hi hn (hK _ (hA.layG p ys (by omega)) (below_cells _ (Nat.le_refl _) _ _ (Below.refl _ _)) (fun b' o' k' zs hb' h => h.apart b p _ (Or.inl hb')))

/-- the first k columns are mixed -/
def prm (xs ms : List Int) (k : Nat) : List Int := (List.range 16).map fun i => if i < 4 * k then gb ms i else gb xs i
theorem prm_len (xs ms : List Int) (k : Nat) : (prm xs ms k).length = 16 := by simp [prm]
theorem gb_prm (xs ms : List Int) (k t : Nat) (h : t < 16) : gb (prm xs ms k) t = if t < 4 * k then gb ms t else gb xs t := range_gb _ _ _ h
theorem prm_zero (xs ms : List Int) (h : xs.length = 16) : prm xs ms 0 = xs := ext_gb (by rw [prm_len, h]) fun t ht => by
  rw [prm_len] at ht
  rw [gb_prm _ _ _ _ ht, if_neg (by omega)]
theorem prm_end (xs ms : List Int) (h : ms.length = 16) : prm xs ms 4 = ms := ext_gb (by rw [prm_len, h]) fun t ht => by
  rw [prm_len] at ht
  rw [gb_prm _ _ _ _ ht, if_pos (by omega)]
theorem prm_lay (xs ms : List Int) (k : Nat) (hk : k < 4) (h : ms.length = 16) : laid (prm xs ms k) (4 * k) (cut4 ms k) = prm xs ms (k + 1) := by
  have hc := cut4_len ms k (by omega)
  refine ext_gb (by rw [laid_len _ _ _ (by rw [prm_len, hc]; omega), prm_len, prm_len]) fun t ht => ?_
  rw [laid_len _ _ _ (by rw [prm_len, hc]; omega), prm_len] at ht
  rw [gb_laid _ _ _ (by rw [prm_len, hc]; omega), gb_prm _ _ _ _ ht, gb_prm _ _ _ _ ht, hc]
  by_cases h1 : t < 4 * k
  · rw [if_pos h1, if_pos h1, if_pos (by omega)]
  · rw [if_neg h1, if_neg h1]
    by_cases h2 : t < 4 * k + 4
    · rw [if_pos h2, if_pos (by omega), cut4_gb _ _ _ (by omega), show 4 * k + (t - 4 * k) = t by omega]
    · rw [if_neg h2, if_neg (by omega)]
theorem cut4_col (xs : List Int) (k : Nat) (h : Blk xs) (hk : k < 4) : cut4 xs k = cI (colOf xs k) := by
  have hc := cut4_len xs k (by rw [h.1]; omega)
  refine ext_gb (by rw [hc, cI_len, (colOf_col xs k h.2).1]) fun t ht => ?_
  rw [hc] at ht
  rw [cut4_gb _ _ _ ht, gb_cI, colOf_gn _ _ _ ht]
  have := h.2 (4 * k + t)
  omega
theorem trn_cut (xs : List Int) (ws : List Nat) (k : Nat) (hk : k < 4) (hw : Col ws) : cI (trn (colOf xs k) ws) = cut4 (mixb xs ws) k := by
  rw [cut4_col _ k (mixb_blk xs ws hw) hk, colOf_mixb xs ws k hk]

set_option linter.unusedSimpArgs false in
set_option maxRecDepth 20000 in
set_option maxHeartbeats 4000000 in
theorem mixed_mix (xs : List Int) (w : World) (hx : Blk xs) :
    Calls Tryz.prog 69 #[.agg (ints .u8 xs), .func (.func 70) #[] #[]] w fun e w' => e = .returned (.agg (ints .u8 (mixb xs mixW))) ∧ Below w.heap.size w w' := by
  have HX : Hid (Blk xs) := hx
  have HM : Hid (∀ k, k < 4 → ∀ w0, Calls Tryz.prog 70 #[.agg (ints .u8 (cut4 xs k))] w0 fun e w' => e = .returned (.agg (ints .u8 (cut4 (mixb xs mixW) k))) ∧ Below w0.heap.size w0 w') := fun k hk w0 => by
    have := mix_any (colOf xs k) w0 (colOf_col xs k hx.2)
    rw [trn_cut xs mixW k hk mixW_col, ← cut4_col xs k hx hk] at this
    exact this
  have ML : Hid ((mixb xs mixW).length = 16) := mixb_len xs mixW
  generalize mixb xs mixW = ms at *
  have HZ : Hid (prm xs ms 0 = xs ∧ prm xs ms 4 = ms) := ⟨prm_zero xs ms hx.1, prm_end xs ms ML.out⟩
  clear hx
  go_enter Tryz.func69, Tryz.ntmps69
  go_wp2_with (first
    | (refine box_lawF _ rfl (.tmp 0) 88 rfl .u8 xs rfl ?_; intro w1 A1 B1 s1; have HA1 : Hid (Ar w1 w.heap.size 0 .u8 xs) := A1; clear A1)
    | (have q1 := s1; refine new_lawF _ rfl 88 rfl .u8 z16 z_st ?_; intro w2 A2 B2 s2; have HA2 : Hid (Ar w2 w1.heap.size 0 .u8 z16) := A2; clear A2)
    | (have q2 := s2; refine load_lawN _ rfl (.tmp 2) 88 rfl .u8 xs w.heap.size 0 rfl (HA1.out.below B2 s1) 4 16 86 Tryz.underlying88 i_st HX.out.1 ?_))
  have D1 : Hid (Ar w2 w.heap.size 0 .u8 xs) := HA1.out.below B2 s1
  have BW : Below w.heap.size w w2 := B1.trans (B2.mono (by omega))
  have o1 : w.heap.size < w1.heap.size := s1
  have o2 : w1.heap.size < w2.heap.size := s2
  generalize hg0 : w.heap.size = g0 at *
  generalize w1.heap.size = g1 at *
  go_loopw [8] (fun i wr => ∃ k : Nat, k ≤ 4 ∧ i = .int .i64 k ∧ Ar wr g0 0 .u8 (prm xs ms k) ∧ Ar wr g1 0 .u8 z16 ∧ Below g0 w wr ∧ g1 < wr.heap.size) (fun i _ => 4 - (intOf i).toNat)
  case atStart => exact ⟨0, Nat.zero_le _, rfl, by rw [HZ.out.1]; exact D1.out, HA2.out, BW, o2⟩
  case round =>
    obtain ⟨k, hk, rfl, hA, hR, hB, hS⟩ := hrel
    have k0 : (0 : Int) ≤ (k : Int) := by omega
    have q1 : IntKind.i64.wrap (k : Int) = k := by rw [IntKind.wrap_i64]; omega
    have HA : Hid (Ar wr g0 0 .u8 (prm xs ms k)) := hA
    have HR : Hid (Ar wr g1 0 .u8 z16) := hR
    have HB : Hid (Below g0 w wr) := hB
    clear hA hR hB
    by_cases hlt : k < 4
    · have k1 : (k : Int) < 4 := by omega
      have CL : Hid ((cut4 xs k).length = 4) := cut4_len xs k (by rw [HX.out.1]; omega)
      have CM : Hid ((cut4 ms k).length = 4) := cut4_len ms k (by rw [ML.out]; omega)
      have HMk : Hid (∀ w0, Calls Tryz.prog 70 #[.agg (ints .u8 (cut4 xs k))] w0 fun e w' => e = .returned (.agg (ints .u8 (cut4 ms k))) ∧ Below w0.heap.size w0 w') := HM.out k hlt
      have FC : Hid (laid (prm xs ms k) (4 * k) (cut4 ms k) = prm xs ms (k + 1)) := prm_lay xs ms k hlt ML.out
      obtain ⟨cs, hcs⟩ : ∃ cs, cs = cut4 xs k := ⟨_, rfl⟩
      have HCS : Hid (cs = cut4 xs k) := hcs
      rw [← hcs] at CL HMk
      generalize cut4 ms k = ds at *
      clear hcs
      go_wp2_with (first
        | (refine idx_st _ rfl (.tmp 7) (.tmp 8) rfl xs _ k rfl rfl rfl hlt cs HCS.out ?_)
        | (refine new_lawF _ rfl 86 rfl .u8 z4 z_arr4 ?_; intro w3 A3 B3 s3; have HA3 : Hid (Ar w3 wr.heap.size 0 .u8 z4) := A3; clear A3)
        | (have q3 := s3; refine store_lawF _ rfl (.tmp 6) (.tmp 11) 86 rfl .u8 z4 cs wr.heap.size rfl rfl HA3.out 4 i_arr4 rfl CL.out ?_; intro w4 A4 B4; have HA4 : Hid (Ar w4 wr.heap.size 0 .u8 cs) := A4; clear A4; have B34 : Below wr.heap.size wr w4 := B3.trans (B4.mono (by omega)))
        | (refine load_law _ rfl (.tmp 6) 86 rfl .u8 cs wr.heap.size 0 rfl HA4.out 4 5 Tryz.underlying86 i_arr4 CL.out ?_)
        | (go_at_call 70; refine (HMk.out _).mono ?_; rintro e w5 ⟨rfl, B5⟩; have BB : Below wr.heap.size wr w5 := B34.trans (B5.mono B34.size); have HA5 : Hid (Ar w5 g0 0 .u8 (prm xs ms k)) := HA.out.below BB (by omega))
        | (have q5 := HA5; refine store_lawM _ rfl (.tmp 16) (.tmp 15) 86 rfl (prm xs ms k) ds g0 (4 * k) (by rw [Nat.mul_comm 4 k]; rfl) rfl HA5.out 4 i_arr4 CM.out (by rw [prm_len]; omega) ?_; intro w6 A6 B6 C6; rw [FC.out] at A6; have HR6 : Hid (Ar w6 g1 0 .u8 z16) := C6 g1 0 .u8 z16 (by omega) (HR.out.below BB hS); clear C6; have HA6 : Hid (Ar w6 g0 0 .u8 (prm xs ms (k + 1))) := A6; clear A6))
      have BR : Below wr.heap.size wr w5 := BB
      have HB6 : Hid (Below g0 w w6) := (HB.out.trans (BR.mono (by omega))).trans B6
      go_roundw
      case rel => exact ⟨k + 1, by omega, by go_num, HA6.out, HR6.out, HB6.out, HR6.out.lt (by rw [z16_len]; omega)⟩
      case measure => simp [intOf]; omega
    · have hk4 : k = 4 := by omega
      subst hk4
      have HA4 : Hid (Ar wr g0 0 .u8 ms) := by have := HA.out; rw [HZ.out.2] at this; exact this
      clear HA
      go_wp2_with (first
        | (refine load_lawN _ rfl (.tmp 2) 88 rfl .u8 ms g0 0 rfl HA4.out 4 16 86 Tryz.underlying88 i_st ML.out ?_)
        | (refine store_lawF _ rfl (.tmp 4) (.tmp 18) 88 rfl .u8 z16 ms g1 rfl rfl HR.out 16 i_st z16_len ML.out ?_; intro w7 A7 B7))
      refine bodyPost_ret (v := .agg (ints .u8 ms)) (results_arN rfl _ _ g1 0 .u8 ms rfl A7 4 16 86 Tryz.underlying88 i_st ML.out) rfl ⟨rfl, ?_⟩
      rw [hg0]
      exact HB.out.trans (B7.mono (by omega))

set_option linter.unusedSimpArgs false in
set_option maxRecDepth 20000 in
set_option maxHeartbeats 4000000 in
theorem mixed_unmix (xs : List Int) (w : World) (hx : Blk xs) :
    Calls Tryz.prog 69 #[.agg (ints .u8 xs), .func (.func 91) #[] #[]] w fun e w' => e = .returned (.agg (ints .u8 (mixb xs unmW))) ∧ Below w.heap.size w w' := by
  have HX : Hid (Blk xs) := hx
  have HM : Hid (∀ k, k < 4 → ∀ w0, Calls Tryz.prog 91 #[.agg (ints .u8 (cut4 xs k))] w0 fun e w' => e = .returned (.agg (ints .u8 (cut4 (mixb xs unmW) k))) ∧ Below w0.heap.size w0 w') := fun k hk w0 => by
    have := unmix_any (colOf xs k) w0 (colOf_col xs k hx.2)
    rw [trn_cut xs unmW k hk unmW_col, ← cut4_col xs k hx hk] at this
    exact this
  have ML : Hid ((mixb xs unmW).length = 16) := mixb_len xs unmW
  generalize mixb xs unmW = ms at *
  have HZ : Hid (prm xs ms 0 = xs ∧ prm xs ms 4 = ms) := ⟨prm_zero xs ms hx.1, prm_end xs ms ML.out⟩
  clear hx
  go_enter Tryz.func69, Tryz.ntmps69
  go_wp2_with (first
    | (refine box_lawF _ rfl (.tmp 0) 88 rfl .u8 xs rfl ?_; intro w1 A1 B1 s1; have HA1 : Hid (Ar w1 w.heap.size 0 .u8 xs) := A1; clear A1)
    | (have q1 := s1; refine new_lawF _ rfl 88 rfl .u8 z16 z_st ?_; intro w2 A2 B2 s2; have HA2 : Hid (Ar w2 w1.heap.size 0 .u8 z16) := A2; clear A2)
    | (have q2 := s2; refine load_lawN _ rfl (.tmp 2) 88 rfl .u8 xs w.heap.size 0 rfl (HA1.out.below B2 s1) 4 16 86 Tryz.underlying88 i_st HX.out.1 ?_))
  have D1 : Hid (Ar w2 w.heap.size 0 .u8 xs) := HA1.out.below B2 s1
  have BW : Below w.heap.size w w2 := B1.trans (B2.mono (by omega))
  have o1 : w.heap.size < w1.heap.size := s1
  have o2 : w1.heap.size < w2.heap.size := s2
  generalize hg0 : w.heap.size = g0 at *
  generalize w1.heap.size = g1 at *
  go_loopw [8] (fun i wr => ∃ k : Nat, k ≤ 4 ∧ i = .int .i64 k ∧ Ar wr g0 0 .u8 (prm xs ms k) ∧ Ar wr g1 0 .u8 z16 ∧ Below g0 w wr ∧ g1 < wr.heap.size) (fun i _ => 4 - (intOf i).toNat)
  case atStart => exact ⟨0, Nat.zero_le _, rfl, by rw [HZ.out.1]; exact D1.out, HA2.out, BW, o2⟩
  case round =>
    obtain ⟨k, hk, rfl, hA, hR, hB, hS⟩ := hrel
    have k0 : (0 : Int) ≤ (k : Int) := by omega
    have q1 : IntKind.i64.wrap (k : Int) = k := by rw [IntKind.wrap_i64]; omega
    have HA : Hid (Ar wr g0 0 .u8 (prm xs ms k)) := hA
    have HR : Hid (Ar wr g1 0 .u8 z16) := hR
    have HB : Hid (Below g0 w wr) := hB
    clear hA hR hB
    by_cases hlt : k < 4
    · have k1 : (k : Int) < 4 := by omega
      have CL : Hid ((cut4 xs k).length = 4) := cut4_len xs k (by rw [HX.out.1]; omega)
      have CM : Hid ((cut4 ms k).length = 4) := cut4_len ms k (by rw [ML.out]; omega)
      have HMk : Hid (∀ w0, Calls Tryz.prog 91 #[.agg (ints .u8 (cut4 xs k))] w0 fun e w' => e = .returned (.agg (ints .u8 (cut4 ms k))) ∧ Below w0.heap.size w0 w') := HM.out k hlt
      have FC : Hid (laid (prm xs ms k) (4 * k) (cut4 ms k) = prm xs ms (k + 1)) := prm_lay xs ms k hlt ML.out
      obtain ⟨cs, hcs⟩ : ∃ cs, cs = cut4 xs k := ⟨_, rfl⟩
      have HCS : Hid (cs = cut4 xs k) := hcs
      rw [← hcs] at CL HMk
      generalize cut4 ms k = ds at *
      clear hcs
      go_wp2_with (first
        | (refine idx_st _ rfl (.tmp 7) (.tmp 8) rfl xs _ k rfl rfl rfl hlt cs HCS.out ?_)
        | (refine new_lawF _ rfl 86 rfl .u8 z4 z_arr4 ?_; intro w3 A3 B3 s3; have HA3 : Hid (Ar w3 wr.heap.size 0 .u8 z4) := A3; clear A3)
        | (have q3 := s3; refine store_lawF _ rfl (.tmp 6) (.tmp 11) 86 rfl .u8 z4 cs wr.heap.size rfl rfl HA3.out 4 i_arr4 rfl CL.out ?_; intro w4 A4 B4; have HA4 : Hid (Ar w4 wr.heap.size 0 .u8 cs) := A4; clear A4; have B34 : Below wr.heap.size wr w4 := B3.trans (B4.mono (by omega)))
        | (refine load_law _ rfl (.tmp 6) 86 rfl .u8 cs wr.heap.size 0 rfl HA4.out 4 5 Tryz.underlying86 i_arr4 CL.out ?_)
        | (go_at_call 91; refine (HMk.out _).mono ?_; rintro e w5 ⟨rfl, B5⟩; have BB : Below wr.heap.size wr w5 := B34.trans (B5.mono B34.size); have HA5 : Hid (Ar w5 g0 0 .u8 (prm xs ms k)) := HA.out.below BB (by omega))
        | (have q5 := HA5; refine store_lawM _ rfl (.tmp 16) (.tmp 15) 86 rfl (prm xs ms k) ds g0 (4 * k) (by rw [Nat.mul_comm 4 k]; rfl) rfl HA5.out 4 i_arr4 CM.out (by rw [prm_len]; omega) ?_; intro w6 A6 B6 C6; rw [FC.out] at A6; have HR6 : Hid (Ar w6 g1 0 .u8 z16) := C6 g1 0 .u8 z16 (by omega) (HR.out.below BB hS); clear C6; have HA6 : Hid (Ar w6 g0 0 .u8 (prm xs ms (k + 1))) := A6; clear A6))
      have BR : Below wr.heap.size wr w5 := BB
      have HB6 : Hid (Below g0 w w6) := (HB.out.trans (BR.mono (by omega))).trans B6
      go_roundw
      case rel => exact ⟨k + 1, by omega, by go_num, HA6.out, HR6.out, HB6.out, HR6.out.lt (by rw [z16_len]; omega)⟩
      case measure => simp [intOf]; omega
    · have hk4 : k = 4 := by omega
      subst hk4
      have HA4 : Hid (Ar wr g0 0 .u8 ms) := by have := HA.out; rw [HZ.out.2] at this; exact this
      clear HA
      go_wp2_with (first
        | (refine load_lawN _ rfl (.tmp 2) 88 rfl .u8 ms g0 0 rfl HA4.out 4 16 86 Tryz.underlying88 i_st ML.out ?_)
        | (refine store_lawF _ rfl (.tmp 4) (.tmp 18) 88 rfl .u8 z16 ms g1 rfl rfl HR.out 16 i_st z16_len ML.out ?_; intro w7 A7 B7))
      refine bodyPost_ret (v := .agg (ints .u8 ms)) (results_arN rfl _ _ g1 0 .u8 ms rfl A7 4 16 86 Tryz.underlying88 i_st ML.out) rfl ⟨rfl, ?_⟩
      rw [hg0]
      exact HB.out.trans (B7.mono (by omega))

set_option maxHeartbeats 2000000 in
theorem put_subs (xs : List Int) (w : World) (hx : Blk xs) :
    Calls Tryz.prog 66 #[.agg (ints .u8 xs), .func (.func 67) #[] #[]] w fun e w' => e = .returned (.agg (ints .u8 (looked ptab xs))) ∧ Below w.heap.size w w' := by
  have HX : Hid (Blk xs) := hx
  have HLi : Hid (∀ w0, Calls Tryz.prog 71 #[.agg (ints .u8 xs)] w0 fun e w' => ∃ g, e = .returned (.slice (some ⟨g, 0, none⟩) 16 16) ∧ Ar w' g 0 .u8 xs ∧ w0.heap.size ≤ g ∧ Below w0.heap.size w0 w') := fun w0 => list_any xs w0 hx.1 hx.2
  have HS : Hid (∀ v w0, Byt w0 v xs → Calls Tryz.prog 67 #[v] w0 fun e w' => ∃ v', e = .returned v' ∧ Byt w' v' (looked ptab xs) ∧ Below w0.heap.size w0 w') := fun v w0 h => subs_any v xs w0 h (by rw [hx.1]; omega)
  have hb := looked_blk ptab xs pAll hx.1
  have HO : Hid (∀ v w0, Byt w0 v (looked ptab xs) → Calls Tryz.prog 64 #[v] w0 fun e w' => e = .returned (.agg (ints .u8 (looked ptab xs))) ∧ Below w0.heap.size w0 w') := fun v w0 h => of_any v _ w0 h hb.1
  have ZL : Hid ((looked ptab xs).length = 16) := hb.1
  generalize looked ptab xs = zs at *
  clear hx hb
  go_enter Tryz.func66, Tryz.ntmps66
  go_wp2_with (first
    | (refine box_lawF _ rfl (.tmp 0) 88 rfl .u8 xs rfl ?_; intro w1 A1 B1 s1; have HA1 : Hid (Ar w1 w.heap.size 0 .u8 xs) := A1; clear A1)
    | (have q1 := s1; refine new_lawF _ rfl 88 rfl .u8 z16 z_st ?_; intro w2 A2 B2 s2; have HA2 : Hid (Ar w2 w1.heap.size 0 .u8 z16) := A2; clear A2)
    | (have q2 := s2; refine load_lawN _ rfl (.tmp 2) 88 rfl .u8 xs w.heap.size 0 rfl (HA1.out.below B2 s1) 4 16 86 Tryz.underlying88 i_st HX.out.1 ?_)
    | (go_at_call 64; refine (HO.out _ _ Y4.out).mono ?_; rintro e w5 ⟨rfl, B5⟩; have D5 : Hid (Ar w5 w1.heap.size 0 .u8 z16) := ((HA2.out.below B3 s2).below B4 (by have := B3.size; omega)).below B5 (by have := B3.size; have := B4.size; omega))
    | (go_at_call 67; refine (HS.out _ _ Y3.out).mono ?_; rintro e w4 ⟨v4, rfl, y4, B4⟩; have Y4 : Hid (Byt w4 v4 zs) := y4; clear y4)
    | (go_at_call 71; refine (HLi.out _).mono ?_; rintro e w3 ⟨g, rfl, A3, L3, B3⟩; have Y3 : Hid (Byt w3 (.slice (some ⟨g, 0, none⟩) 16 16) xs) := A3.bytG HX.out.2 16 16 HX.out.1 (by omega) (by omega); clear A3)
    | (have q5 := D5; refine store_lawF _ rfl (.tmp 4) (.tmp 9) 88 rfl .u8 z16 zs w1.heap.size rfl rfl D5.out 16 i_st z16_len ZL.out ?_; intro w6 A6 B6))
  refine bodyPost_ret (v := .agg (ints .u8 zs)) (results_arN rfl _ _ w1.heap.size 0 .u8 zs rfl A6 4 16 86 Tryz.underlying88 i_st ZL.out) rfl ⟨rfl, ?_⟩
  have z3 := B3.size
  have z4_ := B4.size
  exact ((((B1.trans (B2.mono (by omega))).trans (B3.mono (by omega))).trans (B4.mono (by omega))).trans (B5.mono (by omega))).trans (B6.mono (by omega))

set_option maxHeartbeats 2000000 in
theorem put_backsl (xs : List Int) (w : World) (hx : Blk xs) :
    Calls Tryz.prog 66 #[.agg (ints .u8 xs), .func (.func 90) #[] #[]] w fun e w' => e = .returned (.agg (ints .u8 (looked btab xs))) ∧ Below w.heap.size w w' := by
  have HX : Hid (Blk xs) := hx
  have HLi : Hid (∀ w0, Calls Tryz.prog 71 #[.agg (ints .u8 xs)] w0 fun e w' => ∃ g, e = .returned (.slice (some ⟨g, 0, none⟩) 16 16) ∧ Ar w' g 0 .u8 xs ∧ w0.heap.size ≤ g ∧ Below w0.heap.size w0 w') := fun w0 => list_any xs w0 hx.1 hx.2
  have HS : Hid (∀ v w0, Byt w0 v xs → Calls Tryz.prog 90 #[v] w0 fun e w' => ∃ v', e = .returned v' ∧ Byt w' v' (looked btab xs) ∧ Below w0.heap.size w0 w') := fun v w0 h => backsl_any v xs w0 h (by rw [hx.1]; omega)
  have hb := looked_blk btab xs bAll hx.1
  have HO : Hid (∀ v w0, Byt w0 v (looked btab xs) → Calls Tryz.prog 64 #[v] w0 fun e w' => e = .returned (.agg (ints .u8 (looked btab xs))) ∧ Below w0.heap.size w0 w') := fun v w0 h => of_any v _ w0 h hb.1
  have ZL : Hid ((looked btab xs).length = 16) := hb.1
  generalize looked btab xs = zs at *
  clear hx hb
  go_enter Tryz.func66, Tryz.ntmps66
  go_wp2_with (first
    | (refine box_lawF _ rfl (.tmp 0) 88 rfl .u8 xs rfl ?_; intro w1 A1 B1 s1; have HA1 : Hid (Ar w1 w.heap.size 0 .u8 xs) := A1; clear A1)
    | (have q1 := s1; refine new_lawF _ rfl 88 rfl .u8 z16 z_st ?_; intro w2 A2 B2 s2; have HA2 : Hid (Ar w2 w1.heap.size 0 .u8 z16) := A2; clear A2)
    | (have q2 := s2; refine load_lawN _ rfl (.tmp 2) 88 rfl .u8 xs w.heap.size 0 rfl (HA1.out.below B2 s1) 4 16 86 Tryz.underlying88 i_st HX.out.1 ?_)
    | (go_at_call 64; refine (HO.out _ _ Y4.out).mono ?_; rintro e w5 ⟨rfl, B5⟩; have D5 : Hid (Ar w5 w1.heap.size 0 .u8 z16) := ((HA2.out.below B3 s2).below B4 (by have := B3.size; omega)).below B5 (by have := B3.size; have := B4.size; omega))
    | (go_at_call 90; refine (HS.out _ _ Y3.out).mono ?_; rintro e w4 ⟨v4, rfl, y4, B4⟩; have Y4 : Hid (Byt w4 v4 zs) := y4; clear y4)
    | (go_at_call 71; refine (HLi.out _).mono ?_; rintro e w3 ⟨g, rfl, A3, L3, B3⟩; have Y3 : Hid (Byt w3 (.slice (some ⟨g, 0, none⟩) 16 16) xs) := A3.bytG HX.out.2 16 16 HX.out.1 (by omega) (by omega); clear A3)
    | (have q5 := D5; refine store_lawF _ rfl (.tmp 4) (.tmp 9) 88 rfl .u8 z16 zs w1.heap.size rfl rfl D5.out 16 i_st z16_len ZL.out ?_; intro w6 A6 B6))
  refine bodyPost_ret (v := .agg (ints .u8 zs)) (results_arN rfl _ _ w1.heap.size 0 .u8 zs rfl A6 4 16 86 Tryz.underlying88 i_st ZL.out) rfl ⟨rfl, ?_⟩
  have z3 := B3.size
  have z4_ := B4.size
  exact ((((B1.trans (B2.mono (by omega))).trans (B3.mono (by omega))).trans (B4.mono (by omega))).trans (B5.mono (by omega))).trans (B6.mono (by omega))
end Go.Proofs.YtbkaecjkgjkheaaGreatDoor

/- What aes' takes and Encrypt answer. No claim of its own. -/
namespace Go.Proofs.YtbkaecjkgjkheaaGreatDoor
open Go.RowKit
set_option maxRecDepth 20000

set_option maxHeartbeats 1000000 in
theorem takes_yes (v : Value) (xs key : List Int) (kb : Nat) (w : World) (hk : KeyA w kb key) (hv : Byt w v xs) (hl : xs.length = 16) :
    Calls Tryz.prog 63 #[.pointer (some ⟨kb, 0, none⟩), v] w fun e w' => e = .returned (.bool true) ∧ w' = w := by
  have c := hk.1
  obtain ⟨ao, ca, rfl, -, -, -, -, -⟩ := hv
  rw [hl]
  clear hk hl
  go_enter Tryz.func63, Tryz.ntmps63
  go_wp2
  go_ret
  exact ⟨rfl, rfl⟩
set_option maxHeartbeats 1000000 in
theorem takes_len (v : Value) (xs key : List Int) (kb : Nat) (w : World) (hk : KeyA w kb key) (hv : Byt w v xs) (hl : ¬ xs.length = 16) :
    Calls Tryz.prog 63 #[.pointer (some ⟨kb, 0, none⟩), v] w fun e w' => e = .returned (.bool false) ∧ w' = w := by
  have c := hk.1
  obtain ⟨ao, ca, rfl, h1, h2, -, -, -⟩ := hv
  have h3 : ¬ ((xs.length : Int) = 16) := by omega
  clear hk hl
  generalize xs.length = n at *
  go_enter Tryz.func63, Tryz.ntmps63
  go_wp2
  go_ret
  exact ⟨ret_bool (by simpa using h3), rfl⟩
set_option maxHeartbeats 1000000 in
theorem takes_nil (v : Value) (w : World) :
    Calls Tryz.prog 63 #[.pointer none, v] w fun e w' => e = .returned (.bool false) ∧ w' = w := by
  go_enter Tryz.func63, Tryz.ntmps63
  go_wp2
  go_ret
  exact ⟨rfl, rfl⟩
set_option maxHeartbeats 1000000 in
theorem takes_raw (v : Value) (kb : Nat) (w : World) (c : w.cell? ⟨kb, 0, none⟩ = some (.bool false)) :
    Calls Tryz.prog 63 #[.pointer (some ⟨kb, 0, none⟩), v] w fun e w' => e = .returned (.bool false) ∧ w' = w := by
  go_enter Tryz.func63, Tryz.ntmps63
  go_wp2
  go_ret
  exact ⟨rfl, rfl⟩
end Go.Proofs.YtbkaecjkgjkheaaGreatDoor

/- What aes' Encrypt answers. No claim of its own. -/
namespace Go.Proofs.YtbkaecjkgjkheaaGreatDoor
open Go.RowKit
set_option maxRecDepth 20000

/-- what a load yields -/
theorem exec_load {ev : Operand → Value} {o : Oper} (t : TypeId) (x : Operand) (hop : o.op = Op.load t x) (p : Value) (hx : ev x = p) (v : Value) (w : World) (hr : (Instr.loadAt t p).run Tryz.prog w = .ok v w) : (execOp ev o).run Tryz.prog w = .ok (.value v) w := by
  unfold execOp
  simp only [hop, hx, Sem.run_bind, Sem.run_pure, Result.andThen_ok, hr]
/-- a call's contract, in a class of worlds -/
theorem in_class {f : FuncId} {vs : Array Value} {v : Value} {wr : World} (h : ∀ w0, Calls Tryz.prog f vs w0 fun e w' => e = .returned v ∧ Below w0.heap.size w0 w') :
    ∀ w', Below wr.heap.size wr w' → Calls Tryz.prog f vs w' fun e w'' => e = .returned v ∧ Below wr.heap.size wr w'' := fun w' hb =>
  (h w').mono fun _ _ h' => ⟨h'.1, hb.trans (h'.2.mono hb.size)⟩

set_option linter.unusedSimpArgs false in
set_option maxRecDepth 20000 in
set_option maxHeartbeats 8000000 in
theorem encrypt_any (v : Value) (xs key : List Int) (kb : Nat) (w : World) (hk : KeyA w kb key) (hkl : key.length = 32) (hka : AllB key) (hv : Byt w v xs) (hl : xs.length = 16) :
    Calls Tryz.prog 36 #[.pointer (some ⟨kb, 0, none⟩), v] w fun e w' => ∃ g, e = .returned (.tuple #[.slice (some ⟨g, 0, none⟩) 16 16, .int .i64 0]) ∧ Ar w' g 0 .u8 (encr key xs) ∧ w.heap.size ≤ g ∧ Below w.heap.size w w' := by
  have HKB : Hid (∀ r, Blk (rk key r)) := fun r => rk_blk key hkl hka r
  have HKR : Hid (∀ w', KeyA w' kb key → ∀ r, r < 15 → Ar w' kb (1 + 16 * r) .u8 (rk key r)) := fun w' h r hr => h.round hkl hka r hr
  have HK : Hid (KeyA w kb key) := hk
  have HV : Hid (Byt w v xs) := hv
  have hkw : kb < w.heap.size := hk.lt
  have HO : Hid (∀ w0, Byt w0 v xs → Calls Tryz.prog 64 #[v] w0 fun e w' => e = .returned (.agg (ints .u8 xs)) ∧ Below w0.heap.size w0 w') := fun w0 h => of_any v xs w0 h hl
  have HT : Hid (Calls Tryz.prog 63 #[.pointer (some ⟨kb, 0, none⟩), v] w fun e w' => e = .returned (.bool true) ∧ w' = w) := takes_yes v xs key kb w hk hv hl
  have hxb : Blk xs := ⟨hl, hv.all⟩
  have HEB : Hid (∀ r, Blk (enc key xs r)) := fun r => enc_blk key hkl hka xs hxb r
  have HES : Hid (∀ r, r < 13 → enc key xs (r + 1) = xorl (mixb (shl16 (looked ptab (enc key xs r)) 1) mixW) (rk key (r + 1))) := fun r hr => by
    rw [enc, fw, mx, if_pos (by omega)]
  have HEL : Hid (encr key xs = xorl (shl16 (looked ptab (enc key xs 13)) 1) (rk key 14)) := by
    show _ = _
    rw [encr, enc, fw, mx, if_neg (by omega)]
  have HX0 : Hid (∀ w0, Calls Tryz.prog 65 #[.agg (ints .u8 xs), .agg (ints .u8 (rk key 0))] w0 fun e w' => e = .returned (.agg (ints .u8 (enc key xs 0))) ∧ Below w0.heap.size w0 w') := fun w0 => xored_any xs (rk key 0) w0 hxb (HKB.out 0)
  have HE0 : Hid ((enc key xs 0).length = 16) := (HEB.out 0).1
  have RD0 : Hid (∀ w', Below w.heap.size w w' → (Instr.loadAt 88 (.pointer (some ⟨kb, 1, none⟩))).run Tryz.prog w' = .ok (.agg (ints .u8 (rk key 0))) w') := fun w' h => by
    have hA := HKR.out w' (HK.out.below h hkw) 0 (by omega)
    have := run_loadVar_mid (P := Tryz.prog) w' kb 1 88 _ _ hA.1 Tryz.underlying88 rfl (by rw [i_st]; simp [(HKB.out 0).1])
    simp only [Instr.loadAt, Instr.sureAddr, Sem.run_bind, Sem.run_pure, Result.andThen_ok, this]
    rfl
  obtain ⟨ao, ca, rfl, ha1, -, -, -, ha5⟩ := hv
  obtain ⟨bb, bo, rfl, -⟩ := ha5 (by omega)
  rw [hl] at HV HO HT ha1 ⊢
  obtain ⟨e0, he0⟩ : ∃ e, e = enc key xs 0 := ⟨_, rfl⟩
  obtain ⟨k0, hk0⟩ : ∃ e, e = rk key 0 := ⟨_, rfl⟩
  have HEE : Hid (e0 = enc key xs 0) := he0
  rw [← he0, ← hk0] at HX0
  rw [← he0] at HE0
  rw [← hk0] at RD0
  have ZB : Hid (Blk (encr key xs)) := HEB.out 14
  generalize encr key xs = zs at *
  clear ha5 hl hk hkl hka hxb he0 hk0
  go_enter Tryz.func36, Tryz.ntmps36
  go_wp2_with (go_at_call 63; refine (HT.out).mono ?_; rintro e w1 ⟨rfl, hw⟩; obtain rfl := hw.symm)
  go_cut [6] (fun r6 wc => ∃ c : Nat, r6 = .pointer (some ⟨c, 0, none⟩) ∧ w.heap.size ≤ c ∧ Ar wc c 0 .u8 e0 ∧ Below w.heap.size w wc)
  case first =>
    refine wp_region_held_drew (S := fun w' => Below w.heap.size w w') (by kernel_rfl) (Below.refl _ _).drew (fun hS => ?_)
    refine take_lawH 0 (some 12) (.slice (some ⟨bb, bo, none⟩) 16 ca) rfl rfl (by kernel_rfl) (by kernel_rfl) (by kernel_rfl) (fun _ _ _ h => h) (Or.inl ⟨by rfl, fun w' hw' => by rfl⟩) hS ?_
    simp only [Act.put, List.setIfInBounds_toArray, List.set_cons_zero, List.set_cons_succ]
    refine take_lawH 2 (some 14) (.pointer (some ⟨kb, 0, none⟩)) rfl rfl (by kernel_rfl) (by kernel_rfl) (by kernel_rfl) (fun _ _ _ h => h) (Or.inl ⟨by rfl, fun w' hw' => by rfl⟩) hS ?_
    simp only [Act.put, List.setIfInBounds_toArray, List.set_cons_zero, List.set_cons_succ]
    refine take_lawH 3 (some 15) (.pointer (some ⟨kb, 0, none⟩)) rfl rfl (by kernel_rfl) (by kernel_rfl) (by kernel_rfl) (fun _ _ _ h => h) (Or.inl ⟨by rfl, fun w' hw' => by rfl⟩) hS ?_
    simp only [Act.put, List.setIfInBounds_toArray, List.set_cons_zero, List.set_cons_succ]
    refine take_lawH 4 (some 16) (.pointer (some ⟨kb, 1, none⟩)) rfl rfl (by kernel_rfl) (by kernel_rfl) (by kernel_rfl) (fun _ _ _ h => h) (Or.inl ⟨by rfl, fun w' hw' => by rfl⟩) hS ?_
    simp only [Act.put, List.setIfInBounds_toArray, List.set_cons_zero, List.set_cons_succ]
    refine take_lawH 5 (some 17) (.pointer (some ⟨kb, 1, none⟩)) rfl rfl (by kernel_rfl) (by kernel_rfl) (by kernel_rfl) (fun _ _ _ h => h) (Or.inl ⟨by rfl, fun w' hw' => by go_simp⟩) hS ?_
    simp only [Act.put, List.setIfInBounds_toArray, List.set_cons_zero, List.set_cons_succ]
    refine take_lawH 6 (some 18) (.agg (ints .u8 k0)) rfl rfl (by kernel_rfl) (by kernel_rfl) (by kernel_rfl) (fun _ _ _ h => h) (Or.inl ⟨by rfl, fun w' hw' => by exact exec_load 88 (.tmp 17) rfl _ rfl _ _ (RD0.out w' hw')⟩) hS ?_
    simp only [Act.put, List.setIfInBounds_toArray, List.set_cons_zero, List.set_cons_succ]
    obtain ⟨x0, hx0⟩ : ∃ x, x = w.drew := ⟨_, rfl⟩
    rw [← hx0] at hS ⊢
    have b0 := hS
    clear hx0
    refine wpAnyH_ready (rs := [1, 8]) (by kernel_rfl) (by simp) ?_
    refine AllReadyH.cons rfl (fun K hK => ?_) (AllReadyH.cons rfl (fun K hK => ?_) AllReadyH.nil)
    · refine step_callD _ rfl (some 13) rfl 64 #[.tmp 12] #[22] rfl (fun q w' => by rfl) #[.slice (some ⟨bb, bo, none⟩) 16 ca] (by simp only [List.map_toArray, List.map_cons, List.map_nil]; rfl) (.agg (ints .u8 xs)) _ (HO.out x0 (HV.out.below b0)) fun x1 c1 => ?_
      have b1 : Below w.heap.size w x1 := b0.trans (c1.mono b0.size)
      refine hK.out _ _ b1 (fun _ => ?_)
      simp only [Act.put, List.setIfInBounds_toArray, List.set_cons_zero, List.set_cons_succ]
      refine wpAnyH_ready (rs := [7, 8]) (by kernel_rfl) (by simp) ?_
      refine AllReadyH.cons rfl (fun K hK => ?_) (AllReadyH.cons rfl (fun K hK => ?_) AllReadyH.nil)
      · refine step_callD _ rfl (some 19) rfl 65 #[.tmp 13, .tmp 18] #[88, 88] rfl (fun q w' => by rfl) #[.agg (ints .u8 xs), .agg (ints .u8 k0)] (by simp only [List.map_toArray, List.map_cons, List.map_nil]; rfl) (.agg (ints .u8 e0)) _ (HX0.out x1) fun x2 c2 => ?_
        have b2 : Below w.heap.size w x2 := b1.trans (c2.mono b1.size)
        refine hK.out _ _ b2 (fun _ => ?_)
        simp only [Act.put, List.setIfInBounds_toArray, List.set_cons_zero, List.set_cons_succ]
        refine wpAnyH_ready (rs := [8]) (by kernel_rfl) (by simp) ?_
        refine AllReadyH.cons rfl (fun K hK => ?_) AllReadyH.nil
        refine step_newG _ rfl (some 6) rfl 88 rfl .u8 z16 z_st fun x3 a3 c3 l3 => ?_
        have b3 : Below w.heap.size w x3 := b2.trans (c3.mono b2.size)
        have gl := b2.size
        refine hK.out _ _ b3 (fun _ => ?_)
        simp only [Act.put, List.setIfInBounds_toArray, List.set_cons_zero, List.set_cons_succ]
        generalize x2.heap.size = gg at *
        refine wpAnyH_ready (rs := [9]) (by kernel_rfl) (by simp) ?_
        refine AllReadyH.cons rfl (fun K hK => ?_) AllReadyH.nil
        refine step_storeG _ rfl none rfl (.tmp 6) (.tmp 19) 88 rfl .u8 z16 e0 gg rfl rfl a3 16 i_st z16_len HE0.out fun x4 a4 c4 => ?_
        have b4 : Below w.heap.size w x4 := b3.trans (c4.mono gl)
        refine hK.out _ _ b4 (fun _ => ?_)
        simp only [Act.put, List.setIfInBounds_toArray, List.set_cons_zero, List.set_cons_succ]
        refine wpAnyH_done (by kernel_rfl) ?_ _
        go_wp2_with fail
        go_meet
        exact ⟨gg, rfl, gl, a4, b4⟩
      · refine step_newG _ rfl (some 6) rfl 88 rfl .u8 z16 z_st fun x5 a5 c5 l5 => ?_
        have b5 : Below w.heap.size w x5 := b1.trans (c5.mono b1.size)
        have gl := b1.size
        refine hK.out _ _ b5 (fun _ => ?_)
        simp only [Act.put, List.setIfInBounds_toArray, List.set_cons_zero, List.set_cons_succ]
        generalize x1.heap.size = gg at *
        refine wpAnyH_ready (rs := [7]) (by kernel_rfl) (by simp) ?_
        refine AllReadyH.cons rfl (fun K hK => ?_) AllReadyH.nil
        refine step_callD _ rfl (some 19) rfl 65 #[.tmp 13, .tmp 18] #[88, 88] rfl (fun q w' => by rfl) #[.agg (ints .u8 xs), .agg (ints .u8 k0)] (by simp only [List.map_toArray, List.map_cons, List.map_nil]; rfl) (.agg (ints .u8 e0)) _ (HX0.out x5) fun x6 c6 => ?_
        have b6 : Below w.heap.size w x6 := b5.trans (c6.mono b5.size)
        have a6 : Ar x6 gg 0 .u8 z16 := a5.below c6 l5
        have l6 : gg < x6.heap.size := Nat.lt_of_lt_of_le l5 c6.size
        refine hK.out _ _ b6 (fun _ => ?_)
        simp only [Act.put, List.setIfInBounds_toArray, List.set_cons_zero, List.set_cons_succ]
        refine wpAnyH_ready (rs := [9]) (by kernel_rfl) (by simp) ?_
        refine AllReadyH.cons rfl (fun K hK => ?_) AllReadyH.nil
        refine step_storeG _ rfl none rfl (.tmp 6) (.tmp 19) 88 rfl .u8 z16 e0 gg rfl rfl a6 16 i_st z16_len HE0.out fun x7 a7 c7 => ?_
        have b7 : Below w.heap.size w x7 := b6.trans (c7.mono gl)
        refine hK.out _ _ b7 (fun _ => ?_)
        simp only [Act.put, List.setIfInBounds_toArray, List.set_cons_zero, List.set_cons_succ]
        refine wpAnyH_done (by kernel_rfl) ?_ _
        go_wp2_with fail
        go_meet
        exact ⟨gg, rfl, gl, a7, b7⟩
    · refine step_newG _ rfl (some 6) rfl 88 rfl .u8 z16 z_st fun x8 a8 c8 l8 => ?_
      have b8 : Below w.heap.size w x8 := b0.trans (c8.mono b0.size)
      have gl := b0.size
      refine hK.out _ _ b8 (fun _ => ?_)
      simp only [Act.put, List.setIfInBounds_toArray, List.set_cons_zero, List.set_cons_succ]
      generalize x0.heap.size = gg at *
      refine wpAnyH_ready (rs := [1]) (by kernel_rfl) (by simp) ?_
      refine AllReadyH.cons rfl (fun K hK => ?_) AllReadyH.nil
      refine step_callD _ rfl (some 13) rfl 64 #[.tmp 12] #[22] rfl (fun q w' => by rfl) #[.slice (some ⟨bb, bo, none⟩) 16 ca] (by simp only [List.map_toArray, List.map_cons, List.map_nil]; rfl) (.agg (ints .u8 xs)) _ (HO.out x8 (HV.out.below b8)) fun x9 c9 => ?_
      have b9 : Below w.heap.size w x9 := b8.trans (c9.mono b8.size)
      have a9 : Ar x9 gg 0 .u8 z16 := a8.below c9 l8
      have l9 : gg < x9.heap.size := Nat.lt_of_lt_of_le l8 c9.size
      refine hK.out _ _ b9 (fun _ => ?_)
      simp only [Act.put, List.setIfInBounds_toArray, List.set_cons_zero, List.set_cons_succ]
      refine wpAnyH_ready (rs := [7]) (by kernel_rfl) (by simp) ?_
      refine AllReadyH.cons rfl (fun K hK => ?_) AllReadyH.nil
      refine step_callD _ rfl (some 19) rfl 65 #[.tmp 13, .tmp 18] #[88, 88] rfl (fun q w' => by rfl) #[.agg (ints .u8 xs), .agg (ints .u8 k0)] (by simp only [List.map_toArray, List.map_cons, List.map_nil]; rfl) (.agg (ints .u8 e0)) _ (HX0.out x9) fun x10 c10 => ?_
      have b10 : Below w.heap.size w x10 := b9.trans (c10.mono b9.size)
      have a10 : Ar x10 gg 0 .u8 z16 := a9.below c10 l9
      have l10 : gg < x10.heap.size := Nat.lt_of_lt_of_le l9 c10.size
      refine hK.out _ _ b10 (fun _ => ?_)
      simp only [Act.put, List.setIfInBounds_toArray, List.set_cons_zero, List.set_cons_succ]
      refine wpAnyH_ready (rs := [9]) (by kernel_rfl) (by simp) ?_
      refine AllReadyH.cons rfl (fun K hK => ?_) AllReadyH.nil
      refine step_storeG _ rfl none rfl (.tmp 6) (.tmp 19) 88 rfl .u8 z16 e0 gg rfl rfl a10 16 i_st z16_len HE0.out fun x11 a11 c11 => ?_
      have b11 : Below w.heap.size w x11 := b10.trans (c11.mono gl)
      refine hK.out _ _ b11 (fun _ => ?_)
      simp only [Act.put, List.setIfInBounds_toArray, List.set_cons_zero, List.set_cons_succ]
      refine wpAnyH_done (by kernel_rfl) ?_ _
      go_wp2_with fail
      go_meet
      exact ⟨gg, rfl, gl, a11, b11⟩
  case rest =>
    obtain ⟨g6, rfl, hg6, hA0, hB0⟩ := hcut
    clear HX0 RD0 HE0
    rw [HEE.out] at hA0
    go_wp2
    go_loopw [7] (fun i wr => ∃ r : Nat, 1 ≤ r ∧ r ≤ 14 ∧ i = .int .i64 r ∧ Ar wr g6 0 .u8 (enc key xs (r - 1)) ∧ Below w.heap.size w wr) (fun i _ => 14 - (intOf i).toNat)
    case atStart => exact ⟨1, Nat.le_refl _, by omega, rfl, hA0, hB0⟩
    case round =>
      obtain ⟨r, hr1, hr, rfl, hA, hB⟩ := hrel
      have q0 : (0 : Int) ≤ (r : Int) := by omega
      have q1 : IntKind.i64.wrap (r : Int) = r := by rw [IntKind.wrap_i64]; omega
      have hgw : g6 < wr.heap.size := hA.lt (by rw [(HEB.out _).1]; omega)
      have hkk : kb < wr.heap.size := by have := hB.size; omega
      have LS : Hid (∀ w', Below wr.heap.size wr w' → Ar w' g6 0 .u8 (enc key xs (r - 1))) := fun w' h => hA.below h hgw
      have LL : Hid ((enc key xs (r - 1)).length = 16) := (HEB.out _).1
      have sb1 := HEB.out (r - 1)
      have sb2 := looked_blk ptab _ pAll sb1.1
      have sb3 := shl16_blk _ 1 sb2
      have P1 : Hid (∀ w', Below wr.heap.size wr w' → Calls Tryz.prog 66 #[.agg (ints .u8 (enc key xs (r - 1))), .func (.func 67) #[] #[]] w' fun e w'' => e = .returned (.agg (ints .u8 (looked ptab (enc key xs (r - 1))))) ∧ Below wr.heap.size wr w'') := in_class fun w0 => put_subs _ w0 sb1
      have P2 : Hid (∀ w', Below wr.heap.size wr w' → Calls Tryz.prog 68 #[.agg (ints .u8 (looked ptab (enc key xs (r - 1)))), .int .i64 1] w' fun e w'' => e = .returned (.agg (ints .u8 (shl16 (looked ptab (enc key xs (r - 1))) 1))) ∧ Below wr.heap.size wr w'') := in_class fun w0 => shifted_any _ 1 1 w0 sb2 stp_one
      by_cases hlt : r < 14
      · have k1 : (r : Int) < 14 := by omega
        have P3 : Hid (∀ w', Below wr.heap.size wr w' → Calls Tryz.prog 69 #[.agg (ints .u8 (shl16 (looked ptab (enc key xs (r - 1))) 1)), .func (.func 70) #[] #[]] w' fun e w'' => e = .returned (.agg (ints .u8 (mixb (shl16 (looked ptab (enc key xs (r - 1))) 1) mixW))) ∧ Below wr.heap.size wr w'') := in_class fun w0 => mixed_mix _ w0 sb3
        have P4 : Hid (∀ w', Below wr.heap.size wr w' → Calls Tryz.prog 65 #[.agg (ints .u8 (mixb (shl16 (looked ptab (enc key xs (r - 1))) 1) mixW)), .agg (ints .u8 (rk key r))] w' fun e w'' => e = .returned (.agg (ints .u8 (enc key xs r))) ∧ Below wr.heap.size wr w'') := in_class fun w0 => by
          have e := HES.out (r - 1) (by omega)
          rw [show r - 1 + 1 = r by omega] at e
          rw [e]
          exact xored_any _ _ w0 (mixb_blk _ _ mixW_col) (HKB.out r)
        have LK : Hid (∀ w', Below wr.heap.size wr w' → Ar w' kb (1 + 16 * r) .u8 (rk key r)) := fun w' h => HKR.out w' ((HK.out.below hB hkw).below h hkk) r (by omega)
        have KL : Hid ((rk key r).length = 16) := (HKB.out r).1
        have EL : Hid ((enc key xs r).length = 16) := (HEB.out r).1
        have HA : Hid (Ar wr g6 0 .u8 (enc key xs (r - 1))) := hA
        have HB : Hid (Below w.heap.size w wr) := hB
        have HN : Hid (enc key xs (r + 1 - 1) = enc key xs r) := rfl
        clear hA hB sb1 sb2 sb3
        generalize enc key xs r = s4 at *
        generalize mixb (shl16 (looked ptab (enc key xs (r - 1))) 1) mixW = s3 at *
        generalize shl16 (looked ptab (enc key xs (r - 1))) 1 = s2 at *
        generalize looked ptab (enc key xs (r - 1)) = s1 at *
        generalize enc key xs (r - 1) = ss at *
        generalize rk key r = kr at *
        go_wp2
        refine wp_region_any (by kernel_rfl) ?_
        refine wpAny_quiet_then (C := fun w' => Below wr.heap.size wr w') 0 11 1 _ (by kernel_rfl) rfl (by kernel_rfl) (by kernel_rfl) (Below.refl _ _).drew ?_
        simp only [List.take_succ_cons, List.take_zero, List.drop_zero]
        refine wpQuiet_step (fun K hK => ?_)
        refine q_loadA (by rfl) (some 24) rfl (.tmp 6) 88 rfl .u8 ss g6 0 rfl LS.out 4 16 86 Tryz.underlying88 i_st LL.out (hK _ ?_)
        simp only [Act.put, List.setIfInBounds_toArray, List.set_cons_zero, List.set_cons_succ]
        clear hK K
        refine wpQuiet_step (fun K hK => ?_)
        refine q_call (by rfl) (some 25) rfl 66 #[.tmp 24, .func 67] #[88, 69] rfl (fun q w' => by rfl) #[.agg (ints .u8 ss), .func (.func 67) #[] #[]] (by simp only [List.map_toArray, List.map_cons, List.map_nil]; rfl) (.agg (ints .u8 s1)) P1.out (hK _ ?_)
        simp only [Act.put, List.setIfInBounds_toArray, List.set_cons_zero, List.set_cons_succ]
        clear hK K
        refine wpQuiet_step (fun K hK => ?_)
        refine q_call (by rfl) (some 26) rfl 68 #[.tmp 25, .const (.int .i64 1)] #[88, 3] rfl (fun q w' => by rfl) #[.agg (ints .u8 s1), .int .i64 1] (by simp only [List.map_toArray, List.map_cons, List.map_nil]; rfl) (.agg (ints .u8 s2)) P2.out (hK _ ?_)
        simp only [Act.put, List.setIfInBounds_toArray, List.set_cons_zero, List.set_cons_succ]
        clear hK K
        refine wpQuiet_step (fun K hK => ?_)
        refine q_call (by rfl) (some 27) rfl 69 #[.tmp 26, .func 70] #[88, 103] rfl (fun q w' => by rfl) #[.agg (ints .u8 s2), .func (.func 70) #[] #[]] (by simp only [List.map_toArray, List.map_cons, List.map_nil]; rfl) (.agg (ints .u8 s3)) P3.out (hK _ ?_)
        simp only [Act.put, List.setIfInBounds_toArray, List.set_cons_zero, List.set_cons_succ]
        clear hK K
        refine wpQuiet_step (fun K hK => ?_)
        refine q_val (by rfl) (some 28) rfl (.pointer (some ⟨kb, 0, none⟩)) (fun w' _ => by rfl) (hK _ ?_)
        simp only [Act.put, List.setIfInBounds_toArray, List.set_cons_zero, List.set_cons_succ]
        clear hK K
        refine wpQuiet_step (fun K hK => ?_)
        refine q_val (by rfl) (some 29) rfl (.int .i64 (r : Int)) (fun w' _ => by rfl) (hK _ ?_)
        simp only [Act.put, List.setIfInBounds_toArray, List.set_cons_zero, List.set_cons_succ]
        clear hK K
        refine wpQuiet_step (fun K hK => ?_)
        refine q_val (by rfl) (some 30) rfl (.pointer (some ⟨kb, 0, none⟩)) (fun w' _ => by rfl) (hK _ ?_)
        simp only [Act.put, List.setIfInBounds_toArray, List.set_cons_zero, List.set_cons_succ]
        clear hK K
        refine wpQuiet_step (fun K hK => ?_)
        refine q_val (by rfl) (some 31) rfl (.pointer (some ⟨kb, 1, none⟩)) (fun w' _ => by rfl) (hK _ ?_)
        simp only [Act.put, List.setIfInBounds_toArray, List.set_cons_zero, List.set_cons_succ]
        clear hK K
        refine wpQuiet_step (fun K hK => ?_)
        refine q_idxA (by rfl) (some 32) rfl (.tmp 31) (.tmp 29) 89 rfl kb 1 (1 + 16 * r) 15 16 r ua_sts la_sts ia_sts rfl rfl (by omega) (by omega) (hK _ ?_)
        simp only [Act.put, List.setIfInBounds_toArray, List.set_cons_zero, List.set_cons_succ]
        clear hK K
        refine wpQuiet_step (fun K hK => ?_)
        refine q_loadA (by rfl) (some 33) rfl (.tmp 32) 88 rfl .u8 kr kb (1 + 16 * r) rfl LK.out 4 16 86 Tryz.underlying88 i_st KL.out (hK _ ?_)
        simp only [Act.put, List.setIfInBounds_toArray, List.set_cons_zero, List.set_cons_succ]
        clear hK K
        refine wpQuiet_step (fun K hK => ?_)
        refine q_call (by rfl) (some 34) rfl 65 #[.tmp 27, .tmp 33] #[88, 88] rfl (fun q w' => by rfl) #[.agg (ints .u8 s3), .agg (ints .u8 kr)] (by simp only [List.map_toArray, List.map_cons, List.map_nil]; rfl) (.agg (ints .u8 s4)) P4.out (hK _ ?_)
        simp only [Act.put, List.setIfInBounds_toArray, List.set_cons_zero, List.set_cons_succ]
        clear hK K
        refine wpQuiet_nil ?_
        intro f w3 B3
        refine wpAny_ready (rs := [11]) (by kernel_rfl) (by simp) ?_
        refine AllReady.cons rfl (fun K hK => ?_) AllReady.nil
        refine step_storeG _ rfl none rfl (.tmp 6) (.tmp 34) 88 rfl .u8 ss s4 g6 rfl rfl (LS.out _ B3) 16 i_st LL.out EL.out fun w4 A4 B4 => hK _ _ ?_
        simp only [Act.put, List.setIfInBounds_toArray, List.set_cons_zero, List.set_cons_succ]
        have HA4 : Hid (Ar w4 g6 0 .u8 (enc key xs (r + 1 - 1))) := by show Ar _ _ _ _ _; rw [HN.out]; exact A4
        have HB4 : Hid (Below w.heap.size w w4) := (HB.out.trans (B3.mono HB.out.size)).trans (B4.mono hg6)
        clear A4 B4 B3
        refine wpAny_done (by kernel_rfl) ?_ _
        go_wp2
        go_roundw
        case rel => exact ⟨r + 1, by omega, by omega, by go_num, HA4.out, HB4.out⟩
        case measure => simp [intOf]; omega
      · have hr14 : r = 14 := by omega
        subst hr14
        have P4 : Hid (∀ w', Below wr.heap.size wr w' → Calls Tryz.prog 65 #[.agg (ints .u8 (shl16 (looked ptab (enc key xs (14 - 1))) 1)), .agg (ints .u8 (rk key 14))] w' fun e w'' => e = .returned (.agg (ints .u8 zs)) ∧ Below wr.heap.size wr w'') := in_class fun w0 => by
          rw [HEL.out]
          exact xored_any _ _ w0 sb3 (HKB.out 14)
        have LK : Hid (∀ w', Below wr.heap.size wr w' → Ar w' kb 225 .u8 (rk key 14)) := fun w' h => HKR.out w' ((HK.out.below hB hkw).below h hkk) 14 (by omega)
        have KL : Hid ((rk key 14).length = 16) := (HKB.out 14).1
        have EB : Blk zs := ZB.out
        have HLi : Hid (∀ w0, Calls Tryz.prog 71 #[.agg (ints .u8 zs)] w0 fun e w' => ∃ v, e = .returned v ∧ ∃ g, v = .slice (some ⟨g, 0, none⟩) 16 16 ∧ Ar w' g 0 .u8 zs ∧ w0.heap.size ≤ g ∧ Below w0.heap.size w0 w') := fun w0 => (list_any _ w0 EB.1 EB.2).mono fun _ _ ⟨g, he, h⟩ => ⟨_, he, g, rfl, h⟩
        clear sb1 sb2 sb3 EB hA
        generalize shl16 (looked ptab (enc key xs (14 - 1))) 1 = s2 at *
        generalize looked ptab (enc key xs (14 - 1)) = s1 at *
        generalize enc key xs (14 - 1) = ss at *
        generalize rk key 14 = kr at *
        go_wp2
        refine wp_region_any (by kernel_rfl) ?_
        refine wpAny_quiet_then (C := fun w' => Below wr.heap.size wr w') 0 9 3 _ (by kernel_rfl) rfl (by kernel_rfl) (by kernel_rfl) (Below.refl _ _).drew ?_
        simp only [List.take_succ_cons, List.take_zero, List.drop_zero]
        refine wpQuiet_step (fun K hK => ?_)
        refine q_loadA (by rfl) (some 35) rfl (.tmp 6) 88 rfl .u8 ss g6 0 rfl LS.out 4 16 86 Tryz.underlying88 i_st LL.out (hK _ ?_)
        simp only [Act.put, List.setIfInBounds_toArray, List.set_cons_zero, List.set_cons_succ]
        clear hK K
        refine wpQuiet_step (fun K hK => ?_)
        refine q_call (by rfl) (some 36) rfl 66 #[.tmp 35, .func 67] #[88, 69] rfl (fun q w' => by rfl) #[.agg (ints .u8 ss), .func (.func 67) #[] #[]] (by simp only [List.map_toArray, List.map_cons, List.map_nil]; rfl) (.agg (ints .u8 s1)) P1.out (hK _ ?_)
        simp only [Act.put, List.setIfInBounds_toArray, List.set_cons_zero, List.set_cons_succ]
        clear hK K
        refine wpQuiet_step (fun K hK => ?_)
        refine q_call (by rfl) (some 37) rfl 68 #[.tmp 36, .const (.int .i64 1)] #[88, 3] rfl (fun q w' => by rfl) #[.agg (ints .u8 s1), .int .i64 1] (by simp only [List.map_toArray, List.map_cons, List.map_nil]; rfl) (.agg (ints .u8 s2)) P2.out (hK _ ?_)
        simp only [Act.put, List.setIfInBounds_toArray, List.set_cons_zero, List.set_cons_succ]
        clear hK K
        refine wpQuiet_step (fun K hK => ?_)
        refine q_val (by rfl) (some 38) rfl (.pointer (some ⟨kb, 0, none⟩)) (fun w' _ => by rfl) (hK _ ?_)
        simp only [Act.put, List.setIfInBounds_toArray, List.set_cons_zero, List.set_cons_succ]
        clear hK K
        refine wpQuiet_step (fun K hK => ?_)
        refine q_val (by rfl) (some 39) rfl (.pointer (some ⟨kb, 0, none⟩)) (fun w' _ => by rfl) (hK _ ?_)
        simp only [Act.put, List.setIfInBounds_toArray, List.set_cons_zero, List.set_cons_succ]
        clear hK K
        refine wpQuiet_step (fun K hK => ?_)
        refine q_val (by rfl) (some 40) rfl (.pointer (some ⟨kb, 1, none⟩)) (fun w' _ => by rfl) (hK _ ?_)
        simp only [Act.put, List.setIfInBounds_toArray, List.set_cons_zero, List.set_cons_succ]
        clear hK K
        refine wpQuiet_step (fun K hK => ?_)
        refine q_idxA (by rfl) (some 41) rfl (.tmp 40) (.const (.int .i64 14)) 89 rfl kb 1 225 15 16 14 ua_sts la_sts ia_sts rfl rfl (by omega) (by omega) (hK _ ?_)
        simp only [Act.put, List.setIfInBounds_toArray, List.set_cons_zero, List.set_cons_succ]
        clear hK K
        refine wpQuiet_step (fun K hK => ?_)
        refine q_loadA (by rfl) (some 42) rfl (.tmp 41) 88 rfl .u8 kr kb 225 rfl LK.out 4 16 86 Tryz.underlying88 i_st KL.out (hK _ ?_)
        simp only [Act.put, List.setIfInBounds_toArray, List.set_cons_zero, List.set_cons_succ]
        clear hK K
        refine wpQuiet_step (fun K hK => ?_)
        refine q_call (by rfl) (some 43) rfl 65 #[.tmp 37, .tmp 42] #[88, 88] rfl (fun q w' => by rfl) #[.agg (ints .u8 s2), .agg (ints .u8 kr)] (by simp only [List.map_toArray, List.map_cons, List.map_nil]; rfl) (.agg (ints .u8 zs)) P4.out (hK _ ?_)
        simp only [Act.put, List.setIfInBounds_toArray, List.set_cons_zero, List.set_cons_succ]
        clear hK K
        refine wpQuiet_nil ?_
        intro f w3 B3
        refine wpAny_ready (rs := [9]) (by kernel_rfl) (by simp) ?_
        refine AllReady.cons rfl (fun K hK => ?_) AllReady.nil
        refine step_callG _ rfl (some 44) rfl 71 #[.tmp 43] #[88] rfl (fun q w' => by rfl) #[.agg (ints .u8 zs)] (by simp only [List.map_toArray, List.map_cons, List.map_nil]; rfl) _ (HLi.out _) fun v4 w4 h4 => hK _ _ ?_
        obtain ⟨g, rfl, A4, L4, B4⟩ := h4
        simp only [Act.put, List.setIfInBounds_toArray, List.set_cons_zero, List.set_cons_succ]
        refine wpAny_ready (rs := [10]) (by kernel_rfl) (by simp) ?_
        refine AllReady.cons rfl (fun K hK => ?_) AllReady.nil
        refine step_movG _ rfl (some 4) rfl (.tmp 44) rfl _ rfl (hK _ _ ?_)
        simp only [Act.put, List.setIfInBounds_toArray, List.set_cons_zero, List.set_cons_succ]
        refine wpAny_ready (rs := [11]) (by kernel_rfl) (by simp) ?_
        refine AllReady.cons rfl (fun K hK => ?_) AllReady.nil
        refine step_movG _ rfl (some 5) rfl _ rfl _ rfl (hK _ _ ?_)
        simp only [Act.put, List.setIfInBounds_toArray, List.set_cons_zero, List.set_cons_succ]
        refine wpAny_done (by kernel_rfl) ?_ _
        have BT := (hB.trans (B3.mono hB.size)).trans (B4.mono (Nat.le_trans hB.size B3.size))
        have LT : w.heap.size ≤ g := Nat.le_trans (Nat.le_trans hB.size B3.size) L4
        go_wp2
        go_ret2
        exact ⟨g, rfl, A4, LT, BT⟩
end Go.Proofs.YtbkaecjkgjkheaaGreatDoor

