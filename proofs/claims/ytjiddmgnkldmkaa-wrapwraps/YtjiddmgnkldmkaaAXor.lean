/- What aes' xored answers. No claim of its own. -/
import Derived.Test.YtjiddmgnkldmkaaAList
namespace Go.Proofs.Ytjiddmgnkldmkaa
open Go.RowKit

/-- the first n bytes are xored -/
def prx (xs ys : List Int) (n : Nat) : List Int := (List.range 16).map fun t => if t < n then xr (gb xs t) (gb ys t) else gb xs t
theorem prx_len (xs ys : List Int) (n : Nat) : (prx xs ys n).length = 16 := by simp [prx]
theorem gb_prx (xs ys : List Int) (n t : Nat) (h : t < 16) : gb (prx xs ys n) t = if t < n then xr (gb xs t) (gb ys t) else gb xs t := range_gb _ _ _ h
theorem prx_zero (xs ys : List Int) (h : xs.length = 16) : prx xs ys 0 = xs := ext_gb (by rw [prx_len, h]) fun t ht => by
  rw [prx_len] at ht
  rw [gb_prx _ _ _ _ ht, if_neg (by omega)]
theorem prx_end (xs ys : List Int) (h : xs.length = 16) (h' : ys.length = 16) : prx xs ys 16 = xorl xs ys := ext_gb (by rw [prx_len, xorl_len _ _ (by omega), h]) fun t ht => by
  rw [prx_len] at ht
  rw [gb_prx _ _ _ _ ht, if_pos ht, xorl_gb _ _ (by omega) _ (by omega)]
theorem prx_set (xs ys : List Int) (n : Nat) : (prx xs ys n).set n (xr (gb xs n) (gb ys n)) = prx xs ys (n + 1) := ext_gb (by simp [prx]) fun t ht => by
  rw [List.length_set, prx_len] at ht
  rw [gb_set _ _ _ _ (by rw [prx_len]; exact ht), gb_prx _ _ _ _ ht, gb_prx _ _ _ _ ht]
  by_cases e : n = t
  · subst e; simp
  · rw [if_neg e]
    by_cases h : t < n
    · rw [if_pos h, if_pos (by omega)]
    · rw [if_neg h, if_neg (by omega)]

set_option linter.unusedSimpArgs false in
set_option maxRecDepth 20000 in
set_option maxHeartbeats 4000000 in
theorem xored_any (xs ys : List Int) (w : World) (hx : Blk xs) (hy : Blk ys) :
    Calls Try.prog 55 #[.agg (ints .u8 xs), .agg (ints .u8 ys)] w fun e w' => e = .returned (.agg (ints .u8 (xorl xs ys))) ∧ Below w.heap.size w w' := by
  have HX : Hid (Blk xs) := hx
  have HY : Hid (Blk ys) := hy
  have HZ : Hid (prx xs ys 0 = xs ∧ prx xs ys 16 = xorl xs ys ∧ (xorl xs ys).length = 16) := ⟨prx_zero xs ys hx.1, prx_end xs ys hx.1 hy.1, (xorl_blk xs ys hx hy).1⟩
  generalize xorl xs ys = zs at *
  clear hx hy
  go_enter Try.func55, Try.ntmps55
  go_wp2_with (first
    | (refine box_lawF _ rfl (.tmp 0) 50 rfl .u8 xs rfl ?_; intro w1 A1 B1 s1; have HA1 : Hid (Ar w1 w.heap.size 0 .u8 xs) := A1; clear A1)
    | (refine box_lawF _ rfl (.tmp 1) 50 rfl .u8 ys rfl ?_; intro w2 A2 B2 s2; have HA2 : Hid (Ar w2 w1.heap.size 0 .u8 ys) := A2; clear A2)
    | (have q2 := s2; refine new_lawF _ rfl 50 rfl .u8 z16 z_st ?_; intro w3 A3 B3 s3; have HA3 : Hid (Ar w3 w2.heap.size 0 .u8 z16) := A3; clear A3)
    | (have q3 := s3; refine load_lawN _ rfl (.tmp 3) 50 rfl .u8 ys w1.heap.size 0 rfl (HA2.out.below B3 s2) 4 16 48 Try.underlying50 i_st HY.out.1 ?_))
  have D1 : Hid (Ar w3 w.heap.size 0 .u8 xs) := (HA1.out.below B2 s1).below B3 (by omega)
  have BW : Below w.heap.size w w3 := (B1.trans (B2.mono (by omega))).trans (B3.mono (by omega))
  have o2 : w2.heap.size < w3.heap.size := s3
  have o1 : w.heap.size < w2.heap.size := by omega
  generalize hg0 : w.heap.size = g0 at *
  generalize w2.heap.size = g2 at *
  generalize w1.heap.size = g1 at *
  go_loopw [10] (fun i wr => ∃ k : Nat, k ≤ 4 ∧ i = .int .i64 k ∧ Ar wr g0 0 .u8 (prx xs ys (4 * k)) ∧ Ar wr g2 0 .u8 z16 ∧ Below g0 w wr ∧ g2 < wr.heap.size) (fun i _ => 4 - (intOf i).toNat)
  case atStart => exact ⟨0, Nat.zero_le _, rfl, by rw [Nat.mul_zero, HZ.out.1]; exact D1.out, HA3.out, BW, o2⟩
  case round =>
    obtain ⟨k, hk, rfl, hA, hR, hB, hS⟩ := hrel
    obtain ⟨wa, rfl⟩ : ∃ wx, wx = wr := ⟨_, rfl⟩
    have k0 : (0 : Int) ≤ (k : Int) := by omega
    have q1 : IntKind.i64.wrap (k : Int) = k := by rw [IntKind.wrap_i64]; omega
    have HA : Hid (Ar wa g0 0 .u8 (prx xs ys (4 * k))) := hA
    have HR : Hid (Ar wa g2 0 .u8 z16) := hR
    have HB : Hid (Below g0 w wa) := hB
    clear hA hR hB
    by_cases hlt : k < 4
    · have k1 : (k : Int) < 4 := by omega
      have CL : Hid ((cut4 ys k).length = 4) := cut4_len ys k (by rw [HY.out.1]; omega)
      have CG : Hid (∀ i, i < 4 → gb (cut4 ys k) i = gb ys (4 * k + i)) := fun i hi => cut4_gb ys k i hi
      obtain ⟨cs, hcs⟩ : ∃ cs, cs = cut4 ys k := ⟨_, rfl⟩
      have HCS : Hid (cs = cut4 ys k) := hcs
      rw [← hcs] at CL CG
      clear hcs
      go_wp2_with (first
        | (refine idx_st _ rfl (.tmp 9) (.tmp 10) rfl ys _ k rfl rfl rfl hlt cs HCS.out ?_)
        | (refine new_lawF _ rfl 48 rfl .u8 z4 z_arr4 ?_; intro w4 A4 B4 s4; have HA4 : Hid (Ar w4 wa.heap.size 0 .u8 z4) := A4; clear A4)
        | (have q4 := s4; refine store_lawF _ rfl (.tmp 6) (.tmp 13) 48 rfl .u8 z4 cs wa.heap.size rfl rfl HA4.out 4 i_arr4 rfl CL.out ?_; intro w5 A5 B5; have HA5 : Hid (Ar w5 wa.heap.size 0 .u8 cs) := A5; clear A5)
        | (refine load_law _ rfl (.tmp 6) 48 rfl .u8 cs wa.heap.size 0 rfl HA5.out 4 5 Try.underlying48 i_arr4 CL.out ?_))
      have B45 : Below wa.heap.size wa w5 := B4.trans (B5.mono (by omega))
      have s5 : wa.heap.size ≤ w5.heap.size := B45.size
      have E1 : Hid (Ar w5 g0 0 .u8 (prx xs ys (4 * k + 0))) := HA.out.below B45 (by omega)
      have E2 : Hid (Ar w5 g2 0 .u8 z16) := HR.out.below B45 hS
      have E3 : Hid (Below g0 w w5) := HB.out.trans (B45.mono (by omega))
      have o5 : g2 < w5.heap.size := by omega
      go_loopw [15] (fun j wr => ∃ m : Nat, m ≤ 4 ∧ j = .int .i64 m ∧ Ar wr g0 0 .u8 (prx xs ys (4 * k + m)) ∧ Ar wr g2 0 .u8 z16 ∧ Below g0 w wr ∧ g2 < wr.heap.size) (fun j _ => 4 - (intOf j).toNat)
      case atStart => exact ⟨0, Nat.zero_le _, rfl, E1.out, E2.out, E3.out, o5⟩
      case round =>
        obtain ⟨m, hm, rfl, hA', hR', hB', hS'⟩ := hrel
        obtain ⟨wb, rfl⟩ : ∃ wx, wx = wr := ⟨_, rfl⟩
        have m0 : (0 : Int) ≤ (m : Int) := by omega
        have q2 : IntKind.i64.wrap (m : Int) = m := by rw [IntKind.wrap_i64]; omega
        clear HA HR HB E1 E2 E3
        by_cases hmt : m < 4
        · have m1 : (m : Int) < 4 := by omega
          have c0 := hA'.cell0 (4 * k + m) (by rw [prx_len]; omega)
          rw [gb_prx _ _ _ _ (by omega), if_neg (by omega), Nat.mul_comm 4 k] at c0
          have bx := HX.out.2 (k * 4 + m)
          have by_ := HY.out.2 (k * 4 + m)
          have hxr := xr_of _ _ bx by_
          have HS2 : Hid ((prx xs ys (4 * k + m)).set (4 * k + m) (xr (gb xs (k * 4 + m)) (gb ys (k * 4 + m))) = prx xs ys (4 * k + (m + 1))) := by
            show _ = _
            rw [Nat.mul_comm k 4]; exact prx_set xs ys (4 * k + m)
          have HG : Hid (gb ys (k * 4 + m) = gb cs m) := by show _ = _; rw [CG.out m hmt, Nat.mul_comm]
          have HA' : Hid (Ar wb g0 0 .u8 (prx xs ys (4 * k + m))) := hA'
          have HR' : Hid (Ar wb g2 0 .u8 z16) := hR'
          have HB' : Hid (Below g0 w wb) := hB'
          clear hA' hR' hB' bx by_
          generalize xr (gb xs (k * 4 + m)) (gb ys (k * 4 + m)) = z at *
          generalize gb xs (k * 4 + m) = x at *
          generalize gb ys (k * 4 + m) = y at *
          go_wp2_with (refine idx4 _ rfl (.tmp 14) (.tmp 15) rfl cs _ m rfl rfl rfl CL.out (by omega) y HG.out ?_)
          refine wp_region_any (by kernel_rfl) ?_
          change wpAny _ _ _ _ _ _ _ (World.drew _)
          refine wpAny_quiet_then (C := fun w' => ∃ n, w' = wb.drewN n) 0 9 1 _ (by kernel_rfl) rfl (by kernel_rfl) (by kernel_rfl) ⟨1, rfl⟩ ?_
          simp only [List.take_succ_cons, List.take_zero, List.drop_zero]
          repeat (quiet_step (fail))
          refine wpQuiet_nil ?_
          rintro f _ ⟨nq, rfl⟩
          have A1 := HA'.out.drewN nq
          have A2 := A1.set0 (4 * k + m) (by rw [prx_len]; omega) z
          rw [HS2.out] at A2
          have B2' : Below g0 w ((wb.drewN nq).setCell ⟨g0, 4 * k + m, none⟩ (.int .u8 z)) := (below_drewN HB'.out nq).setCell (Nat.le_refl _) _
          have R2' : Ar ((wb.drewN nq).setCell ⟨g0, 4 * k + m, none⟩ (.int .u8 z)) g2 0 .u8 z16 := (HR'.out.drewN nq).other (by show g2 ≠ g0; omega) _
          refine wpAny_ready (rs := [9]) (by kernel_rfl) (by simp) ?_
          refine AllReady.cons rfl (fun K hK => ?_) AllReady.nil
          refine step_set _ rfl none rfl (.tmp 27) (.tmp 25) 5 rfl .u8 z g0 (4 * k + m) (by rw [Nat.mul_comm 4 k]; rfl) (by first | rfl | (rw [← hxr]; rfl)) (by rw [A1.cell0 _ (by rw [prx_len]; omega)]; rfl) (A1.free0 _ (by rw [prx_len]; omega)) i_u8 (hK _ _ ?_)
          simp only [Act.put, List.setIfInBounds_toArray, List.set_cons_zero, List.set_cons_succ]
          have HA6 : Hid (Ar ((wb.drewN nq).setCell ⟨g0, 4 * k + m, none⟩ (.int .u8 z)) g0 0 .u8 (prx xs ys (4 * k + (m + 1)))) := A2
          have HB6 : Hid (Below g0 w ((wb.drewN nq).setCell ⟨g0, 4 * k + m, none⟩ (.int .u8 z))) := B2'
          have HR6 : Hid (Ar ((wb.drewN nq).setCell ⟨g0, 4 * k + m, none⟩ (.int .u8 z)) g2 0 .u8 z16) := R2'
          have hS6 : g2 < ((wb.drewN nq).setCell ⟨g0, 4 * k + m, none⟩ (.int .u8 z)).heap.size := R2'.lt (by rw [z16_len]; omega)
          clear A1 A2 B2' R2' c0
          generalize (wb.drewN nq).setCell ⟨g0, 4 * k + m, none⟩ (.int .u8 z) = w6 at *
          refine wpAny_done (by kernel_rfl) ?_ _
          go_wp2
          go_roundw
          case rel => exact ⟨m + 1, by omega, by go_num, HA6.out, HR6.out, HB6.out, hS6⟩
          case measure => simp [intOf]; omega
        · have hm4 : m = 4 := by omega
          subst hm4
          have HA6 : Hid (Ar wb g0 0 .u8 (prx xs ys (4 * (k + 1)))) := by show Ar _ _ _ _ _; rw [show 4 * (k + 1) = 4 * k + 4 by omega]; exact hA'
          have HR6 : Hid (Ar wb g2 0 .u8 z16) := hR'
          have HB6 : Hid (Below g0 w wb) := hB'
          clear hA' hR' hB'
          go_wp2
          go_roundw
          case rel => exact ⟨k + 1, by omega, by go_num, HA6.out, HR6.out, HB6.out, hS'⟩
          case measure => simp [intOf]; omega
    · have hk4 : k = 4 := by omega
      subst hk4
      have HA2 : Hid (Ar wa g0 0 .u8 zs) := by have := HA.out; rw [show 4 * 4 = 16 from rfl, HZ.out.2.1] at this; exact this
      clear HA
      go_wp2_with (first
        | (refine load_lawN _ rfl (.tmp 2) 50 rfl .u8 zs g0 0 rfl HA2.out 4 16 48 Try.underlying50 i_st HZ.out.2.2 ?_)
        | (refine store_lawF _ rfl (.tmp 4) (.tmp 30) 50 rfl .u8 z16 zs g2 rfl rfl HR.out 16 i_st z16_len HZ.out.2.2 ?_; intro w7 A7 B7))
      refine bodyPost_ret (v := .agg (ints .u8 zs)) (results_arN rfl _ _ g2 0 .u8 zs rfl A7 4 16 48 Try.underlying50 i_st HZ.out.2.2) rfl ⟨rfl, ?_⟩
      rw [hg0]
      exact HB.out.trans (B7.mono (by omega))
end Go.Proofs.Ytjiddmgnkldmkaa
