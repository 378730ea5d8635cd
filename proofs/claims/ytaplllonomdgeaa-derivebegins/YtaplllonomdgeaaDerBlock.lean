/- What derive's block and the reference's Block answer. No claim of its own. -/
import Derived.Test.YtaplllonomdgeaaDerList
namespace Go.Proofs.Ytaplllonomdgeaa
open Go.RowKit

set_option maxHeartbeats 4000000 in
theorem dblock_any (w : World) (kv v : Value) (bl ss : List Int) (c i : Nat) (hk : KeyV w kv bl) (hv : Byt w v ss) (hs : ss.length ≤ 1000) (hc : 1 ≤ c) (hc2 : c ≤ 1000) (hi : i ≤ 1000) :
    Calls Try.prog 18 #[kv, v, .int .i64 c, .int .i64 i] w fun e w' => ∃ g cap, e = .returned (.slice (some ⟨g, 0, none⟩) 32 cap) ∧ w.heap.size ≤ g ∧ 32 ≤ cap ∧ cap ≤ 9223372036854775807 ∧ Ar w' g 0 .u8 (dblk bl ss c i) ∧ Below w.heap.size w w' := by
  have HK : Hid (KeyV w kv bl) := hk
  have HV : Hid (Byt w v ss) := hv
  have HSL : Hid (ss.length ≤ 1000) := hs
  have HBE : Hid ((le (i : Int) (clamp 4 8)).reverse = be4 (i : Int) ∧ (be4 (i : Int)).length = 4) := ⟨by rw [show clamp 4 8 = 4 by decide]; rfl, be4_len i⟩
  have HT1 : Hid (∀ w0 v, KeyV w0 kv bl → Bts w0 v [ss, be4 (i : Int)] → Calls Try.prog 23 #[kv, v] w0 fun e w' => ∃ g, e = .returned (.slice (some ⟨g, 0, none⟩) 32 32) ∧ w0.heap.size ≤ g ∧ Ar w' g 0 .u8 (tg bl (u1 bl ss i) 0) ∧ Below w0.heap.size w0 w') := fun w0 v h1 h2 => by
    have e : [ss, be4 (i : Int)].flatten = ss ++ be4 (i : Int) := by simp
    have := ktag_own w0 kv bl v [ss, be4 (i : Int)] h1 h2 (by rw [e]; simp [be4_len]; omega)
    rw [e] at this
    exact this
  have HT2 : Hid (∀ w0 v k, KeyV w0 kv bl → Bts w0 v [tg bl (u1 bl ss i) k] → Calls Try.prog 23 #[kv, v] w0 fun e w' => ∃ g, e = .returned (.slice (some ⟨g, 0, none⟩) 32 32) ∧ w0.heap.size ≤ g ∧ Ar w' g 0 .u8 (tg bl (u1 bl ss i) (k + 1)) ∧ Below w0.heap.size w0 w') := fun w0 v k h1 h2 => by
    have e : [tg bl (u1 bl ss i) k].flatten = tg bl (u1 bl ss i) k := by simp
    have := ktag_own w0 kv bl v _ h1 h2 (by rw [e, tg_len _ _ (u1_len _ _ _)]; omega)
    rw [e] at this
    exact this
  have HTL : Hid (∀ k, (tg bl (u1 bl ss i) k).length = 32 ∧ AllB (tg bl (u1 bl ss i) k)) := fun k => ⟨tg_len _ _ (u1_len _ _ _) k, tg_all _ _ (u1_all _ _ _) k⟩
  have HML : Hid (∀ k, (sm bl (u1 bl ss i) k).length = 32 ∧ AllB (sm bl (u1 bl ss i) k)) := fun k => ⟨sm_len _ _ (u1_len _ _ _) k, sm_all _ _ (u1_len _ _ _) (u1_all _ _ _) k⟩
  have HX : Hid (∀ k j, j < 32 → (xp (sm bl (u1 bl ss i) k) (tg bl (u1 bl ss i) (k + 1)) j).length = 32 ∧ gb (xp (sm bl (u1 bl ss i) k) (tg bl (u1 bl ss i) (k + 1)) j) j = gb (sm bl (u1 bl ss i) k) j ∧ (xp (sm bl (u1 bl ss i) k) (tg bl (u1 bl ss i) (k + 1)) j).set j (xr (gb (sm bl (u1 bl ss i) k) j) (gb (tg bl (u1 bl ss i) (k + 1)) j)) = xp (sm bl (u1 bl ss i) k) (tg bl (u1 bl ss i) (k + 1)) (j + 1)) := fun k j hj => by
    have l1 := (HML.out k).1
    have l2 := (HTL.out (k + 1)).1
    exact ⟨by rw [xp_len _ _ (by omega) j (by omega), l1], xp_gb _ _ (by omega) j (by omega), xp_set _ _ (by omega) j (by omega)⟩
  have HX0 : Hid (∀ k, xp (sm bl (u1 bl ss i) k) (tg bl (u1 bl ss i) (k + 1)) 0 = sm bl (u1 bl ss i) k) := fun k => xp_zero _ _
  have HX1 : Hid (∀ k, xp (sm bl (u1 bl ss i) k) (tg bl (u1 bl ss i) (k + 1)) 32 = sm bl (u1 bl ss i) (k + 1)) := fun k => by
    have := xp_end (sm bl (u1 bl ss i) k) (tg bl (u1 bl ss i) (k + 1)) (by rw [(HML.out k).1, (HTL.out (k + 1)).1])
    rw [(HML.out k).1] at this
    exact this
  have HM0 : Hid (sm bl (u1 bl ss i) 0 = tg bl (u1 bl ss i) 0) := rfl
  have HD : Hid (dblk bl ss c i = sm bl (u1 bl ss i) (c - 1)) := rfl
  generalize tg bl (u1 bl ss i) = TG at *
  generalize sm bl (u1 bl ss i) = SM at *
  generalize dblk bl ss c i = D at *
  obtain ⟨X, hX⟩ : ∃ X : Nat → Nat → List Int, X = fun k j => xp (SM k) (TG (k + 1)) j := ⟨_, rfl⟩
  have HX' : Hid (∀ k j, j < 32 → (X k j).length = 32 ∧ gb (X k j) j = gb (SM k) j ∧ (X k j).set j (xr (gb (SM k) j) (gb (TG (k + 1)) j)) = X k (j + 1)) := by rw [hX]; exact HX.out
  have HX0' : Hid (∀ k, X k 0 = SM k) := by rw [hX]; exact HX0.out
  have HX1' : Hid (∀ k, X k 32 = SM (k + 1)) := by rw [hX]; exact HX1.out
  clear hX HX HX0 HX1
  generalize be4 (i : Int) = b4 at *
  obtain ⟨vo, vc, rfl, hv1, hv2, -, -, -⟩ := hv
  obtain ⟨n, hn⟩ : ∃ n, n = ss.length := ⟨_, rfl⟩
  rw [← hn] at hv1 HV ⊢
  obtain ⟨m, hm⟩ : ∃ m, m = c - 1 := ⟨_, rfl⟩
  rw [← hm] at HD
  have m1 : (c : Int) - 1 = (m : Int) := by omega
  have m2 : (m : Int) ≤ 1000 := by omega
  have i1 : IntKind.u64.wrap (i : Int) = i := by rw [IntKind.wrap_u64]; omega
  have HI : Hid (0 ≤ (i : Int) ∧ (i : Int) ≤ 18446744073709551615) := ⟨by omega, by omega⟩
  have c1 : (c : Int) ≤ 1000 := by omega
  have c0 : (1 : Int) ≤ (c : Int) := by omega
  clear hn hm hk hs
  go_enter Try.func18, Try.ntmps18
  go_wp2_with (first
    | (go_at_call 25; refine (clone_any _ _ _ _ _ (ar32_byt HA3.out (HTL.out 0).2 (HTL.out 0).1 32 (by omega) (by omega)) (by rw [(HTL.out 0).1]; omega)).mono ?_; rintro e w4 ⟨v4, rfl, O4, b4'⟩; obtain ⟨gs, cap, hv4, hgs, hcap, hcap2, hA4⟩ := O4.ar (by rw [(HTL.out 0).1]; omega); subst hv4; rw [← HM0.out] at hA4; have HA4 : Hid (Ar w4 gs 0 .u8 (SM 0)) := hA4; have HA34 : Hid (Ar w4 g3 0 .u8 (TG 0)) := HA3.out.below b4' l3; have C4 : Below w.heap.size w w4 := C3.trans (b4'.mono C3.size); rw [(HTL.out 0).1] at hcap ⊢; clear hA4 O4)
    | (go_at_call 23; refine (HT1.out _ _ HK2.out HB2.out).mono ?_; rintro e w3 ⟨g3, rfl, hg3, hA3, b3⟩; have HA3 : Hid (Ar w3 g3 0 .u8 (TG 0)) := hA3; have l3 : g3 < w3.heap.size := hA3.lt (by rw [(HTL.out 0).1]; omega); have C3 : Below w.heap.size w w3 := C2.trans (b3.mono C2.size); clear hA3)
    | (refine two_law _ rfl (.tmp 13) (.tmp 16) rfl _ _ _ _ _ _ ss b4 rfl rfl HV1.out HW1.out (by have := HSL.out; omega) (by rw [HBE.out.2]; omega) ?_; intro w2 B2 b2; have HB2 : Hid (Bts w2 (.slice (some ⟨w1.heap.size, 0, none⟩) 2 2) [ss, b4]) := B2; have C2 : Below w.heap.size w w2 := b1.trans (b2.mono b1.size); have HK2 : Hid (KeyV w2 kv bl) := HK.out.below C2; clear B2)
    | (go_at_call 24; refine (big_any (i : Int) 4 _ HI.out).mono ?_; rintro e w1 ⟨v1, rfl, hv1', b1⟩; rw [HBE.out.1] at hv1'; have HW1 : Hid (Byt w1 v1 b4) := hv1'; have HV1 : Hid (Byt w1 (.slice vo n vc) ss) := HV.out.below b1; obtain ⟨wo, wc, hw1, hw2, hw3, -, -, -⟩ := hv1'; subst hw1))
  go_loopw [9, 23] (fun t i wr => ∃ k g : Nat, k ≤ m ∧ i = .int .i64 k ∧ t = .slice (some ⟨g, 0, none⟩) 32 32 ∧ g ≠ gs ∧ Ar wr g 0 .u8 (TG k) ∧ Ar wr gs 0 .u8 (SM k) ∧ Below w.heap.size w wr) (fun _ i _ => m - (intOf i).toNat)
  case atStart => exact ⟨0, g3, Nat.zero_le _, rfl, rfl, by omega, HA34.out, HA4.out, C4⟩
  case round =>
    obtain ⟨k, g, hk, rfl, rfl, hne, hAg, hAs, hbel⟩ := hrel
    obtain ⟨wa, rfl⟩ : ∃ wx, wx = wr := ⟨_, rfl⟩
    have k0 : (0 : Int) ≤ (k : Int) := by omega
    have q1 : IntKind.i64.wrap (k : Int) = k := by rw [IntKind.wrap_i64]; omega
    have q2 : IntKind.i64.wrap (m : Int) = m := by rw [IntKind.wrap_i64]; omega
    have HAS : Hid (Ar wa gs 0 .u8 (SM k)) := hAs
    have HAG : Hid (Ar wa g 0 .u8 (TG k)) := hAg
    have hsz := hbel.size
    have lgs : gs < wa.heap.size := hAs.lt (by rw [(HML.out k).1]; omega)
    have ggs : w.heap.size ≤ gs := Nat.le_trans C3.size hgs
    clear hAs hAg HA34 HA4 HA3
    by_cases hlt : k < m
    · have k1 : (k : Int) < (m : Int) := by omega
      have HBT : Hid (Byt wa (.slice (some ⟨g, 0, none⟩) 32 32) (TG k)) := ar32_byt HAG.out (HTL.out k).2 (HTL.out k).1 32 (by omega) (by omega)
      go_wp2_with (first
        | (go_at_call 23; refine (HT2.out _ _ k HK5.out HB5.out).mono ?_; rintro e w6 ⟨g6, rfl, hg6, hA6, b6⟩; have HA6 : Hid (Ar w6 g6 0 .u8 (TG (k + 1))) := hA6; have HS6 : Hid (Ar w6 gs 0 .u8 (SM k)) := HAS.out.below (b5.trans (b6.mono b5.size)) lgs; have C6 : Below w.heap.size w w6 := C5.trans (b6.mono C5.size); have n6 : g6 ≠ gs := (by have := b5.size; omega); clear hA6)
        | (refine one_law _ rfl (.tmp 26) rfl _ _ _ (TG k) rfl HBT.out (by rw [(HTL.out k).1]; omega) ?_; intro w5 B5 b5; have HB5 : Hid (Bts w5 (.slice (some ⟨wa.heap.size, 0, none⟩) 1 1) [TG k]) := B5; have C5 : Below w.heap.size w w5 := hbel.trans (b5.mono hsz); have HK5 : Hid (KeyV w5 kv bl) := HK.out.below C5; clear B5))
      go_loopw [29] (fun i wr => ∃ j : Nat, j ≤ 32 ∧ i = .int .i64 j ∧ Ar wr gs 0 .u8 (X k j) ∧ Ar wr g6 0 .u8 (TG (k + 1)) ∧ Below w.heap.size w wr) (fun i _ => 32 - (intOf i).toNat)
      case atStart => exact ⟨0, Nat.zero_le _, rfl, by rw [HX0'.out]; exact HS6.out, HA6.out, C6⟩
      case round =>
        obtain ⟨j, hj, rfl, hAs, hAg, hbel2⟩ := hrel
        have j0 : (0 : Int) ≤ (j : Int) := by omega
        have q3 : IntKind.i64.wrap (j : Int) = j := by rw [IntKind.wrap_i64]; omega
        by_cases hj2 : j < 32
        · have j1 : (j : Int) < 32 := by omega
          obtain ⟨hx1, hx2, hx3⟩ := HX'.out k j hj2
          have d1 := hAs.cell0 j (by omega)
          have d2 := hAs.free0 j (by omega)
          have d3 := hAg.cell0 j (by rw [(HTL.out (k + 1)).1]; omega)
          rw [hx2] at d1
          have hx : bits .xor .u8 (gb (SM k) j) (gb (TG (k + 1)) j) = xr (gb (SM k) j) (gb (TG (k + 1)) j) := xr_of _ _ ((HML.out k).2 j) ((HTL.out (k + 1)).2 j)
          have A2 := hAs.set0 j (by omega) (xr (gb (SM k) j) (gb (TG (k + 1)) j))
          rw [hx3] at A2
          have A3 : Ar (wr.setCell ⟨gs, j, none⟩ (.int .u8 (xr (gb (SM k) j) (gb (TG (k + 1)) j)))) g6 0 .u8 (TG (k + 1)) := hAg.other (by show g6 ≠ gs; exact n6) _
          have HA2 : Hid (Ar (wr.setCell ⟨gs, j, none⟩ (.int .u8 (xr (gb (SM k) j) (gb (TG (k + 1)) j)))) gs 0 .u8 (X k (j + 1))) := A2
          have HA3 : Hid (Ar (wr.setCell ⟨gs, j, none⟩ (.int .u8 (xr (gb (SM k) j) (gb (TG (k + 1)) j)))) g6 0 .u8 (TG (k + 1))) := A3
          generalize gb (SM k) j = y at *
          generalize gb (TG (k + 1)) j = z at *
          clear A2 A3 hAs hAg hx1 hx2 hx3
          go_wp2
          go_region
          all_goals go_wp2
          all_goals
            go_roundw
            case rel => exact ⟨j + 1, by omega, by go_num, (HA2.out).drewN 1, (HA3.out).drewN 1, (hbel2.setCell ggs _).drew⟩
            case measure => simp [intOf]; omega
        · have hj3 : j = 32 := by omega
          subst hj3
          rw [HX1'.out] at hAs
          have HS7 : Hid (Ar wr gs 0 .u8 (SM (k + 1))) := hAs
          have HG7 : Hid (Ar wr g6 0 .u8 (TG (k + 1))) := hAg
          clear hAs hAg
          go_wp2
          go_roundw
          case rel => exact ⟨k + 1, g6, by omega, by go_num, rfl, n6, HG7.out, HS7.out, hbel2⟩
          case measure => simp [intOf]; omega
    · have hkm : k = m := by omega
      subst hkm
      rw [← HD.out] at HAS
      go_wp2
      go_ret
      exact ⟨gs, cap, rfl, ggs, hcap, hcap2, HAS.out, hbel⟩

set_option maxHeartbeats 4000000 in
theorem rdblock_any (w : World) (v u : Value) (xs ss : List Int) (c i : Nat) (hv : Byt w v xs) (hu : Byt w u ss) (hx : xs.length ≤ 1000) (hs : ss.length ≤ 1000) (hc : 1 ≤ c) (hc2 : c ≤ 1000) (hi : i ≤ 1000) :
    Calls Try.prog 14 #[v, u, .int .i64 c, .int .i64 i] w fun e w' => ∃ v', e = .returned v' ∧ Byt w' v' (dblk (blk xs) ss c i) ∧ Below w.heap.size w w' := by
  have HV : Hid (Byt w v xs) := hv
  have HU : Hid (Byt w u ss) := hu
  have HXL : Hid (xs.length ≤ 1000) := hx
  have HSL : Hid (ss.length ≤ 1000) := hs
  have HSA : Hid (AllB ss) := hu.all
  have HBE : Hid ((le (i : Int) (clamp 4 8)).reverse = be4 (i : Int) ∧ (be4 (i : Int)).length = 4 ∧ AllB (be4 (i : Int))) := ⟨by rw [show clamp 4 8 = 4 by decide]; rfl, be4_len i, be4_all i⟩
  have HT1 : Hid (∀ w0 t, Byt w0 v xs → Byt w0 t (ss ++ be4 (i : Int)) → Calls Try.prog 19 #[v, t] w0 fun e w' => ∃ v', e = .returned v' ∧ Byt w' v' (tg (blk xs) (u1 (blk xs) ss i) 0) ∧ Below w0.heap.size w0 w') := fun w0 t h1 h2 => rtag_any w0 v t xs _ h1 h2 (by omega) (by simp [be4_len]; omega)
  have HT2 : Hid (∀ w0 t k, Byt w0 v xs → Byt w0 t (tg (blk xs) (u1 (blk xs) ss i) k) → Calls Try.prog 19 #[v, t] w0 fun e w' => ∃ v', e = .returned v' ∧ Byt w' v' (tg (blk xs) (u1 (blk xs) ss i) (k + 1)) ∧ Below w0.heap.size w0 w') := fun w0 t k h1 h2 => rtag_any w0 v t xs _ h1 h2 (by omega) (by rw [tg_len _ _ (u1_len _ _ _)]; omega)
  have HXO : Hid (∀ w0 a b k, Byt w0 a (sm (blk xs) (u1 (blk xs) ss i) k) → Byt w0 b (tg (blk xs) (u1 (blk xs) ss i) (k + 1)) → Calls Try.prog 21 #[a, b] w0 fun e w' => ∃ v', e = .returned v' ∧ Byt w' v' (sm (blk xs) (u1 (blk xs) ss i) (k + 1)) ∧ Below w0.heap.size w0 w') := fun w0 a b k h1 h2 => rxor_any a b _ _ w0 h1 h2 (by rw [sm_len _ _ (u1_len _ _ _), tg_len _ _ (u1_len _ _ _)]) (by rw [sm_len _ _ (u1_len _ _ _)]; omega)
  have HM0 : Hid (sm (blk xs) (u1 (blk xs) ss i) 0 = tg (blk xs) (u1 (blk xs) ss i) 0) := rfl
  have HD : Hid (dblk (blk xs) ss c i = sm (blk xs) (u1 (blk xs) ss i) (c - 1)) := rfl
  generalize tg (blk xs) (u1 (blk xs) ss i) = TG at *
  generalize sm (blk xs) (u1 (blk xs) ss i) = SM at *
  generalize dblk (blk xs) ss c i = D at *
  generalize be4 (i : Int) = b4 at *
  obtain ⟨m, hm⟩ : ∃ m, m = c - 1 := ⟨_, rfl⟩
  rw [← hm] at HD
  have m1 : (c : Int) = (m : Int) + 1 := by omega
  have m2 : (m : Int) ≤ 1000 := by omega
  have i1 : IntKind.u64.wrap (i : Int) = i := by rw [IntKind.wrap_u64]; omega
  have HI : Hid (0 ≤ (i : Int) ∧ (i : Int) ≤ 18446744073709551615) := ⟨by omega, by omega⟩
  have B0 : Below w.heap.size w (w.alloc (.cells #[] 5)) := (Below.refl _ _).alloc (Nat.le_refl _) _
  have HO0 : Hid (Own w.heap.size (w.alloc (.cells #[] 5)) (.slice (some ⟨w.heap.size, 0, none⟩) 0 0) []) := Own.empty w (Nat.le_refl _)
  have HU0 : Hid (Byt (w.alloc (.cells #[] 5)) u ss) := HU.out.below B0
  have z0 : w.heap.size ≤ (w.alloc (.cells #[] 5)).heap.size := B0.size
  rw [m1]
  clear hm hv hu hx hs m1
  go_enter Try.func14, Try.ntmps14
  go_wp2_with (first
    | (go_at_call 19; refine (HT1.out _ _ HV3.out HB3.out).mono ?_; rintro e w4 ⟨v4, rfl, hv4, b4'⟩; have HV4 : Hid (Byt w4 v4 (TG 0)) := hv4; have HM4 : Hid (Byt w4 v4 (SM 0)) := by { rw [HM0.out]; exact hv4 }; have C4 : Below w.heap.size w w4 := C3.trans (b4'.mono C3.size); clear hv4)
    | (refine pushs_law _ rfl (.tmp 15) (.tmp 18) rfl w.heap.size C2.size _ _ ss b4 rfl rfl HO2.out HB2.out (by have := HSL.out; omega) (by rw [HBE.out.2.1]; omega) ?_; intro v3 w3 O3 b3; have HB3 : Hid (Byt w3 v3 (ss ++ b4)) := O3.byt (allB_append HSA.out HBE.out.2.2); have C3 : Below w.heap.size w w3 := C2.trans b3; have HV3 : Hid (Byt w3 v xs) := HV.out.below C3; clear O3)
    | (go_at_call 20; refine (rbig_any (i : Int) 4 _ HI.out).mono ?_; rintro e w2 ⟨v2, rfl, hv2, b2⟩; rw [HBE.out.1] at hv2; have HB2 : Hid (Byt w2 v2 b4) := hv2; have HO2 : Hid (Own w.heap.size w2 v1 ss) := ownsRow_below HO1.out b2; have C2 : Below w.heap.size w w2 := C1.trans (b2.mono C1.size); clear hv2)
    | (refine pushs_law _ rfl (.tmp 13) (.tmp 14) rfl w.heap.size z0 _ _ [] ss rfl rfl HO0.out HU0.out (by simp) (by have := HSL.out; omega) ?_; intro v1 w1 O1 b1; rw [List.nil_append] at O1; have HO1 : Hid (Own w.heap.size w1 v1 ss) := O1; have C1 : Below w.heap.size w w1 := B0.trans b1; clear O1))
  go_loopw [9, 10, 11] (fun t s i wr => ∃ k : Nat, k ≤ m ∧ i = .int .i64 ((k : Int) + 1) ∧ Byt wr t (TG k) ∧ Byt wr s (SM k) ∧ Below w.heap.size w wr) (fun _ _ i _ => m + 1 - (intOf i).toNat)
  case atStart => exact ⟨0, Nat.zero_le _, rfl, HV4.out, HM4.out, C4⟩
  case round =>
    obtain ⟨k, hk, rfl, hT, hS, hbel⟩ := hrel
    have k0 : (0 : Int) ≤ (k : Int) := by omega
    have q1 : IntKind.i64.wrap (k : Int) = k := by rw [IntKind.wrap_i64]; omega
    have HT : Hid (Byt wr u9 (TG k)) := hT
    have HS : Hid (Byt wr u10 (SM k)) := hS
    have HVr : Hid (Byt wr v xs) := HV.out.below hbel
    have hsz := hbel.size
    clear hT hS
    by_cases hlt : k < m
    · have k1 : (k : Int) < (m : Int) := by omega
      go_wp2_with (first
        | (go_at_call 21; refine (HXO.out _ _ _ k HS5.out HT5.out).mono ?_; rintro e w6 ⟨v6, rfl, hv6, b6⟩; have HS6 : Hid (Byt w6 v6 (SM (k + 1))) := hv6; have HT6 : Hid (Byt w6 v5 (TG (k + 1))) := HT5.out.below b6; have C6 : Below w.heap.size w w6 := C5.trans (b6.mono C5.size); clear hv6)
        | (go_at_call 19; refine (HT2.out _ _ k HVr.out HT.out).mono ?_; rintro e w5 ⟨v5, rfl, hv5, b5⟩; have HT5 : Hid (Byt w5 v5 (TG (k + 1))) := hv5; have HS5 : Hid (Byt w5 u10 (SM k)) := HS.out.below b5; have C5 : Below w.heap.size w w5 := hbel.trans (b5.mono hsz); clear hv5))
      go_roundw
      case rel => exact ⟨k + 1, by omega, by go_num, HT6.out, HS6.out, C6⟩
      case measure => simp [intOf]; omega
    · have hkm : k = m := by omega
      subst hkm
      rw [← HD.out] at HS
      go_wp2
      go_ret
      exact ⟨_, rfl, HS.out, hbel⟩
end Go.Proofs.Ytaplllonomdgeaa
