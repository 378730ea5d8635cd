/- Texts put together (a claim holds few files). No claim of its own. -/
import Derived.Test.YtmbfccclghnaeaaDoorPackQ
import Derived.Test.YtmbfccclghnaeaaDoorPackI
import Derived.Test.YtmbfccclghnaeaaDoorPackP
import Derived.Lib.SlBytesConst
/- What derive's block and the reference's Block answer. No claim of its own. -/
namespace Go.Proofs.YtmbfccclghnaeaaDoor.mc
open Go.RowKit
set_option maxRecDepth 20000

set_option maxHeartbeats 4000000 in
theorem dblock_any (w : World) (kv v : Value) (bl ss : List Int) (c i : Nat) (hk : KeyV w kv bl) (hv : Byt w v ss) (hs : ss.length ≤ 1000) (hc : 1 ≤ c) (hc2 : c ≤ 1000) (hi : i ≤ 1000) :
    Calls Tryd.prog 65 #[kv, v, .int .i64 c, .int .i64 i] w fun e w' => ∃ g cap, e = .returned (.slice (some ⟨g, 0, none⟩) 32 cap) ∧ w.heap.size ≤ g ∧ 32 ≤ cap ∧ cap ≤ 9223372036854775807 ∧ Ar w' g 0 .u8 (dblk bl ss c i) ∧ Below w.heap.size w w' := by
  have HK : Hid (KeyV w kv bl) := hk
  have HV : Hid (Byt w v ss) := hv
  have HSL : Hid (ss.length ≤ 1000) := hs
  have HBE : Hid ((le (i : Int) (clamp 4 8)).reverse = be4 (i : Int) ∧ (be4 (i : Int)).length = 4) := ⟨by rw [show clamp 4 8 = 4 by decide]; rfl, be4_len i⟩
  have HT1 : Hid (∀ w0 v, KeyV w0 kv bl → Bts w0 v [ss, be4 (i : Int)] → Calls Tryd.prog 53 #[kv, v] w0 fun e w' => ∃ g, e = .returned (.slice (some ⟨g, 0, none⟩) 32 32) ∧ w0.heap.size ≤ g ∧ Ar w' g 0 .u8 (tg bl (u1 bl ss i) 0) ∧ Below w0.heap.size w0 w') := fun w0 v h1 h2 => by
    have e : [ss, be4 (i : Int)].flatten = ss ++ be4 (i : Int) := by simp
    have := ktag_own w0 kv bl v [ss, be4 (i : Int)] h1 h2 (by rw [e]; simp [be4_len]; omega)
    rw [e] at this
    exact this
  have HT2 : Hid (∀ w0 v k, KeyV w0 kv bl → Bts w0 v [tg bl (u1 bl ss i) k] → Calls Tryd.prog 53 #[kv, v] w0 fun e w' => ∃ g, e = .returned (.slice (some ⟨g, 0, none⟩) 32 32) ∧ w0.heap.size ≤ g ∧ Ar w' g 0 .u8 (tg bl (u1 bl ss i) (k + 1)) ∧ Below w0.heap.size w0 w') := fun w0 v k h1 h2 => by
    have e : [tg bl (u1 bl ss i) k].flatten = tg bl (u1 bl ss i) k := by simp
    have := ktag_own w0 kv bl v _ h1 h2 (by rw [e, tg_len _ _ (u1_len _ _ _)]; omega)
    rw [e] at this
    exact this
  have HTL : Hid (∀ k, (tg bl (u1 bl ss i) k).length = 32 ∧ AllB (tg bl (u1 bl ss i) k)) := fun k => ⟨tg_len _ _ (u1_len _ _ _) k, tg_all _ _ (u1_all _ _ _) k⟩
  have HML : Hid (∀ k, (sm bl (u1 bl ss i) k).length = 32 ∧ AllB (sm bl (u1 bl ss i) k)) := fun k => ⟨sm_len _ _ (u1_len _ _ _) k, sm_all _ _ (u1_len _ _ _) (u1_all _ _ _) k⟩
  have HX : Hid (∀ k j, j < 32 → (xp (sm bl (u1 bl ss i) k) (tg bl (u1 bl ss i) (k + 1)) j).length = 32 ∧ gb (xp (sm bl (u1 bl ss i) k) (tg bl (u1 bl ss i) (k + 1)) j) j = gb (sm bl (u1 bl ss i) k) j ∧ (xp (sm bl (u1 bl ss i) k) (tg bl (u1 bl ss i) (k + 1)) j).set j (xr (gb (sm bl (u1 bl ss i) k) j) (gb (tg bl (u1 bl ss i) (k + 1)) j)) = xp (sm bl (u1 bl ss i) k) (tg bl (u1 bl ss i) (k + 1)) (j + 1)) := fun k j hj => by
    have l1 := (HML.out k).1
    have l2 := (HTL.out (k + 1)).1
    exact ⟨by rw [xp_len _ _ (by omega) j (by omega), l1], xp_gb _ _ (by omega) j (by omega), xp_set _ _ (by omega) j (by omega)⟩
  have HX0 : Hid (∀ k, xp (sm bl (u1 bl ss i) k) (tg bl (u1 bl ss i) (k + 1)) 0 = sm bl (u1 bl ss i) k) := fun k => xp_zero _ _
  have HX1 : Hid (∀ k, xp (sm bl (u1 bl ss i) k) (tg bl (u1 bl ss i) (k + 1)) 32 = sm bl (u1 bl ss i) (k + 1)) := fun k => by
    have := xp_end (sm bl (u1 bl ss i) k) (tg bl (u1 bl ss i) (k + 1)) (by rw [(HML.out k).1, (HTL.out (k + 1)).1])
    rw [(HML.out k).1] at this
    exact this
  have HM0 : Hid (sm bl (u1 bl ss i) 0 = tg bl (u1 bl ss i) 0) := rfl
  have HD : Hid (dblk bl ss c i = sm bl (u1 bl ss i) (c - 1)) := rfl
  generalize tg bl (u1 bl ss i) = TG at *
  generalize sm bl (u1 bl ss i) = SM at *
  generalize dblk bl ss c i = D at *
  obtain ⟨X, hX⟩ : ∃ X : Nat → Nat → List Int, X = fun k j => xp (SM k) (TG (k + 1)) j := ⟨_, rfl⟩
  have HX' : Hid (∀ k j, j < 32 → (X k j).length = 32 ∧ gb (X k j) j = gb (SM k) j ∧ (X k j).set j (xr (gb (SM k) j) (gb (TG (k + 1)) j)) = X k (j + 1)) := by rw [hX]; exact HX.out
  have HX0' : Hid (∀ k, X k 0 = SM k) := by rw [hX]; exact HX0.out
  have HX1' : Hid (∀ k, X k 32 = SM (k + 1)) := by rw [hX]; exact HX1.out
  clear hX HX HX0 HX1
  generalize be4 (i : Int) = b4 at *
  obtain ⟨vo, vc, rfl, hv1, hv2, -, -, -⟩ := hv
  obtain ⟨n, hn⟩ : ∃ n, n = ss.length := ⟨_, rfl⟩
  rw [← hn] at hv1 HV ⊢
  obtain ⟨m, hm⟩ : ∃ m, m = c - 1 := ⟨_, rfl⟩
  rw [← hm] at HD
  have m1 : (c : Int) - 1 = (m : Int) := by omega
  have m2 : (m : Int) ≤ 1000 := by omega
  have i1 : IntKind.u64.wrap (i : Int) = i := by rw [IntKind.wrap_u64]; omega
  have HI : Hid (0 ≤ (i : Int) ∧ (i : Int) ≤ 18446744073709551615) := ⟨by omega, by omega⟩
  have c1 : (c : Int) ≤ 1000 := by omega
  have c0 : (1 : Int) ≤ (c : Int) := by omega
  clear hn hm hk hs
  go_enter Tryd.func65, Tryd.ntmps65
  go_wp2_with (first
    | (go_at_call 74; refine (clone_any _ _ _ _ _ (ar32_byt HA3.out (HTL.out 0).2 (HTL.out 0).1 32 (by omega) (by omega)) (by rw [(HTL.out 0).1]; omega)).mono ?_; rintro e w4 ⟨v4, rfl, O4, b4'⟩; obtain ⟨gs, cap, hv4, hgs, hcap, hcap2, hA4⟩ := O4.ar (by rw [(HTL.out 0).1]; omega); subst hv4; rw [← HM0.out] at hA4; have HA4 : Hid (Ar w4 gs 0 .u8 (SM 0)) := hA4; have HA34 : Hid (Ar w4 g3 0 .u8 (TG 0)) := HA3.out.below b4' l3; have C4 : Below w.heap.size w w4 := C3.trans (b4'.mono C3.size); rw [(HTL.out 0).1] at hcap ⊢; clear hA4 O4)
    | (go_at_call 53; refine (HT1.out _ _ HK2.out HB2.out).mono ?_; rintro e w3 ⟨g3, rfl, hg3, hA3, b3⟩; have HA3 : Hid (Ar w3 g3 0 .u8 (TG 0)) := hA3; have l3 : g3 < w3.heap.size := hA3.lt (by rw [(HTL.out 0).1]; omega); have C3 : Below w.heap.size w w3 := C2.trans (b3.mono C2.size); clear hA3)
    | (refine two_law _ rfl (.tmp 13) (.tmp 16) rfl _ _ _ _ _ _ ss b4 rfl rfl HV1.out HW1.out (by have := HSL.out; omega) (by rw [HBE.out.2]; omega) ?_; intro w2 B2 b2; have HB2 : Hid (Bts w2 (.slice (some ⟨w1.heap.size, 0, none⟩) 2 2) [ss, b4]) := B2; have C2 : Below w.heap.size w w2 := b1.trans (b2.mono b1.size); have HK2 : Hid (KeyV w2 kv bl) := HK.out.below C2; clear B2)
    | (go_at_call 49; refine (big_any (i : Int) 4 _ HI.out).mono ?_; rintro e w1 ⟨v1, rfl, hv1', b1⟩; rw [HBE.out.1] at hv1'; have HW1 : Hid (Byt w1 v1 b4) := hv1'; have HV1 : Hid (Byt w1 (.slice vo n vc) ss) := HV.out.below b1; obtain ⟨wo, wc, hw1, hw2, hw3, -, -, -⟩ := hv1'; subst hw1))
  go_loopw [9, 23] (fun t i wr => ∃ k g : Nat, k ≤ m ∧ i = .int .i64 k ∧ t = .slice (some ⟨g, 0, none⟩) 32 32 ∧ g ≠ gs ∧ Ar wr g 0 .u8 (TG k) ∧ Ar wr gs 0 .u8 (SM k) ∧ Below w.heap.size w wr) (fun _ i _ => m - (intOf i).toNat)
  case atStart => exact ⟨0, g3, Nat.zero_le _, rfl, rfl, by omega, HA34.out, HA4.out, C4⟩
  case round =>
    obtain ⟨k, g, hk, rfl, rfl, hne, hAg, hAs, hbel⟩ := hrel
    obtain ⟨wa, rfl⟩ : ∃ wx, wx = wr := ⟨_, rfl⟩
    have k0 : (0 : Int) ≤ (k : Int) := by omega
    have q1 : IntKind.i64.wrap (k : Int) = k := by rw [IntKind.wrap_i64]; omega
    have q2 : IntKind.i64.wrap (m : Int) = m := by rw [IntKind.wrap_i64]; omega
    have HAS : Hid (Ar wa gs 0 .u8 (SM k)) := hAs
    have HAG : Hid (Ar wa g 0 .u8 (TG k)) := hAg
    have hsz := hbel.size
    have lgs : gs < wa.heap.size := hAs.lt (by rw [(HML.out k).1]; omega)
    have ggs : w.heap.size ≤ gs := Nat.le_trans C3.size hgs
    clear hAs hAg HA34 HA4 HA3
    by_cases hlt : k < m
    · have k1 : (k : Int) < (m : Int) := by omega
      have HBT : Hid (Byt wa (.slice (some ⟨g, 0, none⟩) 32 32) (TG k)) := ar32_byt HAG.out (HTL.out k).2 (HTL.out k).1 32 (by omega) (by omega)
      go_wp2_with (first
        | (go_at_call 53; refine (HT2.out _ _ k HK5.out HB5.out).mono ?_; rintro e w6 ⟨g6, rfl, hg6, hA6, b6⟩; have HA6 : Hid (Ar w6 g6 0 .u8 (TG (k + 1))) := hA6; have HS6 : Hid (Ar w6 gs 0 .u8 (SM k)) := HAS.out.below (b5.trans (b6.mono b5.size)) lgs; have C6 : Below w.heap.size w w6 := C5.trans (b6.mono C5.size); have n6 : g6 ≠ gs := (by have := b5.size; omega); clear hA6)
        | (refine one_law _ rfl (.tmp 26) rfl _ _ _ (TG k) rfl HBT.out (by rw [(HTL.out k).1]; omega) ?_; intro w5 B5 b5; have HB5 : Hid (Bts w5 (.slice (some ⟨wa.heap.size, 0, none⟩) 1 1) [TG k]) := B5; have C5 : Below w.heap.size w w5 := hbel.trans (b5.mono hsz); have HK5 : Hid (KeyV w5 kv bl) := HK.out.below C5; clear B5))
      go_loopw [29] (fun i wr => ∃ j : Nat, j ≤ 32 ∧ i = .int .i64 j ∧ Ar wr gs 0 .u8 (X k j) ∧ Ar wr g6 0 .u8 (TG (k + 1)) ∧ Below w.heap.size w wr) (fun i _ => 32 - (intOf i).toNat)
      case atStart => exact ⟨0, Nat.zero_le _, rfl, by rw [HX0'.out]; exact HS6.out, HA6.out, C6⟩
      case round =>
        obtain ⟨j, hj, rfl, hAs, hAg, hbel2⟩ := hrel
        have j0 : (0 : Int) ≤ (j : Int) := by omega
        have q3 : IntKind.i64.wrap (j : Int) = j := by rw [IntKind.wrap_i64]; omega
        by_cases hj2 : j < 32
        · have j1 : (j : Int) < 32 := by omega
          obtain ⟨hx1, hx2, hx3⟩ := HX'.out k j hj2
          have d1 := hAs.cell0 j (by omega)
          have d2 := hAs.free0 j (by omega)
          have d3 := hAg.cell0 j (by rw [(HTL.out (k + 1)).1]; omega)
          rw [hx2] at d1
          have hx : bits .xor .u8 (gb (SM k) j) (gb (TG (k + 1)) j) = xr (gb (SM k) j) (gb (TG (k + 1)) j) := xr_of _ _ ((HML.out k).2 j) ((HTL.out (k + 1)).2 j)
          have A2 := hAs.set0 j (by omega) (xr (gb (SM k) j) (gb (TG (k + 1)) j))
          rw [hx3] at A2
          have A3 : Ar (wr.setCell ⟨gs, j, none⟩ (.int .u8 (xr (gb (SM k) j) (gb (TG (k + 1)) j)))) g6 0 .u8 (TG (k + 1)) := hAg.other (by show g6 ≠ gs; exact n6) _
          have HA2 : Hid (Ar (wr.setCell ⟨gs, j, none⟩ (.int .u8 (xr (gb (SM k) j) (gb (TG (k + 1)) j)))) gs 0 .u8 (X k (j + 1))) := A2
          have HA3 : Hid (Ar (wr.setCell ⟨gs, j, none⟩ (.int .u8 (xr (gb (SM k) j) (gb (TG (k + 1)) j)))) g6 0 .u8 (TG (k + 1))) := A3
          generalize gb (SM k) j = y at *
          generalize gb (TG (k + 1)) j = z at *
          clear A2 A3 hAs hAg hx1 hx2 hx3
          go_wp2
          go_region
          all_goals go_wp2
          all_goals
            go_roundw
            case rel => exact ⟨j + 1, by omega, by go_num, (HA2.out).drewN 1, (HA3.out).drewN 1, (hbel2.setCell ggs _).drew⟩
            case measure => simp [intOf]; omega
        · have hj3 : j = 32 := by omega
          subst hj3
          rw [HX1'.out] at hAs
          have HS7 : Hid (Ar wr gs 0 .u8 (SM (k + 1))) := hAs
          have HG7 : Hid (Ar wr g6 0 .u8 (TG (k + 1))) := hAg
          clear hAs hAg
          go_wp2
          go_roundw
          case rel => exact ⟨k + 1, g6, by omega, by go_num, rfl, n6, HG7.out, HS7.out, hbel2⟩
          case measure => simp [intOf]; omega
    · have hkm : k = m := by omega
      subst hkm
      rw [← HD.out] at HAS
      go_wp2
      go_ret
      exact ⟨gs, cap, rfl, ggs, hcap, hcap2, HAS.out, hbel⟩

set_option maxHeartbeats 4000000 in
theorem rdblock_any (w : World) (v u : Value) (xs ss : List Int) (c i : Nat) (hv : Byt w v xs) (hu : Byt w u ss) (hx : xs.length ≤ 1000) (hs : ss.length ≤ 1000) (hc : 1 ≤ c) (hc2 : c ≤ 1000) (hi : i ≤ 1000) :
    Calls Tryd.prog 48 #[v, u, .int .i64 c, .int .i64 i] w fun e w' => ∃ v', e = .returned v' ∧ Byt w' v' (dblk (blk xs) ss c i) ∧ Below w.heap.size w w' := by
  have HV : Hid (Byt w v xs) := hv
  have HU : Hid (Byt w u ss) := hu
  have HXL : Hid (xs.length ≤ 1000) := hx
  have HSL : Hid (ss.length ≤ 1000) := hs
  have HSA : Hid (AllB ss) := hu.all
  have HBE : Hid ((le (i : Int) (clamp 4 8)).reverse = be4 (i : Int) ∧ (be4 (i : Int)).length = 4 ∧ AllB (be4 (i : Int))) := ⟨by rw [show clamp 4 8 = 4 by decide]; rfl, be4_len i, be4_all i⟩
  have HT1 : Hid (∀ w0 t, Byt w0 v xs → Byt w0 t (ss ++ be4 (i : Int)) → Calls Tryd.prog 42 #[v, t] w0 fun e w' => ∃ v', e = .returned v' ∧ Byt w' v' (tg (blk xs) (u1 (blk xs) ss i) 0) ∧ Below w0.heap.size w0 w') := fun w0 t h1 h2 => rtag_any w0 v t xs _ h1 h2 (by omega) (by simp [be4_len]; omega)
  have HT2 : Hid (∀ w0 t k, Byt w0 v xs → Byt w0 t (tg (blk xs) (u1 (blk xs) ss i) k) → Calls Tryd.prog 42 #[v, t] w0 fun e w' => ∃ v', e = .returned v' ∧ Byt w' v' (tg (blk xs) (u1 (blk xs) ss i) (k + 1)) ∧ Below w0.heap.size w0 w') := fun w0 t k h1 h2 => rtag_any w0 v t xs _ h1 h2 (by omega) (by rw [tg_len _ _ (u1_len _ _ _)]; omega)
  have HXO : Hid (∀ w0 a b k, Byt w0 a (sm (blk xs) (u1 (blk xs) ss i) k) → Byt w0 b (tg (blk xs) (u1 (blk xs) ss i) (k + 1)) → Calls Tryd.prog 61 #[a, b] w0 fun e w' => ∃ v', e = .returned v' ∧ Byt w' v' (sm (blk xs) (u1 (blk xs) ss i) (k + 1)) ∧ Below w0.heap.size w0 w') := fun w0 a b k h1 h2 => rxor_any a b _ _ w0 h1 h2 (by rw [sm_len _ _ (u1_len _ _ _), tg_len _ _ (u1_len _ _ _)]) (by rw [sm_len _ _ (u1_len _ _ _)]; omega)
  have HM0 : Hid (sm (blk xs) (u1 (blk xs) ss i) 0 = tg (blk xs) (u1 (blk xs) ss i) 0) := rfl
  have HD : Hid (dblk (blk xs) ss c i = sm (blk xs) (u1 (blk xs) ss i) (c - 1)) := rfl
  generalize tg (blk xs) (u1 (blk xs) ss i) = TG at *
  generalize sm (blk xs) (u1 (blk xs) ss i) = SM at *
  generalize dblk (blk xs) ss c i = D at *
  generalize be4 (i : Int) = b4 at *
  obtain ⟨m, hm⟩ : ∃ m, m = c - 1 := ⟨_, rfl⟩
  rw [← hm] at HD
  have m1 : (c : Int) = (m : Int) + 1 := by omega
  have m2 : (m : Int) ≤ 1000 := by omega
  have i1 : IntKind.u64.wrap (i : Int) = i := by rw [IntKind.wrap_u64]; omega
  have HI : Hid (0 ≤ (i : Int) ∧ (i : Int) ≤ 18446744073709551615) := ⟨by omega, by omega⟩
  have B0 : Below w.heap.size w (w.alloc (.cells #[] 5)) := (Below.refl _ _).alloc (Nat.le_refl _) _
  have HO0 : Hid (Own w.heap.size (w.alloc (.cells #[] 5)) (.slice (some ⟨w.heap.size, 0, none⟩) 0 0) []) := Own.empty w (Nat.le_refl _)
  have HU0 : Hid (Byt (w.alloc (.cells #[] 5)) u ss) := HU.out.below B0
  have z0 : w.heap.size ≤ (w.alloc (.cells #[] 5)).heap.size := B0.size
  rw [m1]
  clear hm hv hu hx hs m1
  go_enter Tryd.func48, Tryd.ntmps48
  go_wp2_with (first
    | (go_at_call 42; refine (HT1.out _ _ HV3.out HB3.out).mono ?_; rintro e w4 ⟨v4, rfl, hv4, b4'⟩; have HV4 : Hid (Byt w4 v4 (TG 0)) := hv4; have HM4 : Hid (Byt w4 v4 (SM 0)) := by { rw [HM0.out]; exact hv4 }; have C4 : Below w.heap.size w w4 := C3.trans (b4'.mono C3.size); clear hv4)
    | (refine pushs_law _ rfl (.tmp 15) (.tmp 18) rfl w.heap.size C2.size _ _ ss b4 rfl rfl HO2.out HB2.out (by have := HSL.out; omega) (by rw [HBE.out.2.1]; omega) ?_; intro v3 w3 O3 b3; have HB3 : Hid (Byt w3 v3 (ss ++ b4)) := O3.byt (allB_append HSA.out HBE.out.2.2); have C3 : Below w.heap.size w w3 := C2.trans b3; have HV3 : Hid (Byt w3 v xs) := HV.out.below C3; clear O3)
    | (go_at_call 39; refine (rbig_any (i : Int) 4 _ HI.out).mono ?_; rintro e w2 ⟨v2, rfl, hv2, b2⟩; rw [HBE.out.1] at hv2; have HB2 : Hid (Byt w2 v2 b4) := hv2; have HO2 : Hid (Own w.heap.size w2 v1 ss) := ownsRow_below HO1.out b2; have C2 : Below w.heap.size w w2 := C1.trans (b2.mono C1.size); clear hv2)
    | (refine pushs_law _ rfl (.tmp 13) (.tmp 14) rfl w.heap.size z0 _ _ [] ss rfl rfl HO0.out HU0.out (by simp) (by have := HSL.out; omega) ?_; intro v1 w1 O1 b1; rw [List.nil_append] at O1; have HO1 : Hid (Own w.heap.size w1 v1 ss) := O1; have C1 : Below w.heap.size w w1 := B0.trans b1; clear O1))
  go_loopw [9, 10, 11] (fun t s i wr => ∃ k : Nat, k ≤ m ∧ i = .int .i64 ((k : Int) + 1) ∧ Byt wr t (TG k) ∧ Byt wr s (SM k) ∧ Below w.heap.size w wr) (fun _ _ i _ => m + 1 - (intOf i).toNat)
  case atStart => exact ⟨0, Nat.zero_le _, rfl, HV4.out, HM4.out, C4⟩
  case round =>
    obtain ⟨k, hk, rfl, hT, hS, hbel⟩ := hrel
    have k0 : (0 : Int) ≤ (k : Int) := by omega
    have q1 : IntKind.i64.wrap (k : Int) = k := by rw [IntKind.wrap_i64]; omega
    have HT : Hid (Byt wr u9 (TG k)) := hT
    have HS : Hid (Byt wr u10 (SM k)) := hS
    have HVr : Hid (Byt wr v xs) := HV.out.below hbel
    have hsz := hbel.size
    clear hT hS
    by_cases hlt : k < m
    · have k1 : (k : Int) < (m : Int) := by omega
      go_wp2_with (first
        | (go_at_call 61; refine (HXO.out _ _ _ k HS5.out HT5.out).mono ?_; rintro e w6 ⟨v6, rfl, hv6, b6⟩; have HS6 : Hid (Byt w6 v6 (SM (k + 1))) := hv6; have HT6 : Hid (Byt w6 v5 (TG (k + 1))) := HT5.out.below b6; have C6 : Below w.heap.size w w6 := C5.trans (b6.mono C5.size); clear hv6)
        | (go_at_call 42; refine (HT2.out _ _ k HVr.out HT.out).mono ?_; rintro e w5 ⟨v5, rfl, hv5, b5⟩; have HT5 : Hid (Byt w5 v5 (TG (k + 1))) := hv5; have HS5 : Hid (Byt w5 u10 (SM k)) := HS.out.below b5; have C5 : Below w.heap.size w w5 := hbel.trans (b5.mono hsz); clear hv5))
      go_roundw
      case rel => exact ⟨k + 1, by omega, by go_num, HT6.out, HS6.out, C6⟩
      case measure => simp [intOf]; omega
    · have hkm : k = m := by omega
      subst hkm
      rw [← HD.out] at HS
      go_wp2
      go_ret
      exact ⟨_, rfl, HS.out, hbel⟩
end Go.Proofs.YtmbfccclghnaeaaDoor.mc

/- What derive's Bytes, Block and Keys and the reference's Bytes and Right answer. No claim of its own. -/
namespace Go.Proofs.YtmbfccclghnaeaaDoor.mc
open Go.RowKit
set_option maxRecDepth 20000

section
variable {ops : Array Oper} {o : Oper} {a : Act} {Q : Exit → Act → World → Prop} {K : Act → World → Prop} {E : Prop}
/-- 'make([]byte, n)' in a region that draws its order -/
theorem step_make (w : World) (hg : o.guard = none) (d : Option Tmp) (hd : o.dst = d) (l c : Operand) (hop : o.op = Op.makeSlice 23 l c) (B : Nat) (hB : B ≤ w.heap.size)
    (L : Int) (n : Nat) (hl : a.eval l = .int .i64 L) (hc : a.eval c = .int .i64 L) (hL : L = (n : Int)) (hn : n ≤ 1099511627776)
    (hK : ∀ w', OwnN B w' w.heap.size n (List.replicate n 0) → Below B w w' → w.heap.size < w'.heap.size → K (a.put d (.slice (some ⟨w.heap.size, 0, none⟩) n n)) w') :
    if Region.wanted o (yielded ops a.tmps) = true then Oper.wp Tryd.prog o a w K Q else E := by
  have hw : Region.wanted o (yielded ops a.tmps) = true := by simp [Region.wanted, hg]
  rw [if_pos hw]
  subst hd
  obtain ⟨i0, hi, hz0, hz1, hz2⟩ := info_parts info_u8
  obtain ⟨w', hrun, h1, h2⟩ := run_make_full (P := Tryd.prog) w B 23 5 i0 (.int .u8 0) 1 Tryd.underlying23 hi hz0 hz1 .i64 .i64 n (by rw [hz2]; omega) (by simp only [maxLen]; omega) hB
  subst hL
  have hlt : w.heap.size < w'.heap.size := (h1.lt w.heap.size rfl).2
  unfold Oper.wp
  simp [execOp, hop, hl, hc, hrun, Result.andThen]
  refine hK w' ⟨by simp, hB, ?_⟩ ((Below.refl B w).grown h2 hB (fun k hk => by cases hk)) hlt
  have e : (madeCells (Value.int .u8 0).cells (n * 1)).toList = (List.replicate n (0 : Int)).map (Value.int .u8) := by
    rw [Nat.mul_one]
    show (madeCells #[Value.int .u8 0] n).toList = _
    rw [toList_madeCells_one]; simp
  rw [e] at h1
  exact h1
/-- a call in a region that draws its order; what it answers is a letter -/
theorem step_callE (w : World) (hg : o.guard = none) (d : Option Tmp) (hd : o.dst = d) (f : FuncId) (args : Array Operand) (ats : Array TypeId) (hop : o.op = .call { callee := .value (.func f), args := args, argTypes := ats })
    (hcf : ∀ (q : Array Value) (w : World), (callFunc f q).run Tryd.prog w = .ok (.enter f q) w) (vs : Array Value) (hvs : args.map a.eval = vs) (R : Value → World → Prop) (hc : Calls Tryd.prog f vs w fun e w' => ∃ v, e = .returned v ∧ R v w') (hK : ∀ v w', R v w' → K (a.put d v) w') : if Region.wanted o (yielded ops a.tmps) = true then Oper.wp Tryd.prog o a w K Q else E := by
  have hw : Region.wanted o (yielded ops a.tmps) = true := by simp [Region.wanted, hg]
  rw [if_pos hw]
  subst hd
  subst hvs
  unfold Oper.wp
  simp only [execOp, hop]
  go_simp
  refine hc.mono ?_
  rintro e w' ⟨v, rfl, hr⟩
  exact hK v w' hr
end

set_option maxHeartbeats 1000000 in
theorem may_any (w : World) (v : Value) (xs : List Int) (c : Int) (h : Byt w v xs) (b : Bool) (hb : b = decide (xs.length ≤ 64 ∧ 1 ≤ c ∧ c ≤ 1000)) :
    Calls Tryd.prog 64 #[v, .int .i64 c] w fun e w' => e = .returned (.bool b) ∧ w' = w := by
  obtain ⟨ao, cap, rfl, h1, h2, -, -, -⟩ := h
  obtain ⟨n, hn⟩ : ∃ n, n = xs.length := ⟨_, rfl⟩
  rw [← hn] at hb h1 ⊢
  clear hn
  have HB : Hid (b = decide (n ≤ 64 ∧ 1 ≤ c ∧ c ≤ 1000)) := hb
  clear hb
  by_cases a1 : n ≤ 64
  · have l1 : (n : Int) ≤ 64 := by omega
    by_cases a2 : 1 ≤ c
    · by_cases a3 : c ≤ 1000
      all_goals
        go_enter Tryd.func64, Tryd.ntmps64
        go_wp2
        go_ret
        exact ⟨ret_bool (by rw [HB.out]; simp; omega), rfl⟩
    · go_enter Tryd.func64, Tryd.ntmps64
      go_wp2
      go_ret
      exact ⟨ret_bool (by rw [HB.out]; simp; omega), rfl⟩
  · have l1 : ¬ (n : Int) ≤ 64 := by omega
    go_enter Tryd.func64, Tryd.ntmps64
    go_wp2
    go_ret
    exact ⟨ret_bool (by rw [HB.out]; simp; omega), rfl⟩

set_option maxHeartbeats 1000000 in
theorem right_any (w : World) (v : Value) (xs : List Int) (c : Int) (h : Byt w v xs) (b : Bool) (hb : b = decide (xs.length ≤ 64 ∧ 1 ≤ c ∧ c ≤ 1000)) :
    Calls Tryd.prog 24 #[v, .int .i64 c] w fun e w' => e = .returned (.bool b) ∧ w' = w := by
  obtain ⟨ao, cap, rfl, h1, h2, -, -, -⟩ := h
  obtain ⟨n, hn⟩ : ∃ n, n = xs.length := ⟨_, rfl⟩
  rw [← hn] at hb h1 ⊢
  clear hn
  have HB : Hid (b = decide (n ≤ 64 ∧ 1 ≤ c ∧ c ≤ 1000)) := hb
  clear hb
  by_cases a1 : n ≤ 64
  · have l1 : (n : Int) ≤ 64 := by omega
    by_cases a2 : 1 ≤ c
    · by_cases a3 : c ≤ 1000
      all_goals
        go_enter Tryd.func24, Tryd.ntmps24
        go_wp2
        go_ret
        exact ⟨ret_bool (by rw [HB.out]; simp; omega), rfl⟩
    · go_enter Tryd.func24, Tryd.ntmps24
      go_wp2
      go_ret
      exact ⟨ret_bool (by rw [HB.out]; simp; omega), rfl⟩
  · have l1 : ¬ (n : Int) ≤ 64 := by omega
    go_enter Tryd.func24, Tryd.ntmps24
    go_wp2
    go_ret
    exact ⟨ret_bool (by rw [HB.out]; simp; omega), rfl⟩

theorem step_callE1 {ops : Array Oper} {o : Oper} {a : Act} {Q : Exit → Act → World → Prop} {K : Act → World → Prop} {E : Prop} (w : World) (hg : o.guard = none) (d : Option Tmp) (hd : o.dst = d) (f : FuncId) (x : Operand) (ats : Array TypeId) (hop : o.op = .call { callee := .value (.func f), args := #[x], argTypes := ats })
    (hcf : ∀ (q : Array Value) (w : World), (callFunc f q).run Tryd.prog w = .ok (.enter f q) w) (vx : Value) (hx : a.eval x = vx) (R : Value → World → Prop) (hc : Calls Tryd.prog f #[vx] w fun e w' => ∃ v, e = .returned v ∧ R v w') (hK : ∀ v w', R v w' → K (a.put d v) w') : if Region.wanted o (yielded ops a.tmps) = true then Oper.wp Tryd.prog o a w K Q else E :=
  step_callE w hg d hd f #[x] ats hop hcf #[vx] (by simp [hx]) R hc hK
/-- how many blocks n bytes are -/
def nb (n : Nat) : Nat := (n + 31) / 32
/-- n bytes that are derived -/
def drv (bl ss : List Int) (c n : Nat) : List Int := (cat (dblk bl ss c) (nb n)).take n
theorem drv_len (bl ss : List Int) (c n : Nat) : (drv bl ss c n).length = n := by
  have := cat_len (dblk bl ss c) (dblk_len bl ss c) (nb n)
  unfold drv
  rw [List.length_take, this]
  unfold nb
  omega
theorem drv_all (bl ss : List Int) (c n : Nat) : AllB (drv bl ss c n) := allB_tk (cat_all _ (dblk_all bl ss c) _) _
end Go.Proofs.YtmbfccclghnaeaaDoor.mc

/- What derive's Bytes, Block and Keys answer where they refuse, Block and Keys else; the reference's Bytes; the law's light. No claim of its own. -/
namespace Go.Proofs.YtmbfccclghnaeaaDoor.mc
open Go.RowKit
set_option maxRecDepth 20000

theorem cat_take (f : Nat → List Int) (h : ∀ i, (f i).length = 32) (n k j : Nat) (hk : n ≤ 32 * k) : (cat f (k + j)).take n = (cat f k).take n := by
  induction j with
  | zero => rfl
  | succ j ih =>
    show (cat f (k + j) ++ f (k + j + 1)).take n = _
    rw [List.take_append_of_le_length (by rw [cat_len f h]; omega), ih]
/-- what is derived begins what is derived longer -/
theorem drv_begins (bl ss : List Int) (c n m : Nat) : (drv bl ss c (n + m)).take n = drv bl ss c n := by
  have e : nb (n + m) = nb n + (nb (n + m) - nb n) := by unfold nb; omega
  unfold drv
  rw [List.take_take, show min n (n + m) = n by omega, e]
  exact cat_take _ (dblk_len bl ss c) n (nb n) _ (by unfold nb; omega)
theorem drv_keys (bl ss : List Int) (c : Nat) : (drv bl ss c 96).take 32 = dblk bl ss c 1 ∧ ((drv bl ss c 96).take 64).drop 32 = dblk bl ss c 2 ∧ (drv bl ss c 96).drop 64 = dblk bl ss c 3 := by
  have h := dblk_len bl ss c
  have e : drv bl ss c 96 = dblk bl ss c 1 ++ (dblk bl ss c 2 ++ dblk bl ss c 3) := by
    show ((([] ++ dblk bl ss c 1) ++ dblk bl ss c 2) ++ dblk bl ss c 3).take 96 = _
    rw [List.take_of_length_le (by simp [h])]
    simp
  rw [e]
  refine ⟨?_, ?_, ?_⟩
  · rw [List.take_append_of_le_length (by rw [h]; omega), List.take_of_length_le (by rw [h]; omega)]
  · rw [List.take_append, List.take_of_length_le (by rw [h]; omega), h, List.drop_append_of_le_length (by rw [h]; omega), List.drop_of_length_le (by rw [h]; omega), List.nil_append, List.take_append_of_le_length (by rw [h]; omega), List.take_of_length_le (by rw [h]; omega)]
  · rw [List.drop_append, List.drop_of_length_le (by rw [h]; omega), List.nil_append, h, List.drop_append, List.drop_of_length_le (by rw [h]; omega), List.nil_append, h]
    rfl

set_option maxHeartbeats 1000000 in
theorem dkeys_no (w : World) (v u : Value) (xs : List Int) (c : Int) (hv : Byt w v xs) (hr : ¬ (xs.length ≤ 64 ∧ 1 ≤ c ∧ c ≤ 1000)) :
    Calls Tryd.prog 46 #[v, u, .int .i64 c] w fun e w' => e = .returned (.tuple #[.slice none 0 0, .slice none 0 0, .slice none 0 0, .int .i64 2]) ∧ w' = w := by
  have HV : Hid (Byt w v xs) := hv
  have HMY : Hid (∀ w0, Byt w0 v xs → Calls Tryd.prog 64 #[v, .int .i64 c] w0 fun e w' => e = .returned (.bool false) ∧ w' = w0) := fun w0 h => may_any w0 v xs c h false (by rw [decide_eq_false hr])
  clear hr hv
  go_enter Tryd.func46, Tryd.ntmps46
  go_wp2_with (go_at_call 64; refine (HMY.out _ HV.out).mono ?_; rintro e w' ⟨rfl, hw⟩; obtain rfl := hw.symm)
  exact bodyPost_ret (v := .tuple #[.slice none 0 0, .slice none 0 0, .slice none 0 0, .int .i64 2]) (by simp [results, Tryd.results46, go_sem]) rfl ⟨rfl, rfl⟩

set_option maxHeartbeats 2000000 in
theorem dkeys_any (w : World) (v u : Value) (xs ss : List Int) (c : Nat) (hv : Byt w v xs) (hu : Byt w u ss) (hx : xs.length ≤ 64) (hs : ss.length ≤ 1000) (hc : 1 ≤ c) (hc2 : c ≤ 1000) :
    Calls Tryd.prog 46 #[v, u, .int .i64 c] w fun e w' => ∃ v1 v2 v3, e = .returned (.tuple #[v1, v2, v3, .int .i64 0]) ∧ Byt w' v1 (dblk (blk xs) ss c 1) ∧ Byt w' v2 (dblk (blk xs) ss c 2) ∧ Byt w' v3 (dblk (blk xs) ss c 3) ∧ Below w.heap.size w w' := by
  have HV : Hid (Byt w v xs) := hv
  have HU : Hid (Byt w u ss) := hu
  have HMY : Hid (∀ w0, Byt w0 v xs → Calls Tryd.prog 64 #[v, .int .i64 c] w0 fun e w' => e = .returned (.bool true) ∧ w' = w0) := fun w0 h => may_any w0 v xs c h true (by simp; omega)
  have HMN : Hid (∀ w0, Byt w0 v xs → Calls Tryd.prog 52 #[v] w0 fun e w' => ∃ k, e = .returned (.pointer (some ⟨k, 0, none⟩)) ∧ KeyV w' (.pointer (some ⟨k, 0, none⟩)) (blk xs) ∧ Below w0.heap.size w0 w') := fun w0 h => (mnew_any w0 v xs h (by omega)).mono fun _ _ ⟨k, he, _, hA, hb⟩ => ⟨k, he, blk_key hA hv.all, hb⟩
  have hdb : ∀ (i : Nat), i ≤ 3 → ∀ w0 kv, KeyV w0 kv (blk xs) → Byt w0 u ss → Calls Tryd.prog 65 #[kv, u, .int .i64 c, .int .i64 (i : Int)] w0 fun e w' => ∃ v', e = .returned v' ∧ Byt w' v' (dblk (blk xs) ss c i) ∧ Below w0.heap.size w0 w' := fun i hi w0 kv h1 h2 => (dblock_any w0 kv u (blk xs) ss c i h1 h2 hs hc hc2 (by omega)).mono fun _ _ ⟨g, cap, he, _, h1, h2, hA, hb⟩ => ⟨_, he, ar32_byt hA (dblk_all _ _ _ _) (dblk_len _ _ _ _) cap h1 h2, hb⟩
  have HD1 : Hid (∀ w0 kv, KeyV w0 kv (blk xs) → Byt w0 u ss → Calls Tryd.prog 65 #[kv, u, .int .i64 c, .int .i64 1] w0 fun e w' => ∃ v', e = .returned v' ∧ Byt w' v' (dblk (blk xs) ss c 1) ∧ Below w0.heap.size w0 w') := hdb 1 (by omega)
  have HD2 : Hid (∀ w0 kv, KeyV w0 kv (blk xs) → Byt w0 u ss → Calls Tryd.prog 65 #[kv, u, .int .i64 c, .int .i64 2] w0 fun e w' => ∃ v', e = .returned v' ∧ Byt w' v' (dblk (blk xs) ss c 2) ∧ Below w0.heap.size w0 w') := hdb 2 (by omega)
  have HD3 : Hid (∀ w0 kv, KeyV w0 kv (blk xs) → Byt w0 u ss → Calls Tryd.prog 65 #[kv, u, .int .i64 c, .int .i64 3] w0 fun e w' => ∃ v', e = .returned v' ∧ Byt w' v' (dblk (blk xs) ss c 3) ∧ Below w0.heap.size w0 w') := hdb 3 (by omega)
  generalize dblk (blk xs) ss c 1 = D1 at *
  generalize dblk (blk xs) ss c 2 = D2 at *
  generalize dblk (blk xs) ss c 3 = D3 at *
  clear hdb
  generalize blk xs = bl at *
  clear hv hu hx hs
  go_enter Tryd.func46, Tryd.ntmps46
  go_wp2_with (first
    | (go_at_call 65; have q := HV23; refine (HD3.out _ _ HK3.out HU3.out).mono ?_; rintro e w4 ⟨v4, rfl, hv4, b4⟩; have HV4 : Hid (Byt w4 v4 D3) := hv4; have HV24 : Hid (Byt w4 v2 D1) := HV23.out.below b4; have HV34 : Hid (Byt w4 v3 D2) := HV33.out.below b4; have C4 : Below w.heap.size w w4 := C3.trans (b4.mono C3.size); clear hv4)
    | (go_at_call 65; have q := HV22; refine (HD2.out _ _ HK2.out HU2.out).mono ?_; rintro e w3 ⟨v3, rfl, hv3, b3⟩; have HV33 : Hid (Byt w3 v3 D2) := hv3; have HV23 : Hid (Byt w3 v2 D1) := HV22.out.below b3; have HK3 : Hid (KeyV w3 (.pointer (some ⟨k, 0, none⟩)) bl) := HK2.out.below b3; have HU3 : Hid (Byt w3 u ss) := HU2.out.below b3; have C3 : Below w.heap.size w w3 := C2.trans (b3.mono C2.size); clear hv3)
    | (go_at_call 65; refine (HD1.out _ _ HK1.out HU1.out).mono ?_; rintro e w2 ⟨v2, rfl, hv2, b2⟩; have HV22 : Hid (Byt w2 v2 D1) := hv2; have HK2 : Hid (KeyV w2 (.pointer (some ⟨k, 0, none⟩)) bl) := HK1.out.below b2; have HU2 : Hid (Byt w2 u ss) := HU1.out.below b2; have C2 : Below w.heap.size w w2 := b1.trans (b2.mono b1.size); clear hv2)
    | (go_at_call 52; refine (HMN.out _ HV.out).mono ?_; rintro e w1 ⟨k, rfl, hk1, b1⟩; have HK1 : Hid (KeyV w1 (.pointer (some ⟨k, 0, none⟩)) bl) := hk1; have HU1 : Hid (Byt w1 u ss) := HU.out.below b1; clear hk1)
    | (go_at_call 64; refine (HMY.out _ HV.out).mono ?_; rintro e w' ⟨rfl, hw⟩; obtain rfl := hw.symm))
  exact bodyPost_ret (v := .tuple #[v2, v3, v4, .int .i64 0]) (by simp [results, Tryd.results46, go_sem]) rfl ⟨v2, v3, v4, rfl, HV24.out, HV34.out, HV4.out, C4⟩

set_option maxHeartbeats 4000000 in
theorem rbytes_any (w : World) (v u : Value) (xs ss : List Int) (c n : Nat) (hv : Byt w v xs) (hu : Byt w u ss) (hx : xs.length ≤ 1000) (hs : ss.length ≤ 1000) (hc : 1 ≤ c) (hc2 : c ≤ 1000) (hn : n ≤ 1024) :
    Calls Tryd.prog 25 #[v, u, .int .i64 c, .int .i64 n] w fun e w' => ∃ v', e = .returned v' ∧ Byt w' v' (drv (blk xs) ss c n) ∧ Below w.heap.size w w' := by
  have HV : Hid (Byt w v xs) := hv
  have HU : Hid (Byt w u ss) := hu
  have HDB : Hid (∀ w0 (k : Nat), Byt w0 v xs → Byt w0 u ss → k ≤ 999 → Calls Tryd.prog 48 #[v, u, .int .i64 c, .int .i64 ((k : Int) + 1)] w0 fun e w' => ∃ v', e = .returned v' ∧ Byt w' v' (dblk (blk xs) ss c (k + 1)) ∧ Below w0.heap.size w0 w') := fun w0 k h1 h2 h3 => by
    have := rdblock_any w0 v u xs ss c (k + 1) h1 h2 hx hs hc hc2 (by omega)
    rwa [show ((k + 1 : Nat) : Int) = (k : Int) + 1 by omega] at this
  have HDL : Hid (∀ i, (dblk (blk xs) ss c i).length = 32 ∧ AllB (dblk (blk xs) ss c i)) := fun i => ⟨dblk_len _ _ _ _, dblk_all _ _ _ _⟩
  have HCL : Hid (∀ k, (cat (dblk (blk xs) ss c) k).length = 32 * k ∧ AllB (cat (dblk (blk xs) ss c) k)) := fun k => ⟨cat_len _ (dblk_len _ _ _) k, cat_all _ (dblk_all _ _ _) k⟩
  have HC0 : Hid (cat (dblk (blk xs) ss c) 0 = []) := rfl
  have HC1 : Hid (∀ k, cat (dblk (blk xs) ss c) (k + 1) = cat (dblk (blk xs) ss c) k ++ dblk (blk xs) ss c (k + 1)) := fun k => rfl
  have HDR : Hid (drv (blk xs) ss c n = (cat (dblk (blk xs) ss c) (nb n)).take n) := rfl
  generalize drv (blk xs) ss c n = R at *
  generalize cat (dblk (blk xs) ss c) = CT at *
  generalize dblk (blk xs) ss c = f at *
  generalize blk xs = bl at *
  have B0 : Below w.heap.size w (w.alloc (.cells #[] 5)) := (Below.refl _ _).alloc (Nat.le_refl _) _
  have HO0 : Hid (Own w.heap.size (w.alloc (.cells #[] 5)) (.slice (some ⟨w.heap.size, 0, none⟩) 0 0) (CT 0)) := by rw [HC0.out]; exact Own.empty w (Nat.le_refl _)
  obtain ⟨K, hK⟩ : ∃ K, K = nb n := ⟨_, rfl⟩
  rw [← hK] at HDR
  unfold nb at hK
  have HK : Hid (n ≤ 32 * K ∧ K ≤ 32 ∧ ∀ k, k < K → 32 * k < n) := ⟨by omega, by omega, by intro k hk; omega⟩
  clear hv hu hx hs hK
  have n1 : (n : Int) ≤ 1024 := by omega
  go_enter Tryd.func25, Tryd.ntmps25
  go_wp2
  go_loopw [9, 10] (fun t i wr => ∃ k : Nat, k ≤ K ∧ i = .int .i64 ((k : Int) + 1) ∧ Own w.heap.size wr t (CT k) ∧ Below w.heap.size w wr) (fun _ i _ => K + 1 - (intOf i).toNat)
  case atStart => exact ⟨0, Nat.zero_le _, rfl, HO0.out, B0⟩
  case round =>
    obtain ⟨k, hk, rfl, hO, hbel⟩ := hrel
    have HO : Hid (Own w.heap.size wr u9 (CT k)) := hO
    obtain ⟨ro, rc, hv9, e1, e2, -, -, -⟩ := hO.byt (HCL.out k).2
    subst hv9
    clear hO
    obtain ⟨p, hp⟩ : ∃ p, p = (CT k).length := ⟨_, rfl⟩
    have hp2 : p = 32 * k := by rw [hp]; exact (HCL.out k).1
    rw [← hp] at HO e1 ⊢
    have k0 : (0 : Int) ≤ (k : Int) := by omega
    have hsz := hbel.size
    have hK32 := HK.out.2.1
    have HVr : Hid (Byt wr v xs) := HV.out.below hbel
    have HUr : Hid (Byt wr u ss) := HU.out.below hbel
    by_cases hlt : k < K
    · have hkn := HK.out.2.2 k hlt
      have k1 : (p : Int) < (n : Int) := by omega
      have hk9 : k ≤ 999 := by omega
      have q4 : IntKind.i64.wrap ((k : Int) + 1) = (k : Int) + 1 := by rw [IntKind.wrap_i64]; omega
      have q5 : IntKind.i64.wrap ((k : Int) + 1 + 1) = (k : Int) + 1 + 1 := by rw [IntKind.wrap_i64]; omega
      have HPL : Hid (p = (CT k).length ∧ p ≤ 1024) := ⟨hp, by omega⟩
      clear hp hp2 hkn
      go_wp2_with (first
        | (refine pushs_law _ rfl (.tmp 18) (.tmp 23) rfl w.heap.size C1.size _ _ (CT k) (f (k + 1)) rfl rfl HO1.out HV1.out (by have := HPL.out; omega) (by rw [(HDL.out _).1]; omega) ?_; intro v2 w2 O2 b2; rw [← HC1.out] at O2; have HO2 : Hid (Own w.heap.size w2 v2 (CT (k + 1))) := O2; clear O2)
        | (go_at_call 48; refine (HDB.out _ k HVr.out HUr.out hk9).mono ?_; rintro e w1 ⟨v1, rfl, hv1, b1⟩; have HV1 : Hid (Byt w1 v1 (f (k + 1))) := hv1; have HO1 : Hid (Own w.heap.size w1 (.slice ro p rc) (CT k)) := ownsRow_below HO.out b1; have C1 : Below w.heap.size w w1 := hbel.trans (b1.mono hsz); clear hv1))
      go_roundw
      case rel => exact ⟨k + 1, by omega, by go_num, HO2.out, C1.trans b2⟩
      case measure => simp [intOf]; omega
    · have hkK : k = K := by omega
      subst hkK
      have hkn := HK.out.1
      have k1 : ¬ (p : Int) < (n : Int) := by omega
      have HB : Hid (Byt wr (.slice ro p rc) (CT k)) := HO.out.byt (HCL.out k).2
      go_wp2_with (refine cut_to _ rfl (.tmp 25) (.tmp 26) rfl _ (CT k) _ n rfl rfl rfl (by rw [← hp]; omega) HB.out ?_; intro v3 hv3; rw [← HDR.out] at hv3; have HV3 : Hid (Byt wr v3 R) := hv3; clear hv3)
      go_ret
      exact ⟨_, rfl, HV3.out, hbel⟩
end Go.Proofs.YtmbfccclghnaeaaDoor.mc

/- What record's First answers. No claim of its own. -/
namespace Go.Proofs.YtmbfccclghnaeaaDoor.re
open Go.RowKit Go.Proofs.YtmbfccclghnaeaaDoor.fa Go.Proofs.YtmbfccclghnaeaaDoor.he Go.Proofs.YtmbfccclghnaeaaDoor.so
set_option maxRecDepth 20000

set_option maxHeartbeats 2000000 in
theorem first_salt (pv sv : Value) (ps ss : List Int) (n : Int) (w : World) (_hp : Byt w pv ps) (hs : Byt w sv ss) (h : ss.length ≠ 16) :
    Calls Tryd.prog 26 #[pv, sv, .int .i64 n] w fun x w' => x = .returned (.tuple #[.agg rv0.toArray, .slice none 0 0, .int .i64 2]) ∧ Below w.heap.size w w' := by
  have n16 : ((ss.length : Int) != 16) = true := bne_iff_ne.2 (by omega)
  obtain ⟨so', sc', rfl⟩ := form hs
  clear hs h
  have t0 : (0 : Nat) = 0 := rfl
  go_enter Tryd.func26, Tryd.ntmps26
  go_wp2_with (first
    | (have q2 := t2; (with_reducible refine at_store ?_); refine store_lawC _ rv0 w.heap.size 0 rfl rfl HR.out.2 rowy_record.2 rv0_one ?_; intro w2 E9 R9 T9 B9; have K9 : ∀ k, k ≠ w.heap.size → w2.heap[k]? = w1.heap[k]? := (by rw [E9.out]; exact fun k hk => heap_cells _ _ _ _ k hk); have NB_HR : Hid (NoB w2 w.heap.size) := (by rw [E9.out]; exact NB_HR.out.set HR.out rfl rv0_nob); have HR : Hid (Vr w2 w.heap.size rv0) := ⟨R9, T9⟩; have BB : Hid (Below w.heap.size w w2) := BB.out.trans (B9.mono LE_HR.out); clear E9 R9 T9 B9 K9; clear t2; have t3 : (1 : Nat) = 1 := rfl)
    | (have q1 := t1; refine build_law _ rfl 28 _ rfl (.agg rv0.toArray) (by kernel_rfl) ?_; clear t1; have t2 : (1 : Nat) = 1 := rfl)
    | (have q0 := t0; (with_reducible refine at_alloc ?_); refine new_lawN _ rv0 zero_record rv0_nob ?_; intro w1 X9 N9 B9; have LE_HR : Hid (w.heap.size ≤ w.heap.size) := Nat.le_refl _; have HR : Hid (Vr w1 w.heap.size rv0) := X9; have NB_HR : Hid (NoB w1 w.heap.size) := N9; have BB : Hid (Below w.heap.size w w1) := B9; clear X9 N9 B9; clear t0; have t1 : (1 : Nat) = 1 := rfl))
  exact bodyPost_ret (v := .tuple #[.agg rv0.toArray, .slice none 0 0, .int .i64 2]) (results_cvv rfl _ _ w.heap.size _ _ _ rowy_record rfl rfl rfl HR.out.1) rfl ⟨rfl, BB.out⟩

set_option maxHeartbeats 2000000 in
theorem first_shape (pv sv : Value) (ps ss : List Int) (n : Int) (w : World) (hp : Byt w pv ps) (hs : Byt w sv ss) (h : ss.length = 16) (hr : ¬ (ps.length ≤ 64 ∧ 1 ≤ n ∧ n ≤ 1000)) :
    Calls Tryd.prog 26 #[pv, sv, .int .i64 n] w fun x w' => x = .returned (.tuple #[.agg rv0.toArray, .slice none 0 0, .int .i64 2]) ∧ Below w.heap.size w w' := by
  have SK : Hid (∀ w0, Below w.heap.size w w0 → Calls Tryd.prog 46 #[pv, sv, .int .i64 n] w0 fun x w' => x = .returned (.tuple #[.slice none 0 0, .slice none 0 0, .slice none 0 0, .int .i64 2]) ∧ Below w0.heap.size w0 w') := fun w0 q => (mc.dkeys_no w0 pv sv ps n (hp.below q) hr).mono fun _ _ ⟨h1, h2⟩ => ⟨h1, by rw [h2]; exact Below.refl _ _⟩
  obtain ⟨so', sc', rfl⟩ := byt_form hs h
  clear hp hs h hr
  have t0 : (0 : Nat) = 0 := rfl
  go_enter Tryd.func26, Tryd.ntmps26
  go_wp2_with (first
    | (have q3 := t3; (with_reducible refine at_store ?_); refine store_lawC _ rv0 w.heap.size 0 rfl rfl HR.out.2 rowy_record.2 rv0_one ?_; intro w3 E9 R9 T9 B9; have K9 : ∀ k, k ≠ w.heap.size → w3.heap[k]? = w2.heap[k]? := (by rw [E9.out]; exact fun k hk => heap_cells _ _ _ _ k hk); have NB_HR : Hid (NoB w3 w.heap.size) := (by rw [E9.out]; exact NB_HR.out.set HR.out rfl rv0_nob); have HR : Hid (Vr w3 w.heap.size rv0) := ⟨R9, T9⟩; have BB : Hid (Below w.heap.size w w3) := BB.out.trans (B9.mono LE_HR.out); clear E9 R9 T9 B9 K9; clear t3; have t4 : (1 : Nat) = 1 := rfl)
    | (have q2 := t2; refine build_law _ rfl 28 _ rfl (.agg rv0.toArray) (by kernel_rfl) ?_; clear t2; have t3 : (1 : Nat) = 1 := rfl)
    | (have q1 := t1; go_at_call 46; refine (SK.out w1 BB.out).mono ?_; rintro e9 w2 ⟨rfl, B9⟩; have NB_HR : Hid (NoB w2 w.heap.size) := NB_HR.out.heap (B9.block _ (range_lt HR.out.1 (Nat.succ_pos _))); have HR : Hid (Vr w2 w.heap.size rv0) := HR.out.below B9 (range_lt HR.out.1 (Nat.succ_pos _)); have BB : Hid (Below w.heap.size w w2) := BB.out.trans (B9.mono BB.out.size); clear B9; clear t1; have t2 : (1 : Nat) = 1 := rfl)
    | (have q0 := t0; (with_reducible refine at_alloc ?_); refine new_lawN _ rv0 zero_record rv0_nob ?_; intro w1 X9 N9 B9; have LE_HR : Hid (w.heap.size ≤ w.heap.size) := Nat.le_refl _; have HR : Hid (Vr w1 w.heap.size rv0) := X9; have NB_HR : Hid (NoB w1 w.heap.size) := N9; have BB : Hid (Below w.heap.size w w1) := B9; clear X9 N9 B9; clear t0; have t1 : (1 : Nat) = 1 := rfl))
  exact bodyPost_ret (v := .tuple #[.agg rv0.toArray, .slice none 0 0, .int .i64 2]) (results_cvv rfl _ _ w.heap.size _ _ _ rowy_record rfl rfl rfl HR.out.1) rfl ⟨rfl, BB.out⟩

/-- the keys that are derived, as slices of 32 bytes -/
theorem keys3 (pv sv : Value) (ps ss : List Int) (n : Nat) (w : World) (hp : Byt w pv ps) (hs : Byt w sv ss) (h1 : ps.length ≤ 64) (h2 : ss.length ≤ 1000) (h3 : 1 ≤ n) (h4 : n ≤ 1000) :
    Calls Tryd.prog 46 #[pv, sv, .int .i64 n] w fun x w' => ∃ o1 c1 o2 c2 o3 c3, x = .returned (.tuple #[.slice o1 32 c1, .slice o2 32 c2, .slice o3 32 c3, .int .i64 0]) ∧ Byt w' (.slice o1 32 c1) (mc.dblk (mc.blk ps) ss n 1) ∧ Byt w' (.slice o2 32 c2) (mc.dblk (mc.blk ps) ss n 2) ∧ Byt w' (.slice o3 32 c3) (mc.dblk (mc.blk ps) ss n 3) ∧ Below w.heap.size w w' :=
  (mc.dkeys_any w pv sv ps ss n hp hs h1 h2 h3 h4).mono fun _ _ ⟨v1, v2, v3, e, y1, y2, y3, hb⟩ => by
    obtain ⟨o1, c1, rfl⟩ := byt_form y1 (mc.dblk_len _ _ _ _)
    obtain ⟨o2, c2, rfl⟩ := byt_form y2 (mc.dblk_len _ _ _ _)
    obtain ⟨o3, c3, rfl⟩ := byt_form y3 (mc.dblk_len _ _ _ _)
    exact ⟨o1, c1, o2, c2, o3, c3, e, y1, y2, y3, hb⟩

set_option maxHeartbeats 2000000 in
theorem first_yes (pv sv : Value) (ps ss : List Int) (n : Nat) (w : World) (hp : Byt w pv ps) (hs : Byt w sv ss) (h : ss.length = 16) (h1 : ps.length ≤ 64) (h3 : 1 ≤ n) (h4 : n ≤ 1000) :
    Calls Tryd.prog 26 #[pv, sv, .int .i64 (n : Int)] w fun x w' => ∃ a c k, x = .returned (.tuple #[.agg (rv 1 0 a 0 c z4).toArray, k, .int .i64 0]) ∧ Byt w' a ss ∧ Byt w' c (mc.dblk (mc.blk ps) ss n 3) ∧ Byt w' k (mc.dblk (mc.blk ps) ss n 2) ∧ Below w.heap.size w w' := by
  have SK : Hid (∀ w0, Below w.heap.size w w0 → Calls Tryd.prog 46 #[pv, sv, .int .i64 (n : Int)] w0 fun x w' => ∃ o1 c1 o2 c2 o3 c3, x = .returned (.tuple #[.slice o1 32 c1, .slice o2 32 c2, .slice o3 32 c3, .int .i64 0]) ∧ Byt w' (.slice o2 32 c2) (mc.dblk (mc.blk ps) ss n 2) ∧ Byt w' (.slice o3 32 c3) (mc.dblk (mc.blk ps) ss n 3) ∧ Below w0.heap.size w0 w') := fun w0 q => (keys3 pv sv ps ss n w0 (hp.below q) (hs.below q) h1 (by omega) h3 h4).mono fun _ _ ⟨o1, c1, o2, c2, o3, c3, e, _, y2, y3, hb⟩ => ⟨o1, c1, o2, c2, o3, c3, e, y2, y3, hb⟩
  have SC : Hid (∀ w0, Below w.heap.size w w0 → Calls Tryd.prog 31 #[sv] w0 fun x w' => ∃ co cc, x = .returned (.slice co 16 cc) ∧ Byt w' (.slice co 16 cc) ss ∧ Below w0.heap.size w0 w') := fun w0 q => (bclone_any sv ss w0 (hs.below q) (by omega)).mono fun _ _ ⟨z, e, y, hb⟩ => by
    obtain ⟨co, cc, rfl⟩ := byt_form y.1 h
    exact ⟨co, cc, e, y.1, hb⟩
  generalize mc.dblk (mc.blk ps) ss n 2 = K2 at SK ⊢
  generalize mc.dblk (mc.blk ps) ss n 3 = K3 at SK ⊢
  obtain ⟨so', sc', rfl⟩ := byt_form hs h
  clear hp hs h h1 h3 h4
  have t0 : (0 : Nat) = 0 := rfl
  go_enter Tryd.func26, Tryd.ntmps26
  go_wp2_with (first
    | (have q4 := t4; (with_reducible refine at_store ?_); refine store_lawC _ (rv 1 0 (.slice so 16 sc) 0 (.slice o3 32 c3) z4) w.heap.size 0 rfl rfl HR.out.2 rowy_record.2 (rv_one (slc_sl _ _ _) (slc_sl _ _ _) slc_z4) ?_; intro w4 E9 R9 T9 B9; have K9 : ∀ k, k ≠ w.heap.size → w4.heap[k]? = w3.heap[k]? := (by rw [E9.out]; exact fun k hk => heap_cells _ _ _ _ k hk); have Y2 : Hid (Byt w4 (.slice o2 32 c2) K2) := byt_nob Y2.out NB_HR.out K9; have Y3 : Hid (Byt w4 (.slice o3 32 c3) K3) := byt_nob Y3.out NB_HR.out K9; have YS : Hid (Byt w4 (.slice so 16 sc) ss) := byt_nob YS.out NB_HR.out K9; have NB_HR : Hid (NoB w4 w.heap.size) := (by rw [E9.out]; exact NB_HR.out.set HR.out rfl (rv_nob (slc_sl _ _ _) (slc_sl _ _ _) slc_z4)); have HR : Hid (Vr w4 w.heap.size (rv 1 0 (.slice so 16 sc) 0 (.slice o3 32 c3) z4)) := ⟨R9, T9⟩; have BB : Hid (Below w.heap.size w w4) := BB.out.trans (B9.mono LE_HR.out); clear E9 R9 T9 B9 K9; clear t4; have t5 : (1 : Nat) = 1 := rfl)
    | (have q3 := t3; refine build_law _ rfl 28 _ rfl (.agg (rv 1 0 (.slice so 16 sc) 0 (.slice o3 32 c3) z4).toArray) (by kernel_rfl) ?_; clear t3; have t4 : (1 : Nat) = 1 := rfl)
    | (have q2 := t2; go_at_call 31; refine (SC.out w2 BB.out).mono ?_; rintro e9 w3 ⟨so, sc, rfl, y4, B9⟩; have NB_HR : Hid (NoB w3 w.heap.size) := NB_HR.out.heap (B9.block _ (range_lt HR.out.1 (Nat.succ_pos _))); have HR : Hid (Vr w3 w.heap.size rv0) := HR.out.below B9 (range_lt HR.out.1 (Nat.succ_pos _)); have Y2 : Hid (Byt w3 (.slice o2 32 c2) K2) := Y2.out.below B9; have Y3 : Hid (Byt w3 (.slice o3 32 c3) K3) := Y3.out.below B9; have YS : Hid (Byt w3 (.slice so 16 sc) ss) := y4; have BB : Hid (Below w.heap.size w w3) := BB.out.trans (B9.mono BB.out.size); clear B9 y4; clear t2; have t3 : (1 : Nat) = 1 := rfl)
    | (have q1 := t1; go_at_call 46; refine (SK.out w1 BB.out).mono ?_; rintro e9 w2 ⟨o1, c1, o2, c2, o3, c3, rfl, y2, y3, B9⟩; have NB_HR : Hid (NoB w2 w.heap.size) := NB_HR.out.heap (B9.block _ (range_lt HR.out.1 (Nat.succ_pos _))); have HR : Hid (Vr w2 w.heap.size rv0) := HR.out.below B9 (range_lt HR.out.1 (Nat.succ_pos _)); have Y2 : Hid (Byt w2 (.slice o2 32 c2) K2) := y2; have Y3 : Hid (Byt w2 (.slice o3 32 c3) K3) := y3; have BB : Hid (Below w.heap.size w w2) := BB.out.trans (B9.mono BB.out.size); clear B9 y2 y3; clear t1; have t2 : (1 : Nat) = 1 := rfl)
    | (have q0 := t0; (with_reducible refine at_alloc ?_); refine new_lawN _ rv0 zero_record rv0_nob ?_; intro w1 X9 N9 B9; have LE_HR : Hid (w.heap.size ≤ w.heap.size) := Nat.le_refl _; have HR : Hid (Vr w1 w.heap.size rv0) := X9; have NB_HR : Hid (NoB w1 w.heap.size) := N9; have BB : Hid (Below w.heap.size w w1) := B9; clear X9 N9 B9; clear t0; have t1 : (1 : Nat) = 1 := rfl))
  exact bodyPost_ret (v := .tuple #[.agg (rv 1 0 (.slice so 16 sc) 0 (.slice o3 32 c3) z4).toArray, .slice o2 32 c2, .int .i64 0]) (results_cvv rfl _ _ w.heap.size _ _ _ rowy_record rfl rfl rfl HR.out.1) rfl ⟨_, _, _, rfl, YS.out, Y3.out, Y2.out, BB.out⟩
end Go.Proofs.YtmbfccclghnaeaaDoor.re

/- '[]byte("abc")' of a constant. No claim of its own. -/
namespace Go.Proofs.YtmbfccclghnaeaaDoor.mc
open Go.RowKit
set_option maxRecDepth 20000

section
variable {ops : Array Oper} {rest : List Oper} {o : Oper} {a : Act} {Q : Exit → Act → World → Prop}
theorem bsliceB_law (w : World) (hg : o.guard = none) (n : Nat) (parts : Array (Nat × Operand)) (hop : o.op = Op.buildSlice 23 n parts) (xs : List Int)
    (hrun : (Instr.buildSlice 23 n (parts.map fun (i, x) => (i, a.eval x))).run Tryd.prog w = .ok (.slice (some ⟨w.heap.size, 0, none⟩) n n) (w.alloc (.cells (ints .u8 xs) 5)))
    (hK : ∀ w', w' = w.alloc (.cells (ints .u8 xs) 5) → wpList Tryd.prog ops Q rest (a.put o.dst (.slice (some ⟨w.heap.size, 0, none⟩) n n)) w') : wpList Tryd.prog ops Q (o :: rest) a w := by
  refine wpList_plain hg fun K hK' => ?_
  unfold Oper.wp execOp
  simp only [hop, Sem.run_bind, Sem.run_pure, Result.andThen_ok, hrun]
  exact hK' _ _ (hK _ rfl)
theorem convB_law (w w1 : World) (hg : o.guard = none) (x : Operand) (hop : o.op = Op.convert 23 23 x) (xs : List Int) (n : Nat) (hn : xs.length = n) (hw : w1 = w.alloc (.cells (ints .u8 xs) 5)) (ha : AllB xs) (hl : n ≤ 1000000) (hx : a.eval x = .slice (some ⟨w.heap.size, 0, none⟩) n n)
    (hK : ∀ w', Byt w' (.slice (some ⟨w.heap.size, 0, none⟩) n n) xs → Below w.heap.size w w' → wpList Tryd.prog ops Q rest (a.put o.dst (.slice (some ⟨w.heap.size, 0, none⟩) n n)) w') : wpList Tryd.prog ops Q (o :: rest) a w1 := by
  subst hw
  refine wpList_plain hg fun K hK' => ?_
  have hrun := Lib.run_convert_bytes_const (P := Tryd.prog) w 23 5 (ints .u8 xs) n n Tryd.underlying23 Tryd.underlying5
  unfold Oper.wp execOp
  simp only [hop, hx, Sem.run_bind, Sem.run_pure, Result.andThen_ok, hrun]
  refine hK' _ _ (hK _ ?_ ((Below.refl _ _).alloc (Nat.le_refl _) _))
  subst hn
  refine ⟨_, _, rfl, Nat.le_refl _, by omega, ha, (by intro h; cases h), fun _ => ⟨w.heap.size, 0, rfl, fun t ht => ?_⟩⟩
  rw [cell_of_row _ w.heap.size (0 + t) _ 5 _ (heap_alloc_last w _)]
  simp [ints, gb, List.getD, ht]
end
end Go.Proofs.YtmbfccclghnaeaaDoor.mc

/- That the statements' own question 'does the program answer at all?' is answered by yes. No claim of its own. -/
namespace Go.Proofs.YtmbfccclghnaeaaDoor.re
open Go.RowKit Go.Proofs.YtmbfccclghnaeaaDoor.fa Go.Proofs.YtmbfccclghnaeaaDoor.he Go.Proofs.YtmbfccclghnaeaaDoor.so
set_option maxRecDepth 20000

theorem rbs_len {g p b : Int} {al cl : List Int} {S : Nat → Sc} {ks : List Int} (h : Rok al cl S) : (rbs g p al b cl S ks).length = 624 := by
  unfold rbs
  rw [List.length_append, Rc.len (rok_ok h), mc.tagB_len]
theorem rbs_first (p b : Int) (al cl : List Int) (S : Nat → Sc) (ks : List Int) : gb (rbs 1 p al b cl S ks) 7 = 1 := by
  unfold rbs Rc.bs Rc.ps RC
  show gb ((be 1 8 ++ _) ++ _) 7 = 1
  rw [show be 1 8 = [0, 0, 0, 0, 0, 0, 0, 1] by decide]
  rfl
theorem sb0 : Sb 0 0 0 := ⟨⟨by decide, by decide⟩, ⟨by decide, by decide⟩, by decide, by decide⟩
theorem rin_first {w : World} {a c : Value} {al cl : List Int} (ha : Byt w a al) (hc : Byt w c cl) : Rin w 1 0 0 a c al cl z4 :=
  ⟨⟨⟨by decide, by decide⟩, ⟨by decide, by decide⟩, ⟨by decide, by decide⟩⟩, ha, hc, fun _ _ => ⟨sb0, Byt.nil w⟩⟩
theorem rok_first {al cl : List Int} (h1 : al.length = 16) (h2 : cl.length = 32) : Rok al cl z4 := ⟨h1, h2, fun _ _ => sl0_ok⟩
def nul16 : List Int := List.replicate 16 0

set_option maxHeartbeats 2000000 in
theorem awake_any (w : World) (hT : Tbl w) :
    Calls Tryd.prog 8 #[] w fun e w' => e = .returned (.bool true) ∧ Below w.heap.size w w' := by
  have SF : Hid (∀ w0 v u, Byt w0 v [112] → Byt w0 u nul16 → Calls Tryd.prog 26 #[v, u, .int .i64 1] w0 fun x w' => ∃ so sc o3 c3 o2 c2, x = .returned (.tuple #[.agg (rv 1 0 (.slice so 16 sc) 0 (.slice o3 32 c3) z4).toArray, .slice o2 32 c2, .int .i64 0]) ∧ Byt w' (.slice so 16 sc) nul16 ∧ Byt w' (.slice o3 32 c3) (mc.dblk (mc.blk [112]) nul16 1 3) ∧ Byt w' (.slice o2 32 c2) (mc.dblk (mc.blk [112]) nul16 1 2) ∧ Below w0.heap.size w0 w') := fun w0 v u h1 h2 => (first_yes v u [112] nul16 1 w0 h1 h2 rfl (show (1 : Nat) ≤ 64 by decide) (by omega) (by omega)).mono fun _ _ ⟨a, c, k, e, y1, y2, y3, hb⟩ => by
    obtain ⟨so, sc, rfl⟩ := byt_form y1 (show nul16.length = 16 from rfl)
    obtain ⟨o3, c3, rfl⟩ := byt_form y2 (mc.dblk_len _ _ _ _)
    obtain ⟨o2, c2, rfl⟩ := byt_form y3 (mc.dblk_len _ _ _ _)
    exact ⟨so, sc, o3, c3, o2, c2, e, y1, y2, y3, hb⟩
  have SB : Hid (∀ w0 a c k, Below w.heap.size w w0 → Byt w0 a nul16 → Byt w0 c (mc.dblk (mc.blk [112]) nul16 1 3) → Byt w0 k (mc.dblk (mc.blk [112]) nul16 1 2) → Calls Tryd.prog 9 #[.agg (rv 1 0 a 0 c z4).toArray, k] w0 fun x w' => ∃ (ro : Nat) (off rc : Nat), x = .returned (.tuple #[.slice (some ⟨ro, off, none⟩) 624 rc, .int .i64 0]) ∧ w'.cell? ⟨ro, off + 7, none⟩ = some (.int .u8 1) ∧ 624 ≤ rc ∧ Below w0.heap.size w0 w') := fun w0 a c k q h1 h2 h3 => by
    have hl : (mc.dblk (mc.blk [112]) nul16 1 3).length = 32 := mc.dblk_len _ _ _ _
    refine (bytes_yes 1 0 0 a c nul16 _ z4 k _ w0 (rin_first h1 h2) h3 (rok_first rfl hl) (mc.dblk_len _ _ _ _) (hT.below q hT.lt)).mono ?_
    rintro _ w' ⟨r, e, y, hb⟩
    have hL := rbs_len (g := 1) (p := 0) (b := 0) (ks := mc.dblk (mc.blk [112]) nul16 1 2) (rok_first (al := nul16) rfl hl)
    have h7 := rbs_first 0 0 nul16 (mc.dblk (mc.blk [112]) nul16 1 3) z4 (mc.dblk (mc.blk [112]) nul16 1 2)
    obtain ⟨ao, cap, rfl, h1, h2, h3, h4, h5⟩ := y
    rw [hL] at h1 h5 e
    obtain ⟨ro, off, rfl, hc⟩ := h5 (by omega)
    exact ⟨ro, off, cap, e, by rw [hc 7 (by omega), h7], h1, hb⟩
  generalize mc.dblk (mc.blk [112]) nul16 1 2 = K2 at SF SB
  generalize mc.dblk (mc.blk [112]) nul16 1 3 = K3 at SF SB
  have HFA : Hid (AllB [112]) := allB_mem (by simp)
  clear hT
  have s0 : (0 : Nat) = 0 := rfl
  go_enter Tryd.func8, Tryd.ntmps8
  go_wp2_with (first
    | (have q4 := t4; go_at_call 9; refine (SB.out w13 _ _ _ (C3.out.trans (BB.out.mono C3.out.size)) YS.out YC.out YK.out).mono ?_; rintro e9 w14 ⟨ro, off, rc, rfl, y1, y2, B9⟩; have YS : Hid (Byt w14 (.slice so 16 sc) nul16) := YS.out.below B9; have YC : Hid (Byt w14 (.slice o3 32 c3) K3) := YC.out.below B9; have YK : Hid (Byt w14 (.slice o2 32 c2) K2) := YK.out.below B9; have NB_HV : Hid (NoB w14 w11.heap.size) := NB_HV.out.heap (B9.block _ (range_lt HV.out.1 (Nat.succ_pos _))); have HV : Hid (Vr w14 w11.heap.size (rv 1 0 (.slice so 16 sc) 0 (.slice o3 32 c3) z4)) := HV.out.below B9 (range_lt HV.out.1 (Nat.succ_pos _)); have hc7 := y1; have hcr := y2; have BB : Hid (Below w3.heap.size w3 w14) := BB.out.trans (B9.mono BB.out.size); clear B9 y1 y2; clear t4; have t5 : (1 : Nat) = 1 := rfl)
    | (have q3 := t3; refine load_lawC _ rfl (rv 1 0 (.slice so 16 sc) 0 (.slice o3 32 c3) z4) w11.heap.size 0 rfl HV.out.1 rowy_record ?_; clear t3; have t4 : (1 : Nat) = 1 := rfl)
    | (have q2 := t2; (with_reducible refine at_store ?_); refine store_lawC _ (rv 1 0 (.slice so 16 sc) 0 (.slice o3 32 c3) z4) w11.heap.size 0 rfl rfl HV.out.2 rowy_record.2 (rv_one (slc_sl _ _ _) (slc_sl _ _ _) slc_z4) ?_; intro w13 E9 R9 T9 B9; have K9 : ∀ k, k ≠ w11.heap.size → w13.heap[k]? = w12.heap[k]? := (by rw [E9.out]; exact fun k hk => heap_cells _ _ _ _ k hk); have YS : Hid (Byt w13 (.slice so 16 sc) nul16) := byt_nob YS.out NB_HV.out K9; have YC : Hid (Byt w13 (.slice o3 32 c3) K3) := byt_nob YC.out NB_HV.out K9; have YK : Hid (Byt w13 (.slice o2 32 c2) K2) := byt_nob YK.out NB_HV.out K9; have NB_HV : Hid (NoB w13 w11.heap.size) := (by rw [E9.out]; exact NB_HV.out.set HV.out rfl (rv_nob (slc_sl _ _ _) (slc_sl _ _ _) slc_z4)); have HV : Hid (Vr w13 w11.heap.size (rv 1 0 (.slice so 16 sc) 0 (.slice o3 32 c3) z4)) := ⟨R9, T9⟩; have BB : Hid (Below w3.heap.size w3 w13) := BB.out.trans (B9.mono LE_HV.out); clear E9 R9 T9 B9 K9; clear t2; have t3 : (1 : Nat) = 1 := rfl)
    | (have q1 := t1; (with_reducible refine at_alloc ?_); refine new_lawN _ rv0 zero_record rv0_nob ?_; intro w12 X9 N9 B9; have LE_HV : Hid (w3.heap.size ≤ w11.heap.size) := BB.out.size; have YS : Hid (Byt w12 (.slice so 16 sc) nul16) := YS.out.below B9; have YC : Hid (Byt w12 (.slice o3 32 c3) K3) := YC.out.below B9; have YK : Hid (Byt w12 (.slice o2 32 c2) K2) := YK.out.below B9; have HV : Hid (Vr w12 w11.heap.size rv0) := X9; have NB_HV : Hid (NoB w12 w11.heap.size) := N9; have BB : Hid (Below w3.heap.size w3 w12) := BB.out.trans (B9.mono BB.out.size); clear X9 N9 B9; clear t1; have t2 : (1 : Nat) = 1 := rfl)
    | (have q0 := t0; go_at_call 26; refine (SF.out w3 _ _ HB2.out HN.out).mono ?_; rintro e9 w11 ⟨so, sc, o3, c3, o2, c2, rfl, y1, y2, y3, B9⟩; have YS : Hid (Byt w11 (.slice so 16 sc) nul16) := y1; have YC : Hid (Byt w11 (.slice o3 32 c3) K3) := y2; have YK : Hid (Byt w11 (.slice o2 32 c2) K2) := y3; have BB : Hid (Below w3.heap.size w3 w11) := B9; clear B9 y1 y2 y3; clear t0; have t1 : (1 : Nat) = 1 := rfl)
    | (have q := s2; refine make_law _ rfl (.const (.int .i64 16)) (.const (.int .i64 16)) rfl w2.heap.size (Nat.le_refl _) 16 16 rfl rfl rfl (by omega) ?_; intro w3 o9 B9 l9; have HN : Hid (Byt w3 (.slice (some ⟨w2.heap.size, 0, none⟩) 16 16) nul16) := o9.byt (allB_replicate 0 16 (by omega)); have HB2 : Hid (Byt w3 (.slice (some ⟨w.heap.size, 0, none⟩) 1 1) [112]) := HB2.out.below B9; have C3 : Hid (Below w.heap.size w w3) := C2.out.trans (B9.mono C2.out.size); clear o9 B9 l9 s2; have t0 : (1 : Nat) = 1 := rfl)
    | (have q := s1; refine mc.convB_law w w1 rfl (.tmp 7) rfl [112] 1 rfl HW1.out HFA.out (by omega) rfl ?_; intro w2 hb2 b2; have HB2 : Hid (Byt w2 (.slice (some ⟨w.heap.size, 0, none⟩) 1 1) [112]) := hb2; have C2 : Hid (Below w.heap.size w w2) := b2; clear hb2 b2 s1; have s2 : (1 : Nat) = 1 := rfl)
    | (have q := s0; refine mc.bsliceB_law _ rfl 1 _ rfl [112] (by kernel_rfl) ?_; intro w1 hw1; have HW1 : Hid (w1 = w.alloc (.cells (ints .u8 [112]) 5)) := hw1; clear hw1 s0; have s1 : (1 : Nat) = 1 := rfl))
  go_ret
  exact ⟨rfl, C3.out.trans (BB.out.mono C3.out.size)⟩
end Go.Proofs.YtmbfccclghnaeaaDoor.re

