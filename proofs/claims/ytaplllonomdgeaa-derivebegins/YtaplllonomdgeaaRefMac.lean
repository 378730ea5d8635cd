/- What the reference's Block and Tag of layer 3 answer. No claim of its own. -/
import Derived.Test.YtaplllonomdgeaaMacBlock
namespace Go.Proofs.Ytaplllonomdgeaa
open Go.RowKit

set_option maxHeartbeats 2000000 in
theorem rblock_any (w : World) (v : Value) (xs : List Int) (h : Byt w v xs) (hn : xs.length ≤ 1000000) :
    Calls Try.prog 26 #[v] w fun e w' => ∃ v', e = .returned v' ∧ Byt w' v' (blk xs) ∧ Below w.heap.size w w' := by
  have HV : Hid (Byt w v xs) := h
  have HXA : Hid (AllB xs) := h.all
  have HAB : Hid (AllB (blk xs)) := blk_all xs h.all
  have HN : Hid (xs.length ≤ 1000000) := hn
  have B0 : Below w.heap.size w (w.alloc (.cells #[] 5)) := (Below.refl _ _).alloc (Nat.le_refl _) _
  have HO0 : Hid (Own w.heap.size (w.alloc (.cells #[] 5)) (.slice (some ⟨w.heap.size, 0, none⟩) 0 0) []) := Own.empty w (Nat.le_refl _)
  have HV0 : Hid (Byt (w.alloc (.cells #[] 5)) v xs) := HV.out.below B0
  have z0 : w.heap.size ≤ (w.alloc (.cells #[] 5)).heap.size := B0.size
  obtain ⟨m, hm⟩ : ∃ m, m = 64 - (kb xs).length := ⟨_, rfl⟩
  have HB : Hid (kb xs ++ List.replicate m 0 = blk xs) := by rw [hm]; rfl
  have HF : Hid (clamp (m : Int) 65536 = m) := by show _ = _; unfold clamp; omega
  have HM : Hid (m = 64 - (kb xs).length) := hm
  have HKL : Hid ((kb xs).length ≤ 64) := kb_len xs
  have hm64 : m ≤ 64 := by omega
  clear hm h hn
  generalize blk xs = bx at *
  by_cases h64 : xs.length ≤ 64
  · have HK : Hid (kb xs = xs) := if_pos h64
    rw [HK.out] at HB HM HKL
    go_enter Try.func26, Try.ntmps26
    go_wp2_with (refine pushs_law _ rfl (.tmp 4) (.tmp 5) rfl w.heap.size z0 _ _ [] xs rfl rfl HO0.out HV0.out (by simp) (by have := HN.out; omega) ?_; intro v1 w1 O1 b1; rw [List.nil_append] at O1; have HO1 : Hid (Own w.heap.size w1 v1 xs) := O1; clear O1; have c1 : Below w.heap.size w w1 := B0.trans b1; have s1 := c1.size; obtain ⟨ro, rc, hv1, e1, e2, -, -, -⟩ := HO1.out.byt HXA.out; subst hv1)
    obtain ⟨n, hnx⟩ : ∃ n, n = xs.length := ⟨_, rfl⟩
    rw [← hnx] at h64 e1 HM HKL HO1 ⊢
    have HNX : Hid (n = xs.length) := hnx
    clear hnx
    have l1 : ¬ 64 < (n : Int) := by omega
    have HF' : Hid (clamp (64 - (n : Int)) 65536 = m) := by have := HM.out; show _ = _; unfold clamp; omega
    go_wp2_with (first
      | (go_at_call 28; refine (rfill_any 0 (64 - (n : Int)) _ (by omega)).mono ?_; rintro e w3 ⟨v3, rfl, hv3, hb3⟩; rw [HF'.out] at hv3; have HV3 : Hid (Byt w3 v3 (List.replicate m 0)) := hv3; clear hv3; have c3 : Below w.heap.size w w3 := c1.trans (hb3.mono s1); have s3 := c3.size; have HO3 : Hid (Own w.heap.size w3 (.slice ro n rc) xs) := ownsRow_below HO1.out hb3)
      | (refine pushs_law _ rfl (.tmp 12) (.tmp 16) rfl w.heap.size s3 _ _ xs (List.replicate m 0) rfl rfl HO3.out HV3.out (by have := HNX.out; omega) (by simp; omega) ?_; intro v4 w4 O4 b4; rw [HB.out] at O4; have HO4 : Hid (Own w.heap.size w4 v4 bx) := O4; clear O4; have c4 : Below w.heap.size w w4 := c3.trans b4))
    go_ret
    exact ⟨_, rfl, HO4.out.byt HAB.out, c4⟩
  · have HK : Hid (kb xs = sumOf xs) := if_neg h64
    have HSA : Hid (AllB (sumOf xs)) := sumOf_all _
    have HSL : Hid ((sumOf xs).length = 32) := sumOf_len _
    rw [HK.out] at HB HM HKL
    rw [HSL.out] at HM
    have hm32 : m = 32 := HM.out
    have HRS : Hid (∀ w0 v, Byt w0 v xs → Calls Try.prog 27 #[v] w0 fun e w' => ∃ v', e = .returned v' ∧ Own w0.heap.size w' v' (sumOf xs) ∧ Below w0.heap.size w0 w') := fun w0 v h => rsum_own w0 v xs h HN.out
    generalize sumOf xs = ss at *
    have HF32 : Hid (clamp 32 65536 = 32) := by show _ = _; decide
    subst hm32
    go_enter Try.func26, Try.ntmps26
    go_wp2_with (refine pushs_law _ rfl (.tmp 4) (.tmp 5) rfl w.heap.size z0 _ _ [] xs rfl rfl HO0.out HV0.out (by simp) (by have := HN.out; omega) ?_; intro v1 w1 O1 b1; rw [List.nil_append] at O1; have HB1 : Hid (Byt w1 v1 xs) := O1.byt HXA.out; clear O1; have c1 : Below w.heap.size w w1 := B0.trans b1; have s1 := c1.size; obtain ⟨ro, rc, hv1, e1, e2, -, -, -⟩ := id HB1.out; subst hv1)
    obtain ⟨n, hnx⟩ : ∃ n, n = xs.length := ⟨_, rfl⟩
    rw [← hnx] at h64 e1 HB1 ⊢
    have HNX : Hid (n = xs.length) := hnx
    clear hnx
    have l1 : 64 < (n : Int) := by omega
    go_wp2_with (go_at_call 27; refine (HRS.out _ _ HB1.out).mono ?_; rintro e w2 ⟨v2, rfl, hv2, hb2⟩; have HO2 : Hid (Own w.heap.size w2 v2 ss) := hv2.mono s1; have c2 : Below w.heap.size w w2 := c1.trans (hb2.mono s1); have s2 := c2.size; clear hv2; obtain ⟨po, pc, hv2, e3, e4, -, -, -⟩ := HO2.out.byt HSA.out; subst hv2; rw [HSL.out] at e3 HO2 ⊢)
    go_wp2_with (first
      | (go_at_call 28; refine (rfill_any 0 32 _ (by omega)).mono ?_; rintro e w3 ⟨v3, rfl, hv3, hb3⟩; rw [HF32.out] at hv3; have HV3 : Hid (Byt w3 v3 (List.replicate 32 0)) := hv3; clear hv3; have c3 : Below w.heap.size w w3 := c2.trans (hb3.mono s2); have s3 := c3.size; have HO3 : Hid (Own w.heap.size w3 (.slice po 32 pc) ss) := ownsRow_below HO2.out hb3)
      | (refine pushs_law _ rfl (.tmp 12) (.tmp 16) rfl w.heap.size s3 _ _ ss (List.replicate 32 0) rfl rfl HO3.out HV3.out (by rw [HSL.out]; omega) (by simp) ?_; intro v4 w4 O4 b4; rw [HB.out] at O4; have HO4 : Hid (Own w.heap.size w4 v4 bx) := O4; clear O4; have c4 : Below w.heap.size w w4 := c3.trans b4))
    go_ret
    exact ⟨_, rfl, HO4.out.byt HAB.out, c4⟩

/-- the tag of a text under a key's block -/
def tagB (bl t : List Int) : List Int := sumOf (pdd bl 92 ++ sumOf (pdd bl 54 ++ t))

set_option maxHeartbeats 4000000 in
theorem rtag_any (w : World) (v u : Value) (xs ts : List Int) (h : Byt w v xs) (hu : Byt w u ts) (hn : xs.length ≤ 1000000) (hm : ts.length ≤ 100000) :
    Calls Try.prog 19 #[v, u] w fun e w' => ∃ v', e = .returned v' ∧ Byt w' v' (tagB (blk xs) ts) ∧ Below w.heap.size w w' := by
  have HV : Hid (Byt w v xs) := h
  have HU : Hid (Byt w u ts) := hu
  have HM : Hid (ts.length ≤ 100000) := hm
  have HTA : Hid (AllB ts) := hu.all
  have HAB : Hid (AllB (blk xs)) := blk_all xs h.all
  have HL : Hid ((blk xs).length = 64) := blk_len xs
  have HT : Hid (tagB (blk xs) ts = sumOf (pdd (blk xs) 92 ++ sumOf (pdd (blk xs) 54 ++ ts))) := rfl
  have HRB : Hid (∀ w0, Byt w0 v xs → Calls Try.prog 26 #[v] w0 fun e w' => ∃ v', e = .returned v' ∧ Byt w' v' (blk xs) ∧ Below w0.heap.size w0 w') := fun w0 h => rblock_any w0 v xs h hn
  generalize tagB (blk xs) ts = T at *
  generalize blk xs = bx at *
  have HF : Hid (clamp 64 65536 = 64) := by show _ = _; decide
  have HP : Hid (∀ p, xorl bx (List.replicate 64 p) = pdd bx p) := fun p => rfl
  have HPL : Hid (∀ p, (pdd bx p).length = 64) := fun p => pdd_len bx p HL.out
  have HPA : Hid (∀ p, 0 ≤ p ∧ p ≤ 255 → AllB (pdd bx p)) := fun p hp => pdd_all bx p HL.out HAB.out hp
  have HSL : Hid (∀ l, (sumOf l).length = 32 ∧ AllB (sumOf l)) := fun l => ⟨sumOf_len l, sumOf_all l⟩
  have HRS : Hid (∀ w0 v l, Byt w0 v l → l.length ≤ 1000000 → Calls Try.prog 27 #[v] w0 fun e w' => ∃ v', e = .returned v' ∧ Byt w' v' (sumOf l) ∧ Below w0.heap.size w0 w') := fun w0 v l h h2 => rsum_any w0 v l h h2
  generalize sumOf = SM at *
  clear h hu hn hm
  go_enter Try.func19, Try.ntmps19
  go_wp2_with (first
    | (go_at_call 27; refine (HRS.out _ _ _ HV8.out (by have := HPL.out 92; have := (HSL.out (pdd bx 54 ++ ts)).1; simp; omega)).mono ?_; rintro e w9 ⟨v9, rfl, hv9, b9⟩; rw [← HT.out] at hv9; have HV9 : Hid (Byt w9 v9 T) := hv9; have d9 : Below w6.heap.size w6 w9 := d8.trans (b9.mono d8.size); clear hv9)
    | (refine pushs_law _ rfl (.tmp 17) (.tmp 18) rfl w6.heap.size b7.size _ _ (pdd bx 92) (SM (pdd bx 54 ++ ts)) rfl rfl HO7.out HV57.out (by rw [HPL.out]; omega) (by rw [(HSL.out _).1]; omega) ?_; intro v8 w8 O8 b8; have HV8 : Hid (Byt w8 v8 (pdd bx 92 ++ SM (pdd bx 54 ++ ts))) := O8.byt (allB_append (HPA.out 92 (by omega)) (HSL.out _).2); have d8 : Below w6.heap.size w6 w8 := b7.trans b8; clear O8)
    | (go_at_call 21; refine (rxor_own _ _ _ _ _ HV16.out HV6.out (by rw [HL.out]; simp) (by rw [HL.out]; omega)).mono ?_; rintro e w7 ⟨v7, rfl, hv7, b7⟩; rw [HP.out] at hv7; have HO7 : Hid (Own w6.heap.size w7 v7 (pdd bx 92)) := hv7; have HV57 : Hid (Byt w7 v5 (SM (pdd bx 54 ++ ts))) := HV56.out.below b7; clear hv7)
    | (go_at_call 28; have q92 := s5; refine (rfill_any 92 64 _ (by omega)).mono ?_; rintro e w6 ⟨v6, rfl, hv6, b6⟩; rw [HF.out] at hv6; have HV6 : Hid (Byt w6 v6 (List.replicate 64 92)) := hv6; have HV16 : Hid (Byt w6 v1 bx) := HV15.out.below b6; have HV56 : Hid (Byt w6 v5 (SM (pdd bx 54 ++ ts))) := HV5.out.below b6; have c6 : Below w.heap.size w w6 := c5.trans (b6.mono s5); have s6 := c6.size; clear hv6)
    | (go_at_call 27; refine (HRS.out _ _ _ HV4.out (by have := HM.out; have := HPL.out 54; simp; omega)).mono ?_; rintro e w5 ⟨v5, rfl, hv5, b5⟩; have HV5 : Hid (Byt w5 v5 (SM (pdd bx 54 ++ ts))) := hv5; have d5 : Below w2.heap.size w2 w5 := d4.trans (b5.mono d4.size); have HV15 : Hid (Byt w5 v1 bx) := HV12.out.below d5; have c5 : Below w.heap.size w w5 := c2.trans (d5.mono s2); have s5 := c5.size; clear hv5)
    | (refine pushs_law _ rfl (.tmp 11) (.tmp 12) rfl w2.heap.size b3.size _ _ (pdd bx 54) ts rfl rfl HO3.out HU3.out (by rw [HPL.out]; omega) (by have := HM.out; omega) ?_; intro v4 w4 O4 b4; have HV4 : Hid (Byt w4 v4 (pdd bx 54 ++ ts)) := O4.byt (allB_append (HPA.out 54 (by omega)) HTA.out); have d4 : Below w2.heap.size w2 w4 := b3.trans b4; clear O4)
    | (go_at_call 21; refine (rxor_own _ _ _ _ _ HV12.out HV2.out (by rw [HL.out]; simp) (by rw [HL.out]; omega)).mono ?_; rintro e w3 ⟨v3, rfl, hv3, b3⟩; rw [HP.out] at hv3; have HO3 : Hid (Own w2.heap.size w3 v3 (pdd bx 54)) := hv3; have c3 : Below w.heap.size w w3 := c2.trans (b3.mono s2); have HU3 : Hid (Byt w3 u ts) := HU.out.below c3; clear hv3)
    | (go_at_call 28; refine (rfill_any 54 64 _ (by omega)).mono ?_; rintro e w2 ⟨v2, rfl, hv2, b2⟩; rw [HF.out] at hv2; have HV2 : Hid (Byt w2 v2 (List.replicate 64 54)) := hv2; have HV12 : Hid (Byt w2 v1 bx) := HV1.out.below b2; have c2 : Below w.heap.size w w2 := b1.trans (b2.mono s1); have s2 := c2.size; clear hv2)
    | (go_at_call 26; refine (HRB.out _ HV.out).mono ?_; rintro e w1 ⟨v1, rfl, hv1, b1⟩; have HV1 : Hid (Byt w1 v1 bx) := hv1; have s1 := b1.size; clear hv1))
  go_ret
  exact ⟨_, rfl, HV9.out, c6.trans (d9.mono s6)⟩
end Go.Proofs.Ytaplllonomdgeaa
