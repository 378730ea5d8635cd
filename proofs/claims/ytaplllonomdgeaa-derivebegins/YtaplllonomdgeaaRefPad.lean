/- What the reference's Pad answers. No claim of its own. -/
import Derived.Test.YtaplllonomdgeaaPush

namespace Go.Proofs.Ytaplllonomdgeaa
open Go.RowKit

theorem ownsRow_below {B : Nat} {w w' : World} {v : Value} {xs : List Int} (h : Own B w v xs) (hb : Below w.heap.size w w') : Own B w' v xs :=
  World.ownsRow.kept (row := none) h ⟨hb.os, hb.tape, hb.output, hb.size, fun j hj _ => hb.block j hj⟩ (by cases hv : v.ownBlock <;> simp)

theorem zn_mod (n : Nat) : (n + 1 + zn n) % 64 = 56 := by unfold zn; omega
theorem zn_least (n k : Nat) (h : k < zn n) : (n + 1 + k) % 64 ≠ 56 := by unfold zn at h; omega
theorem be8_def (n : Nat) : (le ((n : Int) * 8) (clamp 8 8)).reverse = be8 n := be8_of n

set_option maxRecDepth 100000 in
set_option maxHeartbeats 2000000 in
theorem rpad_any (w : World) (v : Value) (xs : List Int) (h : Byt w v xs) (hn : xs.length ≤ 1000000) :
    Calls Try.prog 37 #[v] w fun e w' => ∃ v', e = .returned v' ∧ Byt w' v' (xs ++ padl xs.length) ∧ Below w.heap.size w w' := by
  have HV : Hid (Byt w v xs) := h
  have HA : Hid (AllB (xs ++ padl xs.length)) := allB_append h.all (padl_all _)
  obtain ⟨ao, cap, rfl, hv1, hv2, -, -, -⟩ := h
  obtain ⟨n, hnx⟩ : ∃ n, n = xs.length := ⟨_, rfl⟩
  have HNX : Hid (n = xs.length) := hnx
  obtain ⟨z, hz⟩ : ∃ z, z = zn n := ⟨_, rfl⟩
  have HZ : Hid (z = zn n) := hz
  have hz1 : z < 64 := by rw [hz]; unfold zn; omega
  have n1 : (n : Int) ≤ 1000000 := by omega
  have n2 : n ≤ 1000000 := by omega
  rw [← hnx] at hv1 HV ⊢
  clear hnx hz hn
  go_enter Try.func37, Try.ntmps37
  go_wp2
  go_loop [3] (fun i => ∃ k : Nat, k ≤ z ∧ i = .int .i64 k) (fun i => z - (intOf i).toNat)
  case atStart => exact ⟨0, Nat.zero_le _, rfl⟩
  case round =>
    obtain ⟨k, hk, rfl⟩ := hrel
    by_cases hlt : k < z
    · have hm : ¬ ((n : Int) + 1 + (k : Int)) % 64 = 56 := by
        have := zn_least n k (by rw [← HZ.out]; exact hlt)
        omega
      have hm2 : ¬ ((n : Int) + 1 + (k : Int)).tmod 64 = 56 := by rw [Int.tmod_eq_emod_of_nonneg (by omega)]; exact hm
      have k1 : (k : Int) < 64 := by omega
      go_wp2
      go_round
      case rel => exact ⟨k + 1, by omega, by go_num⟩
      case measure => simp [intOf]; omega
    · have : k = z := by omega
      subst this
      have hm : ((n : Int) + 1 + (k : Int)) % 64 = 56 := by
        have := zn_mod n
        rw [← HZ.out] at this
        omega
      have hm2 : ((n : Int) + 1 + (k : Int)).tmod 64 = 56 := by rw [Int.tmod_eq_emod_of_nonneg (by omega)]; exact hm
      have k1 : (k : Int) < 64 := by omega
      have HF : Hid (clamp (k : Int) 65536 = k) := by show _ = _; unfold clamp; omega
      have HBE : Hid ((le ((n : Int) * 8) (clamp 8 8)).reverse = be8 n) := be8_of n
      have y3 : IntKind.u64.wrap (n : Int) = n := by rw [IntKind.wrap_u64]; omega
      have y2 : IntKind.u64.wrap ((n : Int) * 8) = (n : Int) * 8 := by rw [IntKind.wrap_u64]; omega
      have B0 : Below w.heap.size w (w.alloc (.cells #[] 5)) := (Below.refl _ _).alloc (Nat.le_refl _) _
      have HO0 : Hid (Own w.heap.size (w.alloc (.cells #[] 5)) (.slice (some ⟨w.heap.size, 0, none⟩) 0 0) []) := Own.empty w (Nat.le_refl _)
      have HV0 : Hid (Byt (w.alloc (.cells #[] 5)) (.slice ao n cap) xs) := HV.out.below B0
      have z0 : w.heap.size ≤ (w.alloc (.cells #[] 5)).heap.size := B0.size
      go_wp2_with (first
        | (refine pushs_law _ rfl (.tmp 14) (.tmp 15) rfl w.heap.size z0 _ _ [] xs rfl rfl HO0.out HV0.out (by simp) (by have := HNX.out; omega) ?_; intro v1 w1 O1 b1; rw [List.nil_append] at O1; have HO1 : Hid (Own w.heap.size w1 v1 xs) := O1; clear O1; have c1 : Below w.heap.size w w1 := B0.trans b1; have s1 := c1.size)
        | (refine push_law w1 rfl (.tmp 16) (.tmp 17) rfl w.heap.size s1 _ xs 128 rfl rfl HO1.out (by have := HNX.out; omega) ?_; intro v2 w2 O2 b2; have HO2 : Hid (Own w.heap.size w2 v2 (xs ++ [128])) := O2; clear O2; have c2 : Below w.heap.size w w2 := c1.trans b2; have s2 := c2.size)
        | (go_at_call 28; refine (rfill_any 0 k _ (by omega)).mono ?_; rintro e w3 ⟨v3, rfl, hv3, hb3⟩; rw [HF.out] at hv3; have HV3 : Hid (Byt w3 v3 (List.replicate k 0)) := hv3; clear hv3; have c3 : Below w.heap.size w w3 := c2.trans (hb3.mono s2); have s3 := c3.size; have HO3 : Hid (Own w.heap.size w3 v2 (xs ++ [128])) := ownsRow_below HO2.out hb3)
        | (refine pushs_law _ rfl (.tmp 19) (.tmp 21) rfl w.heap.size s3 _ _ (xs ++ [128]) (List.replicate k 0) rfl rfl HO3.out HV3.out (by have := HNX.out; simp; omega) (by simp; omega) ?_; intro v4 w4 O4 b4; have HO4 : Hid (Own w.heap.size w4 v4 (xs ++ [128] ++ List.replicate k 0)) := O4; clear O4; have c4 : Below w.heap.size w w4 := c3.trans b4; have s4 := c4.size)
        | fail)
      refine (rbig_any ((n : Int) * 8) 8 _ (by omega)).mono ?_
      rintro e w5 ⟨v5, rfl, hv5, hb5⟩
      rw [HBE.out] at hv5
      have HV5 : Hid (Byt w5 v5 (be8 n)) := hv5
      clear hv5
      have c5 : Below w.heap.size w w5 := c4.trans (hb5.mono s4)
      have s5 := c5.size
      have HO5 : Hid (Own w.heap.size w5 v4 (xs ++ [128] ++ List.replicate k 0)) := ownsRow_below HO4.out hb5
      go_wp2_with (refine pushs_law _ rfl (.tmp 23) (.tmp 28) rfl w.heap.size s5 _ _ (xs ++ [128] ++ List.replicate k 0) (be8 n) rfl rfl HO5.out HV5.out (by have := HNX.out; simp; omega) (by rw [be8_len]; omega) ?_; intro v6 w6 O6 b6; have HO6 : Hid (Own w.heap.size w6 v6 (xs ++ [128] ++ List.replicate k 0 ++ be8 n)) := O6; clear O6; have c6 : Below w.heap.size w w6 := c5.trans b6)
      have hl : xs ++ [128] ++ List.replicate k 0 ++ be8 n = xs ++ padl n := by
        unfold padl
        rw [← HZ.out]; simp
      have HB : Hid (Byt w6 v6 (xs ++ padl n)) := by
        have := HO6.out.byt (by rw [hl, HNX.out]; exact HA.out)
        rwa [hl] at this
      clear hl
      go_ret
      exact ⟨_, rfl, HB.out, c6⟩
end Go.Proofs.Ytaplllonomdgeaa
