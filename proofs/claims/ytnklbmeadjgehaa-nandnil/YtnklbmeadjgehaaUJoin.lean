/- What fault's Clear, Fail and Set answer, bit by bit. No claim of its own. -/
import Derived.Test.YtnklbmeadjgehaaUFail
import Derived.Test.YtnklbmeadjgehaaURun
namespace Go.Proofs.Ytnklbmeadjgehaa.fa
open Go.RowKit
set_option maxRecDepth 20000

theorem mb_bit (m : List Int) (k t : Nat) (ht : t < 8) : bit (mb m k).toNat t = mk m (8 * k + t) := by
  rw [mb_mk, show (8 * k + t) / 8 = k by omega, show (8 * k + t) % 8 = t by omega]
theorem pgl_ofb (xs ys : List Int) (D : Nat → Int) (c : Nat → Bool) (hx : AllB xs) (hy : AllB ys) (hc : ∀ k t, k < xs.length → t < 8 → c (8 * k + t) = (hs xs (8 * k + t) && !(due xs ys (8 * k + t) && bit (D k).toNat t))) : pgl xs ys D = ofb xs.length c := by
  refine ext_gb (by rw [pgl_len, ofb_len]) fun k hk => ?_
  rw [pgl_len] at hk
  have b1 := hx k
  have b2 := tc_bd xs ys hx k
  have l1 : (tc xs ys k).toNat &&& (D k).toNat ≤ (tc xs ys k).toNat := Nat.and_le_left
  have l2 : (gb xs k).toNat &&& (255 - ((tc xs ys k).toNat &&& (D k).toNat)) ≤ (gb xs k).toNat := Nat.and_le_left
  rw [pgl_gb xs ys D k hk, ofb_gb _ _ k hk]
  have := byte_bits ((gb xs k).toNat &&& (255 - ((tc xs ys k).toNat &&& (D k).toNat))) (by omega) c k fun t ht => by
    rw [hc k t hk ht, bit_and, bit_not _ (by omega) t ht, bit_and, tc_bit xs ys hy k t ht, hs_at xs k t ht]
  rw [this]
theorem pgl_torn (xs ys m : List Int) (hx : AllB xs) (hy : AllB ys) : pgl xs ys (mb m) = ofb xs.length (torn xs ys m) :=
  pgl_ofb xs ys _ _ hx hy fun k t _ ht => by rw [mb_bit m k t ht]; rfl
theorem pgl_failed (xs ys m : List Int) (p z : Nat) (hx : AllB xs) (hy : AllB ys) (h : IsL xs ys p z) : pgl xs ys (dn m p z) = ofb xs.length (failed xs ys m (8 * xs.length)) :=
  pgl_ofb xs ys _ _ hx hy fun k t _ ht => by
    have key : bit (dn m p z k).toNat t = (mk m (8 * k + t) && !(8 * k + t + 1 == lst xs ys (8 * xs.length))) := by
      unfold dn
      rcases h with ⟨rfl, rfl, hl⟩ | ⟨t0, ht0, hp, rfl, hl⟩
      · rw [hl]
        by_cases e : k = 0
        · rw [if_pos e, Int.toNat_natCast, bit_and, bit_not 0 (by omega) t ht, bit_zero, mb_bit m k t ht]; simp
        · rw [if_neg e, mb_bit m k t ht]; simp
      · rw [hl]
        have l2 : 2 ^ t0 ≤ 128 := Nat.pow_le_pow_right (by omega) (show t0 ≤ 7 by omega)
        by_cases e : k = p
        · subst e
          rw [if_pos rfl, Int.toNat_natCast, bit_and, bit_not _ (by omega) t ht, bit_pow t0 ht0 t ht, mb_bit m k t ht]
          congr 2
          rw [Bool.eq_iff_iff]
          simp
        · rw [if_neg e, mb_bit m k t ht, show (8 * k + t + 1 == 8 * p + t0 + 1) = false by simp; omega]; simp
    rw [key]
    unfold failed
    cases hs xs (8 * k + t) <;> cases due xs ys (8 * k + t) <;> cases mk m (8 * k + t) <;> simp
theorem stl_erased (xs m : List Int) (hx : AllB xs) (hm : AllB m) : stl xs (mb m) = ofb xs.length (erased xs m) := by
  refine ext_gb (by rw [stl_len, ofb_len]) fun k hk => ?_
  rw [stl_len] at hk
  have b1 := hx k
  have b2 := mb_bd hm k
  have l := Nat.or_lt_two_pow (n := 8) (show (gb xs k).toNat < 2 ^ 8 by omega) (show (mb m k).toNat < 2 ^ 8 by omega)
  rw [stl_gb xs _ k hk, ofb_gb _ _ k hk]
  have := byte_bits ((gb xs k).toNat ||| (mb m k).toNat) (by omega) (erased xs m) k fun t ht => by
    rw [bit_or, mb_bit m k t ht]
    unfold erased
    rw [hs_at xs k t ht]
  rw [this]
theorem prg_torn (xs ys m : List Int) (N n : Nat) : ofb n (prg xs ys m false N) = ofb n (torn xs ys m) := ofb_congr n fun i _ => by unfold prg torn; simp
theorem prg_failed (xs ys m : List Int) (N n : Nat) : ofb n (prg xs ys m true N) = ofb n (failed xs ys m N) := ofb_congr n fun i _ => by unfold prg failed; simp
/-- 'a & b' of what only clears -/
theorem and_sub (n : Nat) (xs : List Int) (c : Nat → Bool) (h : ∀ i, i < 8 * n → (c i && hs xs i) = c i) : andl (ofb n c) xs = ofb n c := by
  rw [andl_ofb _ _ (ofb_all n c), ofb_len]
  exact ofb_congr n fun i hi => by rw [hs_ofb n c i hi]; exact h i hi
/-- 'a & b' of what only sets -/
theorem and_sup (xs : List Int) (hx : AllB xs) (c : Nat → Bool) (h : ∀ i, i < 8 * xs.length → (c i && hs xs i) = hs xs i) : andl (ofb xs.length c) xs = xs := by
  rw [andl_ofb _ _ (ofb_all _ c), ofb_len]
  exact ofb_hs xs hx _ fun i hi => by rw [hs_ofb _ c i hi]; exact h i hi
/-- with an empty mask it is done whole -/
theorem torn_and (xs ys : List Int) (hx : AllB xs) : ofb xs.length (torn xs ys []) = andl xs ys := by
  rw [andl_ofb xs ys hx]
  exact ofb_congr _ fun i _ => torn_whole xs ys i
/-- one that fails does it whole only where there is nothing to do -/
theorem failed_and (xs ys m : List Int) (hx : AllB xs) : decide (ofb xs.length (failed xs ys m (8 * xs.length)) = andl xs ys) = decide (xs = andl xs ys) := by
  have key := failed_whole xs ys m (8 * xs.length)
  have h1 : ofb xs.length (failed xs ys m (8 * xs.length)) = andl xs ys ↔ ∀ i, i < 8 * xs.length → failed xs ys m (8 * xs.length) i = (hs xs i && hs ys i) := by
    rw [andl_ofb xs ys hx]
    exact ⟨fun h i hi => ofb_inj _ h i hi, fun h => ofb_congr _ h⟩
  have h2 : xs = andl xs ys ↔ ∀ i, i < 8 * xs.length → hs xs i = (hs xs i && hs ys i) := by
    rw [andl_ofb xs ys hx]
    constructor
    · intro h i hi
      have e := congrArg (fun l => hs l i) h
      simp only [hs_ofb _ _ i hi] at e
      exact e
    · intro h
      have := ofb_hs xs hx (fun i => hs xs i && hs ys i) fun i hi => (h i hi).symm
      exact this.symm
  rw [decide_eq_decide, h1, h2]
  exact key
end Go.Proofs.Ytnklbmeadjgehaa.fa
