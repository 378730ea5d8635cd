/- What fault's lastToClear answers: the last bit that is to be cleared. No claim of its own. -/
import Derived.Test.YtpmakkjcpoillaaDoorULen
namespace Go.Proofs.YtpmakkjcpoillaaDoor.fa
open Go.RowKit
set_option maxRecDepth 20000

theorem bit_not : ∀ y, y < 256 → ∀ t, t < 8 → bit (255 - y) t = !bit y t := by decide +kernel
theorem bit_and (a b t : Nat) : bit (a &&& b) t = (bit a t && bit b t) := by rw [bit_test, bit_test, bit_test, Nat.testBit_and]
theorem bit_or (a b t : Nat) : bit (a ||| b) t = (bit a t || bit b t) := by rw [bit_test, bit_test, bit_test, Nat.testBit_or]
theorem bit_zero (t : Nat) : bit 0 t = false := by unfold bit; simp
theorem bit_pow : ∀ k, k < 8 → ∀ t, t < 8 → bit (2 ^ k) t = decide (t = k) := by decide +kernel
theorem tc_bit (xs ys : List Int) (hy : AllB ys) (j t : Nat) (ht : t < 8) : bit (tc xs ys j).toNat t = due xs ys (8 * j + t) := by
  have b := hy j
  unfold tc due
  rw [Int.toNat_natCast, bit_and, bit_not _ (by omega) t ht, hs_at xs j t ht, hs_at ys j t ht]
theorem lst_eq (xs ys : List Int) (N p : Nat) (hp : p < N) (hd : due xs ys p = true) (h : ∀ k, p < k → k < N → due xs ys k = false) : lst xs ys N = p + 1 := by
  induction N with
  | zero => omega
  | succ N ih =>
    unfold lst
    by_cases e : p = N
    · subst e; rw [if_pos hd]
    · rw [if_neg (by rw [h N (by omega) (by omega)]; simp), ih (by omega) (fun k h1 h2 => h k h1 (by omega))]
theorem lst_none (xs ys : List Int) (N : Nat) (h : ∀ k, k < N → due xs ys k = false) : lst xs ys N = 0 := by
  induction N with
  | zero => rfl
  | succ N ih =>
    unfold lst
    rw [if_neg (by rw [h N (by omega)]; simp), ih (fun k hk => h k (by omega))]
/-- the last bit that is to be cleared is bit t of byte p, and z is it; or there is none -/
def IsL (xs ys : List Int) (p z : Nat) : Prop := (p = 0 ∧ z = 0 ∧ lst xs ys (8 * xs.length) = 0) ∨ ∃ t, t < 8 ∧ p < xs.length ∧ z = 2 ^ t ∧ lst xs ys (8 * xs.length) = 8 * p + t + 1
theorem isL_some (xs ys : List Int) (hx : AllB xs) (hy : AllB ys) (p x : Nat) (hp : p < xs.length) (hx0 : tc xs ys p = x) (h0 : 0 < x) (h : ∀ q, 8 * (p + 1) ≤ q → q < 8 * xs.length → due xs ys q = false) : IsL xs ys p (2 ^ (ln x - 1)) := by
  have hb := tc_bd xs ys hx p
  obtain ⟨l1, l2, l3, l4⟩ := ln_top x (by omega) h0
  have hbit : ∀ t, t < 8 → due xs ys (8 * p + t) = bit x t := fun t ht => by rw [← tc_bit xs ys hy p t ht, hx0, Int.toNat_natCast]
  refine Or.inr ⟨ln x - 1, by omega, hp, rfl, lst_eq xs ys _ _ (by omega) (by rw [hbit _ (by omega)]; exact l3) fun k h1 h2 => ?_⟩
  by_cases hk : 8 * (p + 1) ≤ k
  · exact h k hk h2
  · have e : k = 8 * p + (k - 8 * p) := by omega
    rw [e, hbit _ (by omega)]
    exact l4 _ (by omega) (by omega)
theorem due_byte (xs ys : List Int) (hy : AllB ys) (p : Nat) (h0 : tc xs ys p = 0) (q : Nat) (h1 : 8 * p ≤ q) (h2 : q < 8 * (p + 1)) : due xs ys q = false := by
  have := tc_bit xs ys hy p (q - 8 * p) (by omega)
  rw [h0, show (0 : Int).toNat = 0 from rfl, bit_zero, show 8 * p + (q - 8 * p) = q by omega] at this
  exact this.symm
theorem pow_ln (x : Nat) (h : 0 < x) (hx : x < 256) : 2 ^ (ln x - 1) ≤ 128 := by
  obtain ⟨l1, l2, -⟩ := ln_top x hx h
  exact Nat.pow_le_pow_right (by omega) (show ln x - 1 ≤ 7 by omega)
end Go.Proofs.YtpmakkjcpoillaaDoor.fa
