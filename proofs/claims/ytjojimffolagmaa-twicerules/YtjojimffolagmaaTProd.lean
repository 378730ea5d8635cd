/- The reference's product of two rows of bits: that it is the product. No claim of its own. -/
import Derived.Test.YtjojimffolagmaaTBits
namespace Go.Proofs.Ytjojimffolagmaa
open Go.RowKit

theorem lft_bits : ∀ t, t < 255 → lft (2 * 2 ^ t) 128 = td (lft (2 ^ t) 128) := by decide +kernel
theorem lft_dbl (N : Nat) (h : N < 2 ^ 255) : lft (2 * N) 128 = td (lft N 128) :=
  by_bits (fun N => lft (2 * N) 128) (fun N => td (lft N 128)) (fun a b => by rw [dbl_plain, lft_xor]) (fun a b => by rw [lft_xor, td_xor]) 255 lft_bits N h
theorem lft_shift (y i : Nat) (hy : y < 2 ^ 128) (hi : i ≤ 127) : lft (2 ^ i * y) 128 = tdn y i := by
  induction i with
  | zero => rw [Nat.pow_zero, Nat.one_mul, lft_low y 128 hy]; rfl
  | succ i ih =>
    have e : 2 ^ (i + 1) * y = 2 * (2 ^ i * y) := by rw [Nat.pow_succ, Nat.mul_comm (2 ^ i) 2, Nat.mul_assoc]
    have hlt : 2 ^ i * y < 2 ^ 255 := by
      have h1 : 2 ^ i * y < 2 ^ i * 2 ^ 128 := Nat.mul_lt_mul_of_pos_left hy (Nat.two_pow_pos i)
      rw [← Nat.pow_add] at h1
      exact Nat.lt_of_lt_of_le h1 (Nat.pow_le_pow_right (by omega) (by omega))
    rw [e, lft_dbl _ hlt, ih (by omega), tdn]

/-- the first i bits of x, times y, without carries -/
def cl (x y : Nat) : Nat → Nat
  | 0 => 0
  | i + 1 => cl x y i ^^^ sel (x.testBit i) (2 ^ i * y)
/-- and the first j bits of y beside the next one of x -/
def clj (x y i j : Nat) : Nat := cl x y i ^^^ sel (x.testBit i) (2 ^ i * (y % 2 ^ j))
theorem clj_zero (x y i : Nat) : clj x y i 0 = cl x y i := by
  unfold clj
  rw [Nat.pow_zero, Nat.mod_one, Nat.mul_zero]
  cases x.testBit i <;> simp [sel]
theorem clj_end (x y i n : Nat) (h : y < 2 ^ n) : clj x y i n = cl x y (i + 1) := by
  unfold clj
  rw [Nat.mod_eq_of_lt h]
  rfl
theorem mod_next (y j : Nat) : y % 2 ^ (j + 1) = (y % 2 ^ j) ^^^ sel (y.testBit j) (2 ^ j) := by
  apply Nat.eq_of_testBit_eq
  intro i
  rw [Nat.testBit_xor, Nat.testBit_mod_two_pow, Nat.testBit_mod_two_pow]
  by_cases e : i = j
  · subst e
    cases h : y.testBit i <;> simp [sel, Nat.testBit_two_pow_self]
  · have : (sel (y.testBit j) (2 ^ j)).testBit i = false := by
      cases y.testBit j
      · simp [sel]
      · simp [sel, Nat.testBit_two_pow_of_ne (fun h => e h.symm)]
    rw [this, Bool.xor_false]
    by_cases h : i < j
    · simp [h, show i < j + 1 by omega]
    · simp [h, show ¬ i < j + 1 by omega]
theorem shl_xor (i a b : Nat) : 2 ^ i * (a ^^^ b) = 2 ^ i * a ^^^ 2 ^ i * b := by
  apply Nat.eq_of_testBit_eq
  intro t
  rw [Nat.testBit_xor, Nat.testBit_two_pow_mul, Nat.testBit_two_pow_mul, Nat.testBit_two_pow_mul, Nat.testBit_xor]
  by_cases h : t ≥ i <;> simp [h]
/-- one more -/
theorem clj_next (x y i j : Nat) : clj x y i (j + 1) = clj x y i j ^^^ sel (x.testBit i && y.testBit j) (2 ^ (i + j)) := by
  unfold clj
  rw [mod_next, shl_xor, Nat.xor_assoc]
  congr 1
  cases x.testBit i <;> cases y.testBit j <;> simp [sel, Nat.pow_add]
theorem tgf_sum (n a b : Nat) : ∀ k, k ≤ n → tgf n a b = (tgf k a b) ^^^ tgf (n - k) (tdn a k) (b / 2 ^ k) := by
  induction n generalizing a b with
  | zero =>
    intro k hk
    have : k = 0 := by omega
    subst this
    simp [tgf, tdn]
  | succ n ih =>
    intro k hk
    cases k with
    | zero => simp [tgf, tdn]
    | succ k =>
      rw [tgf, tgf, ih (td a) (b / 2) k (by omega), Nat.xor_assoc, show n + 1 - (k + 1) = n - k by omega, tdn_td, tdn, Nat.div_div_eq_div_mul, Nat.pow_succ, Nat.mul_comm 2]
theorem tgf_snoc (k a b : Nat) : tgf (k + 1) a b = tgf k a b ^^^ sel (b.testBit k) (tdn a k) := by
  rw [tgf_sum (k + 1) a b k (by omega), show k + 1 - k = 1 by omega, tgf, tgf, Nat.xor_zero, Nat.testBit_div_two_pow, Nat.zero_add]
/-- what is left of the product of rows is the product -/
theorem lft_cl (x y k : Nat) (hy : y < 2 ^ 128) (hk : k ≤ 128) : lft (cl x y k) 128 = tgf k y x := by
  induction k with
  | zero => exact lft_zero 128
  | succ k ih =>
    rw [cl, lft_xor, ih (by omega), tgf_snoc]
    congr 1
    cases x.testBit k
    · simp [sel, lft_zero]
    · simp only [sel, cond_true]; exact lft_shift y k hy (by omega)
theorem lft_mul (x y : Nat) (hx : x < 2 ^ 128) (hy : y < 2 ^ 128) : lft (cl x y 128) 128 = tp x y := by
  rw [lft_cl x y 128 hy (Nat.le_refl _), tp_comm x y hx hy]
  rfl
theorem cl_lt (x y k : Nat) (hy : y < 2 ^ 128) (hk : k ≤ 128) : cl x y k < 2 ^ 256 := by
  induction k with
  | zero => exact Nat.two_pow_pos 256
  | succ k ih =>
    refine Nat.xor_lt_two_pow (ih (by omega)) (sel_lt _ _ _ ?_)
    have h1 : 2 ^ k * y < 2 ^ k * 2 ^ 128 := Nat.mul_lt_mul_of_pos_left hy (Nat.two_pow_pos k)
    rw [← Nat.pow_add] at h1
    exact Nat.lt_of_lt_of_le h1 (Nat.pow_le_pow_right (by omega) (by omega))
end Go.Proofs.Ytjojimffolagmaa
