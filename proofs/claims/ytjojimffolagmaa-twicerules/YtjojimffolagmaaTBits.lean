/- Sixteen bytes as a number; a number's bits in a row; what the reference leaves of a row. No claim of its own. -/
import Derived.Test.YtjojimffolagmaaTMath
import Derived.Test.YtjojimffolagmaaXor
namespace Go.Proofs.Ytjojimffolagmaa
open Go.RowKit

/-! ### sixteen bytes as a number, the least first -/
def B16 (b : List Int) : Prop := b.length = 16 ∧ AllB b
def nmk (xs : List Int) : Nat → Nat
  | 0 => 0
  | k + 1 => 2 ^ (8 * k) * (gb xs k).toNat + nmk xs k
def nm16 (xs : List Int) : Nat := nmk xs 16
theorem byte_lt {xs : List Int} (h : AllB xs) (i : Nat) : (gb xs i).toNat < 2 ^ 8 := by have := h i; omega
theorem nmk_lt (xs : List Int) (h : AllB xs) (k : Nat) : nmk xs k < 2 ^ (8 * k) := by
  induction k with
  | zero => simp [nmk]
  | succ k ih =>
    rw [nmk, show 8 * (k + 1) = 8 * k + 8 by omega, Nat.pow_add]
    have hb := byte_lt h k
    have h1 : 2 ^ (8 * k) * (gb xs k).toNat ≤ 2 ^ (8 * k) * (2 ^ 8 - 1) := Nat.mul_le_mul_left _ (by omega)
    rw [Nat.mul_sub, Nat.mul_one] at h1
    have h2 : 2 ^ (8 * k) ≤ 2 ^ (8 * k) * 2 ^ 8 := Nat.le_mul_of_pos_right _ (by decide)
    omega
theorem nm16_lt (xs : List Int) (h : AllB xs) : nm16 xs < 2 ^ 128 := nmk_lt xs h 16
theorem nmk_bit (xs : List Int) (h : AllB xs) (k i j : Nat) (hi : i < k) (hj : j < 8) : (nmk xs k).testBit (8 * i + j) = (gb xs i).toNat.testBit j := by
  induction k with
  | zero => omega
  | succ k ih =>
    rw [nmk, Nat.testBit_two_pow_mul_add _ (nmk_lt xs h k)]
    by_cases e : i < k
    · rw [if_pos (by omega), ih e]
    · have : i = k := by omega
      subst this
      rw [if_neg (by omega), show 8 * i + j - 8 * i = j by omega]
theorem nm_bit (xs : List Int) (h : AllB xs) (i j : Nat) (hi : i < 16) (hj : j < 8) : (nm16 xs).testBit (8 * i + j) = (gb xs i).toNat.testBit j := nmk_bit xs h 16 i j hi hj
/-- a number's sixteen bytes -/
def bt16 (n : Nat) : List Int := (List.range 16).map fun i => ((n / 2 ^ (8 * i) % 2 ^ 8 : Nat) : Int)
theorem bt16_len (n : Nat) : (bt16 n).length = 16 := by simp [bt16]
theorem bt16_gb (n i : Nat) (h : i < 16) : gb (bt16 n) i = ((n / 2 ^ (8 * i) % 2 ^ 8 : Nat) : Int) := by simp [bt16, gb, List.getD, h]
theorem bt16_all (n : Nat) : AllB (bt16 n) := allB_mem fun x hx => by
  obtain ⟨i, _, rfl⟩ := List.mem_map.1 hx
  have := Nat.mod_lt (n / 2 ^ (8 * i)) (show 0 < 2 ^ 8 by decide)
  omega
theorem bt16_b (n : Nat) : B16 (bt16 n) := ⟨bt16_len n, bt16_all n⟩
theorem part_bit (n i j : Nat) (hj : j < 8) : (n / 2 ^ (8 * i) % 2 ^ 8).testBit j = n.testBit (8 * i + j) := by
  rw [Nat.testBit_mod_two_pow, Nat.testBit_div_two_pow]
  simp [hj, Nat.add_comm]
theorem high_bit {n t : Nat} (h : n < 2 ^ 128) (ht : 128 ≤ t) : n.testBit t = false := Nat.testBit_lt_two_pow (Nat.lt_of_lt_of_le h (Nat.pow_le_pow_right (by omega) ht))
theorem eq128 {a b : Nat} (ha : a < 2 ^ 128) (hb : b < 2 ^ 128) (h : ∀ i j, i < 16 → j < 8 → a.testBit (8 * i + j) = b.testBit (8 * i + j)) : a = b := by
  apply Nat.eq_of_testBit_eq
  intro t
  by_cases ht : t < 128
  · have := h (t / 8) (t % 8) (by omega) (by omega)
    rwa [show 8 * (t / 8) + t % 8 = t by omega] at this
  · rw [high_bit ha (by omega), high_bit hb (by omega)]
theorem nm_bt (n : Nat) (h : n < 2 ^ 128) : nm16 (bt16 n) = n := eq128 (nm16_lt _ (bt16_all n)) h fun i j hi hj => by
  rw [nm_bit _ (bt16_all n) i j hi hj, bt16_gb n i hi, Int.toNat_natCast, part_bit n i j hj]
theorem byte_of (xs : List Int) (h : AllB xs) (i : Nat) (hi : i < 16) : nm16 xs / 2 ^ (8 * i) % 2 ^ 8 = (gb xs i).toNat := by
  apply Nat.eq_of_testBit_eq
  intro j
  by_cases hj : j < 8
  · rw [part_bit _ i j hj, nm_bit xs h i j hi hj]
  · rw [Nat.testBit_mod_two_pow, Nat.testBit_lt_two_pow (Nat.lt_of_lt_of_le (byte_lt h i) (Nat.pow_le_pow_right (by omega) (by omega)))]
    simp [hj]
theorem bt_nm (xs : List Int) (h : B16 xs) : bt16 (nm16 xs) = xs := ext_gb (by rw [bt16_len, h.1]) fun t ht => by
  rw [bt16_len] at ht
  rw [bt16_gb _ _ ht, byte_of xs h.2 t ht]
  have := h.2 t
  omega
theorem nm_only (xs ys : List Int) (hx : B16 xs) (hy : B16 ys) (h : nm16 xs = nm16 ys) : xs = ys := by rw [← bt_nm xs hx, ← bt_nm ys hy, h]
theorem nm_xor (xs ys : List Int) (hx : B16 xs) (hy : B16 ys) : nm16 (xorl xs ys) = nm16 xs ^^^ nm16 ys := by
  have hl : xs.length = ys.length := by rw [hx.1, hy.1]
  have ha := xorl_all xs ys hl hx.2 hy.2
  refine eq128 (nm16_lt _ ha) (xor_lt128 _ _ (nm16_lt _ hx.2) (nm16_lt _ hy.2)) fun i j hi hj => ?_
  rw [nm_bit _ ha i j hi hj, xorl_gb xs ys hl i (by rw [hx.1]; exact hi), Nat.testBit_xor, nm_bit _ hx.2 i j hi hj, nm_bit _ hy.2 i j hi hj]
  simp [xr, Nat.testBit_xor]

/-! ### bits in a row -/
def b01 (c : Bool) : Int := if c then 1 else 0
def cf (L n : Nat) : List Int := (List.range L).map fun t => b01 (n.testBit t)
theorem cf_len (L n : Nat) : (cf L n).length = L := by simp [cf]
theorem cf_gb (L n t : Nat) (h : t < L) : gb (cf L n) t = b01 (n.testBit t) := by simp [cf, gb, List.getD, h]
theorem set_gb (xs : List Int) (i t : Nat) (x : Int) (h : t < xs.length) : gb (xs.set i x) t = if i = t then x else gb xs t := by
  by_cases e : i = t
  · subst e; simp [gb, List.getD, h]
  · simp [gb, List.getD, e]
/-- one bit xored -/
theorem cf_set (L n t : Nat) (c : Bool) : (cf L n).set t (b01 (n.testBit t ^^ c)) = cf L (n ^^^ sel c (2 ^ t)) := ext_gb (by simp [cf]) fun i hi => by
  rw [List.length_set, cf_len] at hi
  rw [set_gb _ _ _ _ (by rw [cf_len]; exact hi), cf_gb _ _ _ hi, cf_gb _ _ _ hi, Nat.testBit_xor]
  cases c
  · simp only [sel, cond_false, Nat.zero_testBit, Bool.xor_false]
    by_cases e : t = i
    · subst e; simp
    · rw [if_neg e]
  · simp only [sel, cond_true]
    by_cases e : t = i
    · subst e; simp [Nat.testBit_two_pow_self]
    · rw [if_neg e, Nat.testBit_two_pow_of_ne e, Bool.xor_false]
/-- one bit turned -/
theorem cf_flip (L n t : Nat) : (cf L n).set t (1 - b01 (n.testBit t)) = cf L (n ^^^ 2 ^ t) := by
  have := cf_set L n t true
  have e : b01 (n.testBit t ^^ true) = 1 - b01 (n.testBit t) := by cases n.testBit t <;> rfl
  rw [e] at this
  simpa [sel] using this
/-- as 'a + x*y modulo 2' -/
theorem cf_mac (L n t : Nat) (p q : Bool) : (cf L n).set t ((b01 (n.testBit t) + b01 p * b01 q) % 2) = cf L (n ^^^ sel (p && q) (2 ^ t)) := by
  have := cf_set L n t (p && q)
  have e : b01 (n.testBit t ^^ (p && q)) = (b01 (n.testBit t) + b01 p * b01 q) % 2 := by cases n.testBit t <;> cases p <;> cases q <;> rfl
  rwa [e] at this

/-! ### what is left -/
/-- bit i (128 or more) taken off -/
def rs (N i : Nat) : Nat := N ^^^ sel (N.testBit i) (135 * 2 ^ (i - 128))
theorem rs_xor (a b i : Nat) : rs (a ^^^ b) i = rs a i ^^^ rs b i := by
  unfold rs
  rw [Nat.testBit_xor, sel_xor', xor_four]
/-- the four bits that are turned -/
theorem four_bits (N k : Nat) : ((N ^^^ 2 ^ k) ^^^ 2 ^ (k + 1)) ^^^ 2 ^ (k + 2) ^^^ 2 ^ (k + 7) = N ^^^ 135 * 2 ^ k := by
  have e : 135 * 2 ^ k = ((2 ^ k ^^^ 2 ^ (k + 1)) ^^^ 2 ^ (k + 2)) ^^^ 2 ^ (k + 7) := by
    apply Nat.eq_of_testBit_eq
    intro i
    have h135 : ∀ j, (135 : Nat).testBit j = decide (j = 0 ∨ j = 1 ∨ j = 2 ∨ j = 7) := fun j => by
      by_cases hj : j < 8
      · have : ∀ j, j < 8 → (135 : Nat).testBit j = decide (j = 0 ∨ j = 1 ∨ j = 2 ∨ j = 7) := by decide
        exact this j hj
      · rw [Nat.testBit_lt_two_pow (Nat.lt_of_lt_of_le (show 135 < 2 ^ 8 by decide) (Nat.pow_le_pow_right (by omega) (by omega)))]
        symm; simp; omega
    rw [Nat.mul_comm, Nat.testBit_two_pow_mul, Nat.testBit_xor, Nat.testBit_xor, Nat.testBit_xor, Nat.testBit_two_pow, Nat.testBit_two_pow, Nat.testBit_two_pow, Nat.testBit_two_pow, h135]
    by_cases c0 : k = i
    · subst c0; simp
    · by_cases c1 : k + 1 = i
      · subst c1; simp
      · by_cases c2 : k + 2 = i
        · subst c2; simp
        · by_cases c7 : k + 7 = i
          · subst c7; simp
          · simp [c0, c1, c2, c7]
            omega
  rw [e]
  simp only [Nat.xor_assoc]
/-- bits from 128 + m - 1 down to 128 taken off -/
def lf (N : Nat) : Nat → Nat
  | 0 => N
  | m + 1 => lf (rs N (128 + m)) m
theorem lf_xor (a b m : Nat) : lf (a ^^^ b) m = lf a m ^^^ lf b m := by
  induction m generalizing a b with
  | zero => rfl
  | succ m ih => rw [lf, lf, lf, rs_xor, ih]
def lft (N m : Nat) : Nat := lf N m % 2 ^ 128
theorem mod_xor (a b n : Nat) : (a ^^^ b) % 2 ^ n = a % 2 ^ n ^^^ b % 2 ^ n := by
  apply Nat.eq_of_testBit_eq
  intro i
  rw [Nat.testBit_xor, Nat.testBit_mod_two_pow, Nat.testBit_mod_two_pow, Nat.testBit_mod_two_pow, Nat.testBit_xor]
  by_cases h : i < n <;> simp [h]
theorem lft_xor (a b m : Nat) : lft (a ^^^ b) m = lft a m ^^^ lft b m := by unfold lft; rw [lf_xor, mod_xor]
theorem lf_zero (m : Nat) : lf 0 m = 0 := by
  induction m with
  | zero => rfl
  | succ m ih => rw [lf]; simpa [rs, sel] using ih
theorem lft_zero (m : Nat) : lft 0 m = 0 := by unfold lft; simp [lf_zero]
theorem lf_low (N m : Nat) (h : N < 2 ^ 128) : lf N m = N := by
  induction m with
  | zero => rfl
  | succ m ih =>
    have e : rs N (128 + m) = N := by unfold rs; rw [high_bit h (by omega)]; simp [sel]
    rw [lf, e, ih]
theorem lft_low (N m : Nat) (h : N < 2 ^ 128) : lft N m = N := by unfold lft; rw [lf_low N m h, Nat.mod_eq_of_lt h]
/-- doubling: one bit too many -/
theorem lft_one (n : Nat) : lft (2 * n) 1 = td n := by
  unfold lft
  show rs (2 * n) 128 % 2 ^ 128 = td n
  unfold rs td
  rw [mod_xor, two_bit n 127]
  cases n.testBit 127 <;> simp [sel]
/-- what agrees on every bit agrees -/
theorem by_bits (f g : Nat → Nat) (hf : ∀ a b, f (a ^^^ b) = f a ^^^ f b) (hg : ∀ a b, g (a ^^^ b) = g a ^^^ g b) (n : Nat) (h : ∀ t, t < n → f (2 ^ t) = g (2 ^ t)) : ∀ N, N < 2 ^ n → f N = g N := by
  have f0 : f 0 = 0 := by have := hf 0 0; simpa using this
  have g0 : g 0 = 0 := by have := hg 0 0; simpa using this
  induction n with
  | zero => intro N hN; have : N = 0 := by omega
            subst this; rw [f0, g0]
  | succ n ih =>
    intro N hN
    by_cases hb : N.testBit n = true
    · have e : N = (N ^^^ 2 ^ n) ^^^ 2 ^ n := by rw [Nat.xor_assoc, Nat.xor_self, Nat.xor_zero]
      have hlt : N ^^^ 2 ^ n < 2 ^ n := by
        apply Nat.lt_pow_two_of_testBit
        intro i hi
        rw [Nat.testBit_xor]
        by_cases c : i = n
        · subst c; rw [hb, Nat.testBit_two_pow_self]; rfl
        · rw [Nat.testBit_lt_two_pow (Nat.lt_of_lt_of_le hN (Nat.pow_le_pow_right (by omega) (by omega))), Nat.testBit_two_pow_of_ne (by omega)]; rfl
      rw [e, hf, hg, ih (fun t ht => h t (by omega)) _ hlt, h n (by omega)]
    · have hlt : N < 2 ^ n := by
        apply Nat.lt_pow_two_of_testBit
        intro i hi
        by_cases c : i = n
        · subst c; simpa using hb
        · exact Nat.testBit_lt_two_pow (Nat.lt_of_lt_of_le hN (Nat.pow_le_pow_right (by omega) (by omega)))
      exact ih (fun t ht => h t (by omega)) N hlt
theorem dbl_plain (a b : Nat) : 2 * (a ^^^ b) = 2 * a ^^^ 2 * b := by
  apply Nat.eq_of_testBit_eq
  intro i
  rw [Nat.testBit_xor]
  cases i with
  | zero => simp
  | succ i => rw [two_bit, two_bit, two_bit, Nat.testBit_xor]
end Go.Proofs.Ytjojimffolagmaa
