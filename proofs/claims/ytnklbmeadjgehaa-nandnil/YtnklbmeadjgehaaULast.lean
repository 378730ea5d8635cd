/- What fault's lastToClear answers: the last bit that is to be cleared. No claim of its own. -/
import Derived.Test.YtnklbmeadjgehaaULen
namespace Go.Proofs.Ytnklbmeadjgehaa.fa
open Go.RowKit
set_option maxRecDepth 20000

theorem bit_not : ∀ y, y < 256 → ∀ t, t < 8 → bit (255 - y) t = !bit y t := by decide +kernel
theorem bit_and (a b t : Nat) : bit (a &&& b) t = (bit a t && bit b t) := by rw [bit_test, bit_test, bit_test, Nat.testBit_and]
theorem bit_or (a b t : Nat) : bit (a ||| b) t = (bit a t || bit b t) := by rw [bit_test, bit_test, bit_test, Nat.testBit_or]
theorem bit_zero (t : Nat) : bit 0 t = false := by unfold bit; simp
theorem bit_pow : ∀ k, k < 8 → ∀ t, t < 8 → bit (2 ^ k) t = decide (t = k) := by decide +kernel
theorem tc_bit (xs ys : List Int) (hy : AllB ys) (j t : Nat) (ht : t < 8) : bit (tc xs ys j).toNat t = due xs ys (8 * j + t) := by
  have b := hy j
  unfold tc due
  rw [Int.toNat_natCast, bit_and, bit_not _ (by omega) t ht, hs_at xs j t ht, hs_at ys j t ht]
theorem lst_eq (xs ys : List Int) (N p : Nat) (hp : p < N) (hd : due xs ys p = true) (h : ∀ k, p < k → k < N → due xs ys k = false) : lst xs ys N = p + 1 := by
  induction N with
  | zero => omega
  | succ N ih =>
    unfold lst
    by_cases e : p = N
    · subst e; rw [if_pos hd]
    · rw [if_neg (by rw [h N (by omega) (by omega)]; simp), ih (by omega) (fun k h1 h2 => h k h1 (by omega))]
theorem lst_none (xs ys : List Int) (N : Nat) (h : ∀ k, k < N → due xs ys k = false) : lst xs ys N = 0 := by
  induction N with
  | zero => rfl
  | succ N ih =>
    unfold lst
    rw [if_neg (by rw [h N (by omega)]; simp), ih (fun k hk => h k (by omega))]
/-- the last bit that is to be cleared is bit t of byte p, and z is it; or there is none -/
def IsL (xs ys : List Int) (p z : Nat) : Prop := (p = 0 ∧ z = 0 ∧ lst xs ys (8 * xs.length) = 0) ∨ ∃ t, t < 8 ∧ p < xs.length ∧ z = 2 ^ t ∧ lst xs ys (8 * xs.length) = 8 * p + t + 1
theorem isL_some (xs ys : List Int) (hx : AllB xs) (hy : AllB ys) (p x : Nat) (hp : p < xs.length) (hx0 : tc xs ys p = x) (h0 : 0 < x) (h : ∀ q, 8 * (p + 1) ≤ q → q < 8 * xs.length → due xs ys q = false) : IsL xs ys p (2 ^ (ln x - 1)) := by
  have hb := tc_bd xs ys hx p
  obtain ⟨l1, l2, l3, l4⟩ := ln_top x (by omega) h0
  have hbit : ∀ t, t < 8 → due xs ys (8 * p + t) = bit x t := fun t ht => by rw [← tc_bit xs ys hy p t ht, hx0, Int.toNat_natCast]
  refine Or.inr ⟨ln x - 1, by omega, hp, rfl, lst_eq xs ys _ _ (by omega) (by rw [hbit _ (by omega)]; exact l3) fun k h1 h2 => ?_⟩
  by_cases hk : 8 * (p + 1) ≤ k
  · exact h k hk h2
  · have e : k = 8 * p + (k - 8 * p) := by omega
    rw [e, hbit _ (by omega)]
    exact l4 _ (by omega) (by omega)
theorem due_byte (xs ys : List Int) (hy : AllB ys) (p : Nat) (h0 : tc xs ys p = 0) (q : Nat) (h1 : 8 * p ≤ q) (h2 : q < 8 * (p + 1)) : due xs ys q = false := by
  have := tc_bit xs ys hy p (q - 8 * p) (by omega)
  rw [h0, show (0 : Int).toNat = 0 from rfl, bit_zero, show 8 * p + (q - 8 * p) = q by omega] at this
  exact this.symm
theorem pow_ln (x : Nat) (h : 0 < x) (hx : x < 256) : 2 ^ (ln x - 1) ≤ 128 := by
  obtain ⟨l1, l2, -⟩ := ln_top x hx h
  exact Nat.pow_le_pow_right (by omega) (show ln x - 1 ≤ 7 by omega)

set_option maxHeartbeats 2000000 in
theorem last_any (va vb : Value) (xs ys : List Int) (w : World) (ha : Byt w va xs) (hb : Byt w vb ys) (hl : xs.length = ys.length) :
    Calls Try.prog 91 #[va, vb] w fun e w' => ∃ p z : Nat, e = .returned (.tuple #[.int .i64 p, .int .u8 z]) ∧ IsL xs ys p z ∧ ∃ n, w' = w.drewN n := by
  have HX : Hid (AllB xs ∧ AllB ys) := ⟨ha.all, hb.all⟩
  have S1 : Hid (∀ n i, i < xs.length → Calls Try.prog 96 #[va, vb, .int .i64 i] (w.drewN n) fun e w' => e = .returned (.int .u8 (tc xs ys i)) ∧ ∃ m, w' = (w.drewN n).drewN m) := fun n i hi => toClear_any va vb xs ys i _ (byt_drawn ha n) (byt_drawn hb n) hl hi
  have S2 : Hid (∀ (x : Nat) w0, x < 256 → Calls Try.prog 97 #[.int .u8 x] w0 fun e w' => e = .returned (.int .i64 (ln x)) ∧ w' = w0) := fun x w0 h => len8_any x w0 h
  obtain ⟨ao, ca, rfl, ha1, ha2, -⟩ := ha
  clear hb hl
  go_enter Try.func91, Try.ntmps91
  go_wp2
  go_loopw [6] (fun i wr => ∃ k n : Nat, k ≤ xs.length ∧ i = .int .i64 ((k : Int) - 1) ∧ Hid (∀ q, 8 * k ≤ q → q < 8 * xs.length → due xs ys q = false) ∧ wr = w.drewN n) (fun i _ => (intOf i + 1).toNat)
  case atStart => exact ⟨xs.length, 0, Nat.le_refl _, by go_num, fun q h1 h2 => by omega, rfl⟩
  case round =>
    obtain ⟨k, n, hk, rfl, HK, rfl⟩ := hrel
    rcases Nat.eq_zero_or_pos k with h0 | hp
    · subst h0
      go_wp2
      go_ret2
      exact ⟨0, 0, rfl, Or.inl ⟨rfl, rfl, lst_none _ _ _ fun q hq => HK.out q (by omega) hq⟩, n, rfl⟩
    · obtain ⟨p, rfl⟩ : ∃ p, k = p + 1 := ⟨k - 1, by omega⟩
      have e1 : (((p + 1 : Nat) : Int) - 1) = (p : Int) := by omega
      rw [e1]
      have tb := tc_bd xs ys HX.out.1 p
      obtain ⟨x, hx⟩ : ∃ x : Nat, tc xs ys p = x := ⟨(tc xs ys p).toNat, by omega⟩
      have xb : x < 256 := by omega
      have S3 : Hid (Calls Try.prog 96 #[.slice ao xs.length ca, vb, .int .i64 p] (w.drewN n) fun e w' => e = .returned (.int .u8 x) ∧ ∃ m, w' = (w.drewN n).drewN m) := by rw [← hx]; exact S1.out n p (by omega)
      have HXX : Hid (tc xs ys p = x) := hx
      have p0 : (0 : Int) ≤ (p : Int) := by omega
      have q1 : IntKind.i64.wrap (p : Int) = p := by rw [IntKind.wrap_i64]; omega
      clear hx tb e1
      by_cases hz : x = 0
      · subst hz
        go_wp2_with (go_at_call 96; refine S3.out.mono ?_; rintro e w2 ⟨rfl, nn, hw⟩; obtain rfl := hw.symm)
        go_roundw
        case rel => exact ⟨p, n + nn, by omega, by go_num, fun q h1 h2 => if h : 8 * (p + 1) ≤ q then HK.out q h h2 else due_byte xs ys HX.out.2 p HXX.out q h1 (by omega), rfl⟩
        case measure => simp [intOf]
      · have xn : ((x : Int) != 0) = true := by simpa using (show (x : Int) ≠ 0 by omega)
        have S4 : Hid (∀ w0, Calls Try.prog 97 #[.int .u8 x] w0 fun e w' => e = .returned (.int .i64 (ln x)) ∧ w' = w0) := fun w0 => S2.out x w0 xb
        obtain ⟨l1, l2, -, -⟩ := ln_top x xb (by omega)
        obtain ⟨t, ht⟩ : ∃ t, ln x = t + 1 := ⟨ln x - 1, by omega⟩
        have HT : Hid (ln x = t + 1) := ht
        rw [ht] at S4
        have t7 : t ≤ 7 := by omega
        have r1 : IntKind.i64.wrap (((t + 1 : Nat) : Int) - 1) = t := by rw [IntKind.wrap_i64]; omega
        have t0 : (0 : Int) ≤ (t : Int) := by omega
        have z2 : 2 ^ t ≤ 128 := Nat.pow_le_pow_right (by omega) (show t ≤ 7 by omega)
        clear ht l1 l2
        go_wp2_with (go_at_call 96; refine S3.out.mono ?_; rintro e w2 ⟨rfl, nn, hw⟩; obtain rfl := hw.symm)
        obtain ⟨wz, hwz⟩ : ∃ wz, wz = w.drewN (n + nn) := ⟨_, rfl⟩
        have HW : Hid (wz = w.drewN (n + nn)) := hwz
        rw [← hwz]
        clear hwz
        go_quiet ((go_at_call 97; exact Calls.quiet_of_same (S4.out _)))
        go_wp2
        go_ret2
        refine ⟨p, 2 ^ t, ?_, ?_, n + nn + nq, ?_⟩
        · have e2 : (2 : Int) ^ t % 256 = ((2 ^ t : Nat) : Int) := by
            rw [show (2 : Int) ^ t = ((2 ^ t : Nat) : Int) by simp]
            generalize 2 ^ t = q at *
            omega
          rw [e2]
          rfl
        · have := isL_some xs ys HX.out.1 HX.out.2 p x (by omega) HXX.out (by omega) HK.out
          rwa [HT.out, Nat.add_sub_cancel] at this
        · rw [HW.out, World.drewN_drewN]
end Go.Proofs.Ytnklbmeadjgehaa.fa
