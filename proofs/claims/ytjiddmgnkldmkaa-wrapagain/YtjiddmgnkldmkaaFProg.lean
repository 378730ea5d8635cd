/- What field's Times, Mul, Pow and Inv answer. No claim of its own. -/
import Derived.Test.YtjiddmgnkldmkaaFMath
import Derived.Deep.RegionWith
namespace Go.Proofs.Ytjiddmgnkldmkaa
open Go.RowKit

theorem and128 : ∀ a : Nat, a < 256 → bits .and .u8 (a : Int) 128 = if a.testBit 7 then 128 else 0 := by decide +kernel
theorem tm_hi : ∀ a : Nat, a < 256 → a.testBit 7 = true → bits .xor .u8 ((a : Int) * 2 % 256) 27 = (tm a : Int) := by decide +kernel
theorem tm_lo : ∀ a : Nat, a < 256 → a.testBit 7 = false → (a : Int) * 2 % 256 = (tm a : Int) := by decide +kernel
theorem and1 : ∀ a : Nat, a < 256 → bits .and .u8 (a : Int) 1 = if a.testBit 0 then 1 else 0 := by decide +kernel

set_option maxHeartbeats 1000000 in
theorem times_any (a : Nat) (w : World) (ha : a < 256) :
    Calls Try.prog 80 #[.int .u8 a] w fun e w' => e = .returned (.int .u8 (tm a)) ∧ w' = w := by
  have HA : Hid (a < 256) := ha
  have h1 := and128 a ha
  have hb : 0 ≤ (a : Int) ∧ (a : Int) ≤ 255 := by omega
  cases hc : a.testBit 7 with
  | true =>
    rw [hc, if_pos rfl] at h1
    have HC : Hid (a.testBit 7 = true) := hc
    clear hc
    go_enter Try.func80, Try.ntmps80
    go_wp2
    go_ret
    exact ⟨ret_int (tm_hi a HA.out HC.out), rfl⟩
  | false =>
    rw [hc, if_neg (by decide)] at h1
    have HC : Hid (a.testBit 7 = false) := hc
    clear hc
    go_enter Try.func80, Try.ntmps80
    go_wp2
    go_ret
    exact ⟨ret_int (tm_lo a HA.out HC.out), rfl⟩

set_option maxHeartbeats 1000000 in
theorem mul_any (a b : Nat) (w : World) (ha : a < 256) (hb : b < 256) :
    Calls Try.prog 79 #[.int .u8 a, .int .u8 b] w fun e w' => e = .returned (.int .u8 (gm a b)) ∧ w' = w := by
  have HA : Hid (a < 256) := ha
  have HB : Hid (b < 256) := hb
  clear ha hb
  go_enter Try.func79, Try.ntmps79
  go_wp2
  go_loop [0, 1, 5] (fun x y s => ∃ n x' y' s' : Nat, n ≤ 8 ∧ x = .int .u8 x' ∧ y = .int .u8 y' ∧ s = .int .u8 s' ∧ Hid (x' < 256 ∧ y' < 2 ^ n ∧ s' < 256 ∧ s' ^^^ gmf n x' y' = gm a b)) (fun _ y _ => (intOf y).toNat)
  case atStart => exact ⟨8, a, b, 0, by omega, rfl, rfl, rfl, ⟨HA.out, HB.out, by omega, by simp [gm]⟩⟩
  case round =>
    obtain ⟨n, x, y, s, hn, rfl, rfl, rfl, H⟩ := hrel
    have hy8 : y < 256 := Nat.lt_of_lt_of_le H.out.2.1 (show 2 ^ n ≤ 2 ^ 8 from Nat.pow_le_pow_right (by omega) hn)
    have hx8 := H.out.1
    have hs8 := H.out.2.2.1
    by_cases hy : y = 0
    · subst hy
      go_wp2
      go_ret
      refine ⟨ret_int ?_, rfl⟩
      have := H.out.2.2.2
      rw [gmf_zero, Nat.xor_zero] at this
      rw [this]
    · obtain ⟨m, rfl⟩ : ∃ m, n = m + 1 := by
        cases n with
        | zero => have := H.out.2.1; omega
        | succ m => exact ⟨m, rfl⟩
      have h1 := and1 y hy8
      have h2 := u8_xor_nat s x hs8 hx8
      have h3 : y / 2 < 2 ^ m := by have := H.out.2.1; rw [Nat.pow_succ] at this; omega
      have h4 := H.out.2.2.2
      rw [gmf, ← Nat.xor_assoc] at h4
      have HS : Hid (x < 256 ∧ s < 256 ∧ y / 2 < 2 ^ m ∧ (s ^^^ sel (y.testBit 0) x) ^^^ gmf m (tm x) (y / 2) = gm a b) := ⟨hx8, hs8, h3, h4⟩
      clear H h3 h4 hs8
      cases hc : y.testBit 0 with
      | true =>
        rw [hc, if_pos rfl] at h1
        rw [hc] at HS
        clear hc
        go_wp2_with (go_at_call 80; refine (times_any x _ HS.out.1).mono ?_; rintro e w' ⟨rfl, hw⟩; obtain rfl := hw.symm)
        go_round
        case rel => exact ⟨m, tm x, y / 2, s ^^^ x, by omega, rfl, by simp, rfl, ⟨tm_lt x, HS.out.2.2.1, xor_lt _ _ HS.out.2.1 HS.out.1, HS.out.2.2.2⟩⟩
        case measure => simp [intOf]; omega
      | false =>
        rw [hc, if_neg (by decide)] at h1
        rw [hc] at HS
        clear hc h2
        go_wp2_with (go_at_call 80; refine (times_any x _ HS.out.1).mono ?_; rintro e w' ⟨rfl, hw⟩; obtain rfl := hw.symm)
        go_round
        case rel => exact ⟨m, tm x, y / 2, s, by omega, rfl, by simp, rfl, ⟨tm_lt x, HS.out.2.2.1, HS.out.2.1, by have := HS.out.2.2.2; simpa [sel] using this⟩⟩
        case measure => simp [intOf]; omega

theorem i64_and1 (n : Int) : bits .and .i64 n 1 = n % 2 := by
  have h1 : (BitVec.ofInt 64 1).toNat = 2 ^ 1 - 1 := by decide
  have key : (BitVec.ofInt 64 n &&& BitVec.ofInt 64 1).toNat = (n % ((2 ^ 64 : Nat) : Int)).toNat % 2 ^ 1 := by
    rw [BitVec.toNat_and, BitVec.toNat_ofInt, h1, Nat.and_two_pow_sub_one_eq_mod]
  show IntKind.i64.wrap ((BitVec.ofInt 64 n &&& BitVec.ofInt 64 1).toNat : Nat) = n % 2
  rw [key, IntKind.wrap_i64]
  omega

set_option maxHeartbeats 1000000 in
theorem pow_any (a : Nat) (n : Int) (w : World) (ha : a < 256) (hn : n ≤ 9223372036854775807) :
    Calls Try.prog 70 #[.int .u8 a, .int .i64 n] w fun e w' => e = .returned (.int .u8 (pw a n.toNat)) ∧ w' = w := by
  have HA : Hid (a < 256) := ha
  clear ha
  go_enter Try.func70, Try.ntmps70
  go_wp2
  go_loop [0, 1, 5] (fun x y s => ∃ x' s' : Nat, ∃ y' : Int, x = .int .u8 x' ∧ y = .int .i64 y' ∧ s = .int .u8 s' ∧ y' ≤ 9223372036854775807 ∧ Hid (x' < 256 ∧ s' < 256 ∧ gm s' (pw x' y'.toNat) = pw a n.toNat)) (fun _ y _ => (intOf y).toNat)
  case atStart => exact ⟨a, 1, n, rfl, rfl, rfl, hn, ⟨HA.out, by omega, one_gm _ (pw_lt _ _)⟩⟩
  case round =>
    obtain ⟨x, s, y, rfl, rfl, rfl, hy, H⟩ := hrel
    by_cases h0 : 0 < y
    · have h1 := i64_and1 y
      have HR := pw_round s x y.toNat H.out.2.1 H.out.1
      rw [H.out.2.2, show y.toNat / 2 = (y / 2).toNat by omega] at HR
      have HS : Hid (x < 256 ∧ s < 256 ∧ gm (if y.toNat % 2 = 1 then gm s x else s) (pw (gm x x) (y / 2).toNat) = pw a n.toNat) := ⟨H.out.1, H.out.2.1, HR⟩
      clear H HR
      by_cases hc : y % 2 = 1
      · rw [if_pos (by omega)] at HS
        rw [hc] at h1
        go_wp2_with (first
          | (go_at_call_of 79 (Value.int IntKind.u8 (s : Int)); refine (mul_any s x _ HS.out.2.1 HS.out.1).mono ?_; rintro e w' ⟨rfl, hw⟩; obtain rfl := hw.symm)
          | (go_at_call_of 79 (Value.int IntKind.u8 (x : Int)); refine (mul_any x x _ HS.out.1 HS.out.1).mono ?_; rintro e w' ⟨rfl, hw⟩; obtain rfl := hw.symm))
        go_round
        case rel => exact ⟨gm x x, gm s x, y / 2, rfl, by go_num, rfl, by omega, ⟨gm_lt _ _ HS.out.1, gm_lt _ _ HS.out.2.1, HS.out.2.2⟩⟩
        case measure => simp [intOf]; omega
      · rw [if_neg (by omega)] at HS
        have hc : y % 2 = 0 := by omega
        rw [hc] at h1
        go_wp2_with (go_at_call 79; refine (mul_any x x _ HS.out.1 HS.out.1).mono ?_; rintro e w' ⟨rfl, hw⟩; obtain rfl := hw.symm)
        go_round
        case rel => exact ⟨gm x x, s, y / 2, rfl, by go_num, rfl, by omega, ⟨gm_lt _ _ HS.out.1, HS.out.2.1, HS.out.2.2⟩⟩
        case measure => simp [intOf]; omega
    · have h1 : y.toNat = 0 := by omega
      have HE : Hid (s = pw a n.toNat) := by
        have := H.out.2.2
        rw [h1, pw, gm_one _ H.out.2.1] at this
        exact this
      clear H
      go_wp2
      go_ret
      exact ⟨ret_int (by rw [HE.out]), rfl⟩
end Go.Proofs.Ytjiddmgnkldmkaa
