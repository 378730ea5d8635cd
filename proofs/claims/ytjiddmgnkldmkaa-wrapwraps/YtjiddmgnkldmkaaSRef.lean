/- What the reference's Sub answers. No claim of its own. -/
import Derived.Test.YtjiddmgnkldmkaaSMath
namespace Go.Proofs.Ytjiddmgnkldmkaa
open Go.RowKit

set_option maxHeartbeats 1000000 in
theorem rsbit_any (n i : Nat) (w : World) (hn : n < 256) (hi : i < 16) :
    Calls Try.prog 46 #[.int .u8 n, .int .i64 i] w fun e w' => e = .returned (.int .i64 (b8 n i)) ∧ w' = w := by
  have HB : Hid (b8 n i = hv n (i % 8) % 2) := rfl
  obtain ⟨m, hm⟩ : ∃ m, m = i % 8 := ⟨_, rfl⟩
  rw [← hm] at HB
  have hm8 : m < 8 := by omega
  have r1 : ((i : Int)).tmod 8 = (m : Int) := by rw [Int.tmod_eq_emod_of_nonneg (by omega)]; omega
  have r2 : (i : Int) % 8 = (m : Int) := by omega
  generalize b8 n i = q at *
  clear hm
  go_enter Try.func46, Try.ntmps46
  go_wp2
  go_loop [5, 6] (fun x j => ∃ k : Nat, k ≤ m ∧ j = .int .i64 k ∧ x = .int .i64 (hv n k)) (fun _ j => m - (intOf j).toNat)
  case atStart => exact ⟨0, Nat.zero_le _, rfl, by simp [hv]⟩
  case round =>
    obtain ⟨k, hk, rfl, rfl⟩ := hrel
    have h1 := hv_le n k
    have h2 := hv_succ n k
    by_cases hlt : k < m
    · have H2 : Hid (hv n k / 2 = hv n (k + 1)) := h2
      clear h2
      go_wp2
      go_round
      case rel => exact ⟨k + 1, by omega, by go_num, by rw [← H2.out]; simp⟩
      case measure => simp [intOf]; omega
    · have hks : k = m := by omega
      subst hks
      clear h2
      go_wp2
      go_ret
      exact ⟨ret_int (by rw [HB.out]; simp), rfl⟩

set_option maxHeartbeats 4000000 in
theorem rsub_any (a : Nat) (w : World) (ha : a < 256) :
    Calls Try.prog 24 #[.int .u8 a] w fun e w' => e = .returned (.int .u8 (sb a)) ∧ w' = w := by
  have HI : Hid (∀ w, Calls Try.prog 45 #[.int .u8 a] w fun e w' => e = .returned (.int .u8 (iv a)) ∧ w' = w) := fun w => rinv_any a w ha
  have HE : Hid (so (iv a) 8 = sb a ∧ sb a < 256) := ⟨so_iv a ha, sb_lt a ha⟩
  have HV : Hid (iv a < 256) := iv_lt a
  generalize sb a = s at *
  generalize iv a = v at *
  clear ha
  go_enter Try.func24, Try.ntmps24
  go_wp2_with (go_at_call 45; refine (HI.out _).mono ?_; rintro e w' ⟨rfl, hw⟩; obtain rfl := hw.symm)
  go_loop [4, 5, 6] (fun o p i => ∃ k q : Nat, k ≤ 8 ∧ i = .int .i64 k ∧ p = .int .i64 q ∧ q = 2 ^ k ∧ o = .int .i64 (so v k)) (fun _ _ i => 8 - (intOf i).toNat)
  case atStart => exact ⟨0, 1, Nat.zero_le _, rfl, rfl, rfl, rfl⟩
  case round =>
    obtain ⟨k, q, hk, rfl, rfl, hq, rfl⟩ := hrel
    have hq2 : q ≤ 256 := by rw [hq]; exact (show 2 ^ k ≤ 2 ^ 8 from Nat.pow_le_pow_right (by omega) (by omega))
    have ho := so_lt v k
    rw [← hq] at ho
    have HQ : Hid (q = 2 ^ k) := hq
    clear hq
    by_cases hlt : k < 8
    · have C0 : Hid (∀ w, Calls Try.prog 46 #[.int .u8 v, .int .i64 k] w fun e w' => e = .returned (.int .i64 (b8 v k)) ∧ w' = w) := fun w => rsbit_any v k w HV.out (by omega)
      obtain ⟨k4, hk4⟩ : ∃ m : Nat, k + 4 = m := ⟨_, rfl⟩
      have hi4 : (k : Int) + 4 = (k4 : Int) := by omega
      have C4 : Hid (∀ w, Calls Try.prog 46 #[.int .u8 v, .int .i64 k4] w fun e w' => e = .returned (.int .i64 (b8 v (k + 4))) ∧ w' = w) := by
        rw [hk4]; exact fun w => rsbit_any v k4 w HV.out (by omega)
      obtain ⟨k5, hk5⟩ : ∃ m : Nat, k + 5 = m := ⟨_, rfl⟩
      have hi5 : (k : Int) + 5 = (k5 : Int) := by omega
      have C5 : Hid (∀ w, Calls Try.prog 46 #[.int .u8 v, .int .i64 k5] w fun e w' => e = .returned (.int .i64 (b8 v (k + 5))) ∧ w' = w) := by
        rw [hk5]; exact fun w => rsbit_any v k5 w HV.out (by omega)
      obtain ⟨k6, hk6⟩ : ∃ m : Nat, k + 6 = m := ⟨_, rfl⟩
      have hi6 : (k : Int) + 6 = (k6 : Int) := by omega
      have C6 : Hid (∀ w, Calls Try.prog 46 #[.int .u8 v, .int .i64 k6] w fun e w' => e = .returned (.int .i64 (b8 v (k + 6))) ∧ w' = w) := by
        rw [hk6]; exact fun w => rsbit_any v k6 w HV.out (by omega)
      obtain ⟨k7, hk7⟩ : ∃ m : Nat, k + 7 = m := ⟨_, rfl⟩
      have hi7 : (k : Int) + 7 = (k7 : Int) := by omega
      have C7 : Hid (∀ w, Calls Try.prog 46 #[.int .u8 v, .int .i64 k7] w fun e w' => e = .returned (.int .i64 (b8 v (k + 7))) ∧ w' = w) := by
        rw [hk7]; exact fun w => rsbit_any v k7 w HV.out (by omega)
      have C9 : Hid (∀ w, Calls Try.prog 46 #[.int .u8 99, .int .i64 k] w fun e w' => e = .returned (.int .i64 (b8 99 k)) ∧ w' = w) := fun w => rsbit_any 99 k w (by omega) (by omega)
      have hS : so v (k + 1) = so v k + 2 ^ k * sbt v k := rfl
      rw [← HQ.out] at hS
      have l0 := b8_lt v k
      have l4 := b8_lt v (k + 4)
      have l5 := b8_lt v (k + 5)
      have l6 := b8_lt v (k + 6)
      have l7 := b8_lt v (k + 7)
      have l9 := b8_lt 99 k
      have HD : Hid (sbt v k = b8 v k ^^^ b8 v (k + 4) ^^^ b8 v (k + 5) ^^^ b8 v (k + 6) ^^^ b8 v (k + 7) ^^^ b8 99 k) := rfl
      generalize b8 v k = e0 at *
      generalize b8 v (k + 4) = e4 at *
      generalize b8 v (k + 5) = e5 at *
      generalize b8 v (k + 6) = e6 at *
      generalize b8 v (k + 7) = e7 at *
      generalize b8 99 k = e9 at *
      have x4 := i64_xor_nat e0 e4 (by omega) (by omega)
      have y4 := xor2 e0 e4 l0 l4
      obtain ⟨f4, hf4⟩ : ∃ f, f = e0 ^^^ e4 := ⟨_, rfl⟩
      rw [← hf4] at x4 y4 HD
      have x5 := i64_xor_nat f4 e5 (by omega) (by omega)
      have y5 := xor2 f4 e5 y4 l5
      obtain ⟨f5, hf5⟩ : ∃ f, f = f4 ^^^ e5 := ⟨_, rfl⟩
      rw [← hf5] at x5 y5 HD
      have x6 := i64_xor_nat f5 e6 (by omega) (by omega)
      have y6 := xor2 f5 e6 y5 l6
      obtain ⟨f6, hf6⟩ : ∃ f, f = f5 ^^^ e6 := ⟨_, rfl⟩
      rw [← hf6] at x6 y6 HD
      have x7 := i64_xor_nat f6 e7 (by omega) (by omega)
      have y7 := xor2 f6 e7 y6 l7
      obtain ⟨f7, hf7⟩ : ∃ f, f = f6 ^^^ e7 := ⟨_, rfl⟩
      rw [← hf7] at x7 y7 HD
      have x9 := i64_xor_nat f7 e9 (by omega) (by omega)
      have y9 := xor2 f7 e9 y7 l9
      obtain ⟨f9, hf9⟩ : ∃ f, f = f7 ^^^ e9 := ⟨_, rfl⟩
      rw [← hf9] at x9 y9 HD
      rw [HD.out] at hS
      have HS : Hid (so v (k + 1) = so v k + q * f9) := hS
      have hm : 0 ≤ (q : Int) * (f9 : Int) ∧ (q : Int) * (f9 : Int) ≤ 256 := by
        rw [← Int.natCast_mul]
        have : q * f9 ≤ q * 1 := Nat.mul_le_mul_left _ (by omega)
        omega
      clear hk4 hk5 hk6 hk7 hS HD hf4 hf5 hf6 hf7 hf9 l0 l4 l5 l6 l7 l9 y4 y5 y6 y7 y9
      generalize so v k = o at *
      go_wp2_with (first
        | (go_at_call_of 46 (Value.int IntKind.u8 (v : Int)); go_at_call_of 46 (Value.int IntKind.i64 (k : Int)); refine (C0.out _).mono ?_; rintro e w' ⟨rfl, hw⟩; obtain rfl := hw.symm)
        | (go_at_call_of 46 (Value.int IntKind.i64 (k7 : Int)); refine (C7.out _).mono ?_; rintro e w' ⟨rfl, hw⟩; obtain rfl := hw.symm)
        | (go_at_call_of 46 (Value.int IntKind.i64 (k6 : Int)); refine (C6.out _).mono ?_; rintro e w' ⟨rfl, hw⟩; obtain rfl := hw.symm)
        | (go_at_call_of 46 (Value.int IntKind.i64 (k5 : Int)); refine (C5.out _).mono ?_; rintro e w' ⟨rfl, hw⟩; obtain rfl := hw.symm)
        | (go_at_call_of 46 (Value.int IntKind.i64 (k4 : Int)); refine (C4.out _).mono ?_; rintro e w' ⟨rfl, hw⟩; obtain rfl := hw.symm)
        | (go_at_call_of 46 (Value.int IntKind.i64 (k : Int)); refine (C9.out _).mono ?_; rintro e w' ⟨rfl, hw⟩; obtain rfl := hw.symm))
      go_round
      case rel => exact ⟨k + 1, q * 2, by omega, by go_num, by go_num, by rw [HQ.out, Nat.pow_succ], by rw [HS.out]; simp⟩
      case measure => simp [intOf]; omega
    · have hk8 : k = 8 := by omega
      subst hk8
      rw [HE.out.1]
      have hs := HE.out.2
      clear HE ho
      go_wp2
      go_ret
      exact ⟨ret_int (by omega), rfl⟩
end Go.Proofs.Ytjiddmgnkldmkaa
