/- The words of 32 bits: how they are rotated, and what the small functions of sha and of its reference answer. No claim of its own. -/
import Derived.Test.YtaplllonomdgeaaRefNumbers
import Derived.Deep.RegionWith
namespace Go.Proofs.Ytaplllonomdgeaa
open Go.RowKit

/-- a word rotated to the right -/
def rr (x : Int) (n : Nat) : Int := x / 2 ^ n + x % 2 ^ n * 2 ^ (32 - n)
def xr3 (a b c : Int) : Int := bits .xor .u32 (bits .xor .u32 a b) c
def sg0 (x : Int) : Int := xr3 (rr x 7) (rr x 18) (x / 8)
def sg1 (x : Int) : Int := xr3 (rr x 17) (rr x 19) (x / 1024)
def bg0 (x : Int) : Int := xr3 (rr x 2) (rr x 13) (rr x 22)
def bg1 (x : Int) : Int := xr3 (rr x 6) (rr x 11) (rr x 25)
def chs (x y z : Int) : Int := bits .xor .u32 (bits .and .u32 x y) (bits .and .u32 (4294967295 - x) z)
def maj (x y z : Int) : Int := xr3 (bits .and .u32 x y) (bits .and .u32 x z) (bits .and .u32 y z)

/-- a number of 32 bits -/
def W32 (x : Int) : Prop := 0 ≤ x ∧ x ≤ 4294967295

theorem not_u32 (x : Int) (hx : W32 x) : bits .xor .u32 IntKind.u32.max x = 4294967295 - x := by
  have e : IntKind.u32.max = 4294967295 := rfl
  rw [e, u32_xor _ _ (by omega) (by omega) hx.1 (by have := hx.2; omega)]
  obtain ⟨n, rfl⟩ := Int.eq_ofNat_of_zero_le hx.1
  have h2 : n < 2 ^ 32 := by have := hx.2; omega
  show ((4294967295 ^^^ n : Nat) : Int) = _
  have h3 : 4294967295 ^^^ n = 4294967295 - n := by
    have e : 4294967295 - n = 2 ^ 32 - (n + 1) := by omega
    rw [e]
    apply Nat.eq_of_testBit_eq
    intro i
    rw [Nat.testBit_xor, Nat.testBit_two_pow_sub_succ h2, show 4294967295 = 2 ^ 32 - 1 from rfl, Nat.testBit_two_pow_sub_one]
    by_cases hi : i < 32
    · simp [hi]
    · have : n.testBit i = false := Nat.testBit_lt_two_pow (Nat.lt_of_lt_of_le h2 (Nat.pow_le_pow_right (by omega) (by omega)))
      simp [hi, this]
  rw [h3]; omega

set_option maxHeartbeats 1000000 in
theorem choose_any (x y z : Int) (w : World) (hx : W32 x) :
    Calls Try.prog 51 #[.int .u32 x, .int .u32 y, .int .u32 z] w fun e w' => e = .returned (.int .u32 (chs x y z)) ∧ w' = w := by
  have HX : Hid (bits .xor .u32 IntKind.u32.max x = 4294967295 - x) := not_u32 x hx
  clear hx
  go_enter Try.func51, Try.ntmps51
  go_wp2
  go_ret
  refine ⟨ret_int ?_, rfl⟩
  rw [HX.out]; rfl

set_option maxHeartbeats 1000000 in
theorem majority_any (x y z : Int) (w : World) :
    Calls Try.prog 53 #[.int .u32 x, .int .u32 y, .int .u32 z] w fun e w' => e = .returned (.int .u32 (maj x y z)) ∧ w' = w := by
  go_enter Try.func53, Try.ntmps53
  go_wp2
  go_ret
  exact ⟨rfl, rfl⟩

theorem and31 (n : Nat) (h : 1 ≤ n ∧ n ≤ 31) : bits .and .u64 (IntKind.u64.wrap (-(n : Int))) 31 = 32 - n := by
  have h3 := u64_and (18446744073709551616 - (n : Int)) 31 (by omega) (by omega) (by omega) (by omega)
  rw [IntKind.wrap_u64, show -(n : Int) % 18446744073709551616 = 18446744073709551616 - n by omega, h3]
  have : (18446744073709551616 - (n : Int)).toNat = 18446744073709551616 - n := by omega
  rw [this, show (31 : Int).toNat = 2 ^ 5 - 1 from rfl, Nat.and_two_pow_sub_one_eq_mod]
  omega

theorem rot_eq (x : Int) (n : Nat) (hx : W32 x) (hn : 1 ≤ n ∧ n ≤ 31) : bits .or .u32 (x * 2 ^ (32 - n) % 4294967296) (x / 2 ^ (32 - (32 - n))) = rr x n := by
  obtain ⟨y, rfl⟩ := Int.eq_ofNat_of_zero_le hx.1
  have hy : y < 2 ^ 32 := by have := hx.2; omega
  have en : 32 - (32 - n) = n := by omega
  have e1 : (y : Int) * 2 ^ (32 - n) % 4294967296 = ((y % 2 ^ n * 2 ^ (32 - n) : Nat) : Int) := by
    have : y * 2 ^ (32 - n) % (2 ^ n * 2 ^ (32 - n)) = y % 2 ^ n * 2 ^ (32 - n) := Nat.mul_mod_mul_right _ _ _
    rw [← this, ← Nat.pow_add, show n + (32 - n) = 32 by omega]
    simp
  have e2 : (y : Int) / 2 ^ n = ((y / 2 ^ n : Nat) : Int) := by simp
  have e3 : (y : Int) % 2 ^ n = ((y % 2 ^ n : Nat) : Int) := by simp
  have h1 : y / 2 ^ n < 2 ^ (32 - n) := by
    rw [Nat.div_lt_iff_lt_mul (Nat.two_pow_pos n), ← Nat.pow_add, show 32 - n + n = 32 by omega]; exact hy
  have h2 : y % 2 ^ n * 2 ^ (32 - n) < 2 ^ 32 := by
    have : y % 2 ^ n < 2 ^ n := Nat.mod_lt _ (Nat.two_pow_pos n)
    calc y % 2 ^ n * 2 ^ (32 - n) < 2 ^ n * 2 ^ (32 - n) := Nat.mul_lt_mul_of_pos_right this (Nat.two_pow_pos _)
      _ = 2 ^ 32 := by rw [← Nat.pow_add, show n + (32 - n) = 32 by omega]
  have h3 : 2 ^ (32 - n) ≤ 2 ^ 32 := Nat.pow_le_pow_right (by omega) (by omega)
  rw [en, e1, e2, u32_or_nat _ _ (by omega) (by omega), rr, e2, e3]
  have e4 : y % 2 ^ n * 2 ^ (32 - n) ||| y / 2 ^ n = y % 2 ^ n * 2 ^ (32 - n) + y / 2 ^ n := by
    have := Nat.two_pow_add_eq_or_of_lt h1 (y % 2 ^ n)
    rw [Nat.mul_comm, this]
  rw [e4]
  simp
  omega

set_option maxHeartbeats 1000000 in
theorem rotateLeft_any (x : Int) (n : Nat) (w : World) (hx : W32 x) (hn : 1 ≤ n ∧ n ≤ 31) :
    Calls Try.prog 61 #[.int .u32 x, .int .i64 (-(n : Int))] w fun e w' => e = .returned (.int .u32 (rr x n)) ∧ w' = w := by
  have HX : Hid (W32 x) := hx
  have h1 := and31 n hn
  have h2 : ((32 : Int) - n).toNat = 32 - n := by omega
  clear hx
  go_enter Try.func61, Try.ntmps61
  go_wp2
  go_ret
  refine ⟨ret_int ?_, rfl⟩
  exact rot_eq x n HX.out hn

set_option maxHeartbeats 1000000 in
theorem power_any (n : Nat) (w : World) (hn : n ≤ 31) :
    Calls Try.prog 55 #[.int .i64 n] w fun e w' => e = .returned (.int .u32 (2 ^ n)) ∧ w' = w := by
  have HP : ∀ k : Nat, k < n → Hid (IntKind.u32.wrap ((2 : Int) ^ k * 2) = 2 ^ (k + 1)) := by
    intro k hk
    show _ = _
    rw [IntKind.wrap_u32, Int.pow_succ]
    have h1 : 2 ^ k ≤ 2 ^ 30 := Nat.pow_le_pow_right (by omega) (by omega)
    have h2 : ((2 ^ k : Nat) : Int) = 2 ^ k := by simp
    rw [← h2]
    generalize 2 ^ k = q at h1
    omega
  go_enter Try.func55, Try.ntmps55
  go_wp2
  go_loop [3, 4] (fun p i => ∃ k : Nat, k ≤ n ∧ i = .int .i64 k ∧ p = .int .u32 (2 ^ k)) (fun _ i => n - (intOf i).toNat)
  case atStart => exact ⟨0, Nat.zero_le _, rfl, rfl⟩
  case round =>
    obtain ⟨k, hk, rfl, rfl⟩ := hrel
    by_cases hlt : k < n
    · have H := HP k hlt
      clear HP
      obtain ⟨p, hp⟩ : ∃ p : Int, p = 2 ^ k := ⟨_, rfl⟩
      rw [← hp] at H ⊢
      clear hp
      go_wp2
      go_round
      case rel => exact ⟨k + 1, by omega, by go_num, by rw [← H.out, IntKind.wrap_u32]⟩
      case measure => simp [intOf]; omega
    · have hks : k = n := by omega
      subst hks
      clear HP
      go_wp2
      go_ret
      exact ⟨rfl, rfl⟩

set_option maxHeartbeats 1000000 in
theorem rotateRight_any (x : Int) (n : Nat) (w : World) (hx : W32 x) (hn : 1 ≤ n ∧ n ≤ 31) :
    Calls Try.prog 59 #[.int .u32 x, .int .i64 n] w fun e w' => e = .returned (.int .u32 (rr x n)) ∧ w' = w := by
  have HX : Hid (W32 x) := hx
  have h1 : IntKind.i64.wrap (-(n : Int)) = -(n : Int) := by rw [IntKind.wrap_i64]; omega
  clear hx
  go_enter Try.func59, Try.ntmps59
  go_wp2_with (go_at_call 61; refine (rotateLeft_any x n _ HX.out hn).mono ?_; rintro e w' ⟨rfl, hw⟩; obtain rfl := hw.symm)
  go_ret
  exact ⟨rfl, rfl⟩

theorem rr_bd (x : Int) (n : Nat) (hx : W32 x) (hn : 1 ≤ n ∧ n ≤ 31) : W32 (rr x n) := by
  rw [← rot_eq x n hx hn]
  have := bounds_u32 (wf_bits .or .u32 (x * 2 ^ (32 - n) % 4294967296) (x / 2 ^ (32 - (32 - n))))
  exact ⟨this.1, by omega⟩
theorem bits_bd (o : BinOp) (a b : Int) : W32 (bits o .u32 a b) := by
  have := bounds_u32 (wf_bits o .u32 a b)
  exact ⟨this.1, by omega⟩

set_option maxHeartbeats 1000000 in
theorem smallSigma0_any (x : Int) (w : World) (hx : W32 x) :
    Calls Try.prog 58 #[.int .u32 x] w fun e w' => e = .returned (.int .u32 (sg0 x)) ∧ w' = w := by
  have HX : Hid (W32 x) := hx
  clear hx
  go_enter Try.func58, Try.ntmps58
  go_wp2_with (first
    | (go_at_call_of 59 (Value.int .i64 7); refine (rotateRight_any x 7 _ HX.out (by omega)).mono ?_; rintro e w' ⟨rfl, hw⟩; obtain rfl := hw.symm)
    | (go_at_call_of 59 (Value.int .i64 18); refine (rotateRight_any x 18 _ HX.out (by omega)).mono ?_; rintro e w' ⟨rfl, hw⟩; obtain rfl := hw.symm))
  go_ret
  exact ⟨rfl, rfl⟩

set_option maxHeartbeats 1000000 in
theorem smallSigma1_any (x : Int) (w : World) (hx : W32 x) :
    Calls Try.prog 57 #[.int .u32 x] w fun e w' => e = .returned (.int .u32 (sg1 x)) ∧ w' = w := by
  have HX : Hid (W32 x) := hx
  clear hx
  go_enter Try.func57, Try.ntmps57
  go_wp2_with (first
    | (go_at_call_of 59 (Value.int .i64 17); refine (rotateRight_any x 17 _ HX.out (by omega)).mono ?_; rintro e w' ⟨rfl, hw⟩; obtain rfl := hw.symm)
    | (go_at_call_of 59 (Value.int .i64 19); refine (rotateRight_any x 19 _ HX.out (by omega)).mono ?_; rintro e w' ⟨rfl, hw⟩; obtain rfl := hw.symm))
  go_ret
  exact ⟨rfl, rfl⟩

set_option maxHeartbeats 1000000 in
theorem bigSigma0_any (x : Int) (w : World) (hx : W32 x) :
    Calls Try.prog 52 #[.int .u32 x] w fun e w' => e = .returned (.int .u32 (bg0 x)) ∧ w' = w := by
  have HX : Hid (W32 x) := hx
  clear hx
  go_enter Try.func52, Try.ntmps52
  go_wp2_with (first
    | (go_at_call_of 59 (Value.int .i64 2); refine (rotateRight_any x 2 _ HX.out (by omega)).mono ?_; rintro e w' ⟨rfl, hw⟩; obtain rfl := hw.symm)
    | (go_at_call_of 59 (Value.int .i64 13); refine (rotateRight_any x 13 _ HX.out (by omega)).mono ?_; rintro e w' ⟨rfl, hw⟩; obtain rfl := hw.symm)
    | (go_at_call_of 59 (Value.int .i64 22); refine (rotateRight_any x 22 _ HX.out (by omega)).mono ?_; rintro e w' ⟨rfl, hw⟩; obtain rfl := hw.symm))
  go_ret
  exact ⟨rfl, rfl⟩

set_option maxHeartbeats 1000000 in
theorem bigSigma1_any (x : Int) (w : World) (hx : W32 x) :
    Calls Try.prog 50 #[.int .u32 x] w fun e w' => e = .returned (.int .u32 (bg1 x)) ∧ w' = w := by
  have HX : Hid (W32 x) := hx
  clear hx
  go_enter Try.func50, Try.ntmps50
  go_wp2_with (first
    | (go_at_call_of 59 (Value.int .i64 6); refine (rotateRight_any x 6 _ HX.out (by omega)).mono ?_; rintro e w' ⟨rfl, hw⟩; obtain rfl := hw.symm)
    | (go_at_call_of 59 (Value.int .i64 11); refine (rotateRight_any x 11 _ HX.out (by omega)).mono ?_; rintro e w' ⟨rfl, hw⟩; obtain rfl := hw.symm)
    | (go_at_call_of 59 (Value.int .i64 25); refine (rotateRight_any x 25 _ HX.out (by omega)).mono ?_; rintro e w' ⟨rfl, hw⟩; obtain rfl := hw.symm))
  go_ret
  exact ⟨rfl, rfl⟩

theorem pow_bd (n : Nat) (hn : n ≤ 31) : (1 : Int) ≤ 2 ^ n ∧ (2 : Int) ^ n ≤ 2147483648 := by
  have h1 : 2 ^ n ≤ 2 ^ 31 := Nat.pow_le_pow_right (by omega) hn
  have h0 : 0 < 2 ^ n := Nat.two_pow_pos n
  have h2 : ((2 ^ n : Nat) : Int) = 2 ^ n := by simp
  rw [← h2]
  generalize 2 ^ n = q at h1 h0
  omega

set_option maxHeartbeats 2000000 in
theorem rotr_any (x : Int) (n : Nat) (w : World) (hx : W32 x) (hn : 1 ≤ n ∧ n ≤ 31) :
    Calls Try.prog 46 #[.int .u32 x, .int .i64 n] w fun e w' => e = .returned (.int .u32 (rr x n)) ∧ ∃ d, w' = w.drewN d := by
  have HB : Hid (W32 (rr x n)) := rr_bd x n hx hn
  have hp1 := pow_bd n hn.2
  have hq1 := pow_bd (32 - n) (by omega)
  have PA : Hid (∀ w0, Calls Try.prog 55 #[.int .i64 n] w0 fun e w' => e = .returned (.int .u32 (2 ^ n)) ∧ w' = w0) := fun w0 => power_any n w0 (by omega)
  have QA : Hid (∀ w0, Calls Try.prog 55 #[.int .i64 (32 - (n : Int))] w0 fun e w' => e = .returned (.int .u32 (2 ^ (32 - n))) ∧ w' = w0) := fun w0 => by
    have := power_any (32 - n) w0 (by omega)
    rwa [show ((32 - n : Nat) : Int) = 32 - (n : Int) by omega] at this
  have HR : Hid (rr x n = x / 2 ^ n + x % 2 ^ n * 2 ^ (32 - n)) := rfl
  obtain ⟨hx1, hx2⟩ := hx
  generalize (2 : Int) ^ n = p at *
  generalize (2 : Int) ^ (32 - n) = q at *
  have hp0 : ¬ p = 0 := by omega
  go_enter Try.func46, Try.ntmps46
  go_wp2
  go_quiet (first
    | (go_at_call_of 55 (Value.int .i64 (n : Int)); exact Calls.quiet_of_same (PA.out _))
    | (go_at_call 55; exact Calls.quiet_of_same (QA.out _)))
  go_wp2
  go_ret
  refine ⟨ret_int ?_, _, rfl⟩
  have h1 := HR.out
  have h2 := HB.out
  rw [h1] at h2 ⊢
  unfold W32 at h2
  generalize x / p = A at *
  generalize x % p * q = B at *
  omega
end Go.Proofs.Ytaplllonomdgeaa
