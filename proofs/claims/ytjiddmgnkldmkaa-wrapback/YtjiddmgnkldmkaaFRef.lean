/- What the reference's bit, power, Mul, Pow and Inv answer. No claim of its own. -/
import Derived.Test.YtjiddmgnkldmkaaFProg
namespace Go.Proofs.Ytjiddmgnkldmkaa
open Go.RowKit

/-- a bit, as a number -/
def bt (n i : Nat) : Nat := n / 2 ^ i % 2
theorem bt_of (n i : Nat) : bt n i = if n.testBit i then 1 else 0 := by
  rw [Nat.testBit_eq_decide_div_mod_eq, bt]
  by_cases h : n / 2 ^ i % 2 = 1
  · simp [h]
  · simp [h]; omega
def hv (n k : Nat) : Nat := n / 2 ^ k
theorem hv_succ (n k : Nat) : hv n k / 2 = hv n (k + 1) := by rw [hv, hv, Nat.div_div_eq_div_mul, ← Nat.pow_succ]
theorem hv_le (n k : Nat) : hv n k ≤ n := Nat.div_le_self _ _

set_option maxHeartbeats 1000000 in
theorem rbit_any (n i : Nat) (w : World) (hn : n < 65536) (hi : i < 15) :
    Calls Try.prog 76 #[.int .i64 n, .int .i64 i] w fun e w' => e = .returned (.int .i64 (bt n i)) ∧ w' = w := by
  go_enter Try.func76, Try.ntmps76
  go_wp2
  go_loop [0, 5] (fun x j => ∃ k : Nat, k ≤ i ∧ j = .int .i64 k ∧ x = .int .i64 (hv n k)) (fun _ j => i - (intOf j).toNat)
  case atStart => exact ⟨0, Nat.zero_le _, rfl, by simp [hv]⟩
  case round =>
    obtain ⟨k, hk, rfl, rfl⟩ := hrel
    have h1 := hv_le n k
    have h2 := hv_succ n k
    by_cases hlt : k < i
    · have H2 : Hid (hv n k / 2 = hv n (k + 1)) := h2
      clear h2
      go_wp2
      go_round
      case rel => exact ⟨k + 1, by omega, by go_num, by rw [← H2.out]; simp⟩
      case measure => simp [intOf]; omega
    · have hks : k = i := by omega
      subst hks
      clear h2
      go_wp2
      go_ret
      exact ⟨ret_int (by simp [bt, hv]), rfl⟩

set_option maxHeartbeats 1000000 in
theorem rpower_any (n : Nat) (w : World) (hn : n ≤ 31) :
    Calls Try.prog 77 #[.int .i64 n] w fun e w' => e = .returned (.int .i64 ((2 ^ n : Nat) : Int)) ∧ w' = w := by
  go_enter Try.func77, Try.ntmps77
  go_wp2
  go_loop [3, 4] (fun p i => ∃ k q : Nat, k ≤ n ∧ i = .int .i64 k ∧ p = .int .i64 q ∧ q = 2 ^ k) (fun _ i => n - (intOf i).toNat)
  case atStart => exact ⟨0, 1, Nat.zero_le _, rfl, rfl, rfl⟩
  case round =>
    obtain ⟨k, q, hk, rfl, rfl, hq⟩ := hrel
    have hq2 : q ≤ 2147483648 := by rw [hq]; exact (show 2 ^ k ≤ 2 ^ 31 from Nat.pow_le_pow_right (by omega) (by omega))
    have HQ : Hid (q = 2 ^ k) := hq
    clear hq
    by_cases hlt : k < n
    · go_wp2
      go_round
      case rel => exact ⟨k + 1, q * 2, by omega, by go_num, by go_num, by rw [HQ.out, Nat.pow_succ]⟩
      case measure => simp [intOf]; omega
    · have hks : k = n := by omega
      subst hks
      go_wp2
      go_ret
      exact ⟨ret_int (by have h := HQ.out; subst h; simp), rfl⟩

theorem i64_xor_nat (a b : Nat) (ha : a < 65536) (hb : b < 65536) : bits .xor .i64 (a : Int) (b : Int) = ((a ^^^ b : Nat) : Int) := by
  have hx : a ^^^ b < 2 ^ 16 := Nat.xor_lt_two_pow (by omega) (by omega)
  show IntKind.i64.wrap ((BitVec.ofInt 64 (a : Int) ^^^ BitVec.ofInt 64 (b : Int)).toNat : Int) = _
  rw [BitVec.toNat_xor, BitVec.ofInt_natCast, BitVec.ofInt_natCast, BitVec.toNat_ofNat, BitVec.toNat_ofNat, Nat.mod_eq_of_lt (by omega), Nat.mod_eq_of_lt (by omega), IntKind.wrap_i64]
  omega

set_option maxHeartbeats 2000000 in
theorem rmul_any (a b : Nat) (w : World) (ha : a < 256) (hb : b < 256) :
    Calls Try.prog 67 #[.int .u8 a, .int .u8 b] w fun e w' => e = .returned (.int .u8 (gm a b)) ∧ w' = w := by
  go_enter Try.func67, Try.ntmps67
  go_wp2
  go_loop [5, 6] (fun p i => ∃ k : Nat, k ≤ 8 ∧ i = .int .i64 k ∧ p = .int .i64 (pr a b k)) (fun _ i => 8 - (intOf i).toNat)
  case atStart => exact ⟨0, Nat.zero_le _, rfl, rfl⟩
  case round =>
    obtain ⟨k, hk, rfl, rfl⟩ := hrel
    have hp := pr_lt a b k ha hk
    by_cases hlt : k < 8
    · have H : Hid (pr a b (k + 1) = pr a b k ^^^ sel (b.testBit k) (a * 2 ^ k)) := rfl
      have HB : Hid (∀ w, Calls Try.prog 76 #[.int .i64 b, .int .i64 k] w fun e w' => e = .returned (.int .i64 (bt b k)) ∧ w' = w) := fun w => rbit_any b k w (by omega) (by omega)
      have HP : Hid (∀ w, Calls Try.prog 77 #[.int .i64 k] w fun e w' => e = .returned (.int .i64 ((2 ^ k : Nat) : Int)) ∧ w' = w) := fun w => rpower_any k w (by omega)
      have hb1 := bt_of b k
      have hq1 : a * 2 ^ k < 65536 := by
        have : 2 ^ k ≤ 2 ^ 7 := Nat.pow_le_pow_right (by omega) (by omega)
        have := Nat.mul_le_mul (show a ≤ 255 by omega) this
        omega
      have hq2 := i64_xor_nat (pr a b k) (a * 2 ^ k) hp hq1
      generalize bt b k = B at HB hb1
      generalize 2 ^ k = P at HP hq1 hq2 H
      generalize pr a b k = y at hp hq2 H
      have hq3 : 0 ≤ (a : Int) * (P : Int) ∧ (a : Int) * (P : Int) < 65536 := by rw [← Int.natCast_mul]; omega
      rw [Int.natCast_mul] at hq2
      clear hq1
      cases hc : b.testBit k with
      | true =>
        rw [hc, if_pos rfl] at hb1
        rw [hc] at H
        subst hb1
        clear hc
        go_wp2_with (first
          | (go_at_call 76; refine (HB.out _).mono ?_; rintro e w' ⟨rfl, hw⟩; obtain rfl := hw.symm)
          | (go_at_call 77; refine (HP.out _).mono ?_; rintro e w' ⟨rfl, hw⟩; obtain rfl := hw.symm))
        go_round
        case rel => exact ⟨k + 1, by omega, by go_num, by rw [H.out]; rfl⟩
        case measure => simp [intOf]; omega
      | false =>
        rw [hc, if_neg (by decide)] at hb1
        rw [hc] at H
        subst hb1
        clear hc
        go_wp2_with (first
          | (go_at_call 76; refine (HB.out _).mono ?_; rintro e w' ⟨rfl, hw⟩; obtain rfl := hw.symm))
        go_round
        case rel => exact ⟨k + 1, by omega, by go_num, by rw [H.out]; simp [sel]⟩
        case measure => simp [intOf]; omega
    · have hk8 : k = 8 := by omega
      subst hk8
      have hq := pr_lt a b 8 ha (by omega)
      have HE : Hid (rd (pr a b 8) 7 = gm a b) := rd_pr a b ha
      have HG : Hid (gm a b < 256) := gm_lt a b ha
      have HD : Hid (∀ k, k ≤ 7 → rd (pr a b 8) k < 65536) := fun k hk => rd_lt _ k hq hk
      generalize pr a b 8 = q at HE HD
      clear hq hk hlt
      go_wp2
      go_loop [5, 7] (fun p i => ∃ k : Nat, k ≤ 7 ∧ i = .int .i64 (14 - (k : Int)) ∧ p = .int .i64 (rd q k)) (fun _ i => (intOf i).toNat)
      case atStart => exact ⟨0, Nat.zero_le _, rfl, rfl⟩
      case round =>
        obtain ⟨k, hk, rfl, rfl⟩ := hrel
        have hp := HD.out k hk
        by_cases hlt : k < 7
        · have H : Hid (rd q (k + 1) = rd q k ^^^ sel ((rd q k).testBit (14 - k)) (283 * 2 ^ (6 - k))) := rfl
          have HB : Hid (∀ w, Calls Try.prog 76 #[.int .i64 (rd q k), .int .i64 (14 - (k : Int))] w fun e w' => e = .returned (.int .i64 (bt (rd q k) (14 - k))) ∧ w' = w) := by
            intro w
            have := rbit_any (rd q k) (14 - k) w hp (by omega)
            rwa [show ((14 - k : Nat) : Int) = 14 - (k : Int) by omega] at this
          have HP : Hid (∀ w, Calls Try.prog 77 #[.int .i64 (6 - (k : Int))] w fun e w' => e = .returned (.int .i64 ((2 ^ (6 - k) : Nat) : Int)) ∧ w' = w) := by
            intro w
            have := rpower_any (6 - k) w (by omega)
            rwa [show ((6 - k : Nat) : Int) = 6 - (k : Int) by omega] at this
          have hb1 := bt_of (rd q k) (14 - k)
          have hq1 : 2 ^ (6 - k) ≤ 64 := show 2 ^ (6 - k) ≤ 2 ^ 6 from Nat.pow_le_pow_right (by omega) (by omega)
          have hq2 := i64_xor_nat (rd q k) (283 * 2 ^ (6 - k)) hp (by omega)
          have h6 : (14 : Int) - (k : Int) - 8 = 6 - (k : Int) := by omega
          generalize bt (rd q k) (14 - k) = B at HB hb1
          generalize 2 ^ (6 - k) = P at HP hq1 hq2 H
          generalize rd q k = y at hp hq2 H HB hb1
          rw [Int.natCast_mul] at hq2
          change bits .xor .i64 (y : Int) (283 * (P : Int)) = _ at hq2
          cases hc : y.testBit (14 - k) with
          | true =>
            rw [hc, if_pos rfl] at hb1
            rw [hc] at H
            subst hb1
            clear hc
            go_wp2_with (first
              | (go_at_call 76; refine (HB.out _).mono ?_; rintro e w' ⟨rfl, hw⟩; obtain rfl := hw.symm)
              | (go_at_call 77; refine (HP.out _).mono ?_; rintro e w' ⟨rfl, hw⟩; obtain rfl := hw.symm))
            go_round
            case rel => exact ⟨k + 1, by omega, by go_num, by rw [H.out]; rfl⟩
            case measure => simp [intOf]; omega
          | false =>
            rw [hc, if_neg (by decide)] at hb1
            rw [hc] at H
            subst hb1
            clear hc
            go_wp2_with (first
              | (go_at_call 76; refine (HB.out _).mono ?_; rintro e w' ⟨rfl, hw⟩; obtain rfl := hw.symm))
            go_round
            case rel => exact ⟨k + 1, by omega, by go_num, by rw [H.out]; simp [sel]⟩
            case measure => simp [intOf]; omega
        · have hk7 : k = 7 := by omega
          subst hk7
          rw [HE.out]
          have hg := HG.out
          clear HD hp hk hlt
          go_wp2
          go_ret
          exact ⟨ret_int (by omega), rfl⟩

set_option maxHeartbeats 1000000 in
theorem rpow_any (a n : Nat) (w : World) (ha : a < 256) (hn : n ≤ 255) :
    Calls Try.prog 63 #[.int .u8 a, .int .i64 n] w fun e w' => e = .returned (.int .u8 (pw a n)) ∧ w' = w := by
  have HA : Hid (a < 256) := ha
  clear ha
  go_enter Try.func63, Try.ntmps63
  go_wp2
  go_loop [5, 6] (fun p i => ∃ k : Nat, k ≤ n ∧ i = .int .i64 k ∧ p = .int .u8 (pw a k)) (fun _ i => n - (intOf i).toNat)
  case atStart => exact ⟨0, Nat.zero_le _, rfl, rfl⟩
  case round =>
    obtain ⟨k, hk, rfl, rfl⟩ := hrel
    by_cases hlt : k < n
    · go_wp2_with (go_at_call 67; refine (rmul_any (pw a k) a _ (pw_lt a k) HA.out).mono ?_; rintro e w' ⟨rfl, hw⟩; obtain rfl := hw.symm)
      go_round
      case rel => exact ⟨k + 1, by omega, by go_num, rfl⟩
      case measure => simp [intOf]; omega
    · have hks : k = n := by omega
      subst hks
      go_wp2
      go_ret
      exact ⟨rfl, rfl⟩

set_option maxRecDepth 20000 in
set_option maxHeartbeats 1000000 in
theorem rinv_any (a : Nat) (w : World) (ha : a < 256) :
    Calls Try.prog 45 #[.int .u8 a] w fun e w' => e = .returned (.int .u8 (iv a)) ∧ w' = w := by
  have HA : Hid (a < 256) := ha
  clear ha
  go_enter Try.func45, Try.ntmps45
  go_wp2
  go_loop [3] (fun i => ∃ k : Nat, 1 ≤ k ∧ k ≤ 256 ∧ i = .int .i64 k ∧ Hid (∀ j, 1 ≤ j → j < k → gm a j ≠ 1)) (fun i => 256 - (intOf i).toNat)
  case atStart => exact ⟨1, by omega, by omega, rfl, fun j h1 h2 => by omega⟩
  case round =>
    obtain ⟨k, hk1, hk, rfl, HN⟩ := hrel
    by_cases hlt : k < 256
    · have HK : Hid (k < 256) := hlt
      have h8 : IntKind.u8.wrap (k : Int) = (k : Int) := by rw [IntKind.wrap_u8']; omega
      have HC : Hid (∀ w, Calls Try.prog 67 #[.int .u8 a, .int .u8 k] w fun e w' => e = .returned (.int .u8 (gm a k)) ∧ w' = w) := fun w => rmul_any a k w HA.out hlt
      by_cases hg : gm a k = 1
      · have HI : Hid (k = iv a) := iv_only a k HA.out hlt hg
        rw [hg] at HC
        clear hg
        go_wp2_with (go_at_call 67; refine (HC.out _).mono ?_; rintro e w' ⟨rfl, hw⟩; obtain rfl := hw.symm)
        go_ret
        exact ⟨ret_int (by rw [← HI.out]; try omega), rfl⟩
      · have HM : Hid (∀ j, 1 ≤ j → j < k + 1 → gm a j ≠ 1) := fun j h1 h2 => by
          by_cases hj : j = k
          · subst hj; exact hg
          · exact HN.out j h1 (by omega)
        generalize gm a k = g at HC hg
        have hg' : ¬ ((g : Int) = 1) := by omega
        clear hg HN
        go_wp2_with (go_at_call 67; refine (HC.out _).mono ?_; rintro e w' ⟨rfl, hw⟩; obtain rfl := hw.symm)
        go_round
        case rel => exact ⟨k + 1, by omega, by omega, by go_num, HM⟩
        case measure => simp [intOf]; omega
    · have hks : k = 256 := by omega
      subst hks
      have HZ : Hid (iv a = 0) := by
        by_cases h0 : a = 0
        · subst h0; exact iv_zero
        · exfalso
          have h1 := gm_iv a HA.out h0
          refine HN.out (iv a) ?_ (iv_lt a) h1
          rcases Nat.eq_zero_or_pos (iv a) with h | h
          · rw [h, gm_zero] at h1; omega
          · exact h
      clear HN
      go_wp2
      go_ret
      exact ⟨ret_int (by rw [HZ.out]; rfl), rfl⟩
end Go.Proofs.Ytjiddmgnkldmkaa
