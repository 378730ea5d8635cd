/- What aes' stirred answers; four bytes and their number. No claim of its own. -/
import Derived.Test.YtjiddmgnkldmkaaAWord
import Derived.Test.YtjiddmgnkldmkaaNumbers
namespace Go.Proofs.Ytjiddmgnkldmkaa
open Go.RowKit

theorem num4 (x : List Int) (h : Wd x) : num (last8 x) = (n4 x : Int) := by
  have h0 := (wd_bd h 0)
  have h1 := (wd_bd h 1)
  have h2 := (wd_bd h 2)
  have h3 := (wd_bd h 3)
  have e : last8 x = x := by unfold last8; rw [h.1]; rfl
  rw [e]
  obtain ⟨a, b, c, d, rfl⟩ : ∃ a b c d, x = [a, b, c, d] := ⟨_, _, _, _, four_gb x h.1⟩
  simp only [gb, List.getD, List.getElem?_cons_zero, List.getElem?_cons_succ, Option.getD_some] at h0 h1 h2 h3
  simp only [num, n4, gb, List.foldl, List.getD, List.getElem?_cons_zero, List.getElem?_cons_succ, Option.getD_some]
  omega
theorem be4n (x : List Int) (h : Wd x) : (le (n4 x : Int) 4).reverse = x := by
  have h0 := (wd_bd h 0)
  have h1 := (wd_bd h 1)
  have h2 := (wd_bd h 2)
  have h3 := (wd_bd h 3)
  have e : (le (n4 x : Int) 4).reverse = [sh (n4 x) 3 % 256, sh (n4 x) 2 % 256, sh (n4 x) 1 % 256, sh (n4 x) 0 % 256] := rfl
  rw [e, four_gb x h.1]
  have e0 : sh (n4 x) 0 = (n4 x : Int) := rfl
  have e1 : sh (n4 x) 1 = (n4 x : Int) / 256 := rfl
  have e2 : sh (n4 x) 2 = (n4 x : Int) / 256 / 256 := rfl
  have e3 : sh (n4 x) 3 = (n4 x : Int) / 256 / 256 / 256 := rfl
  rw [← four_gb x h.1, e3, e2, e1, e0]
  unfold n4
  have f0 : ((((gb x 0).toNat * 16777216 + (gb x 1).toNat * 65536 + (gb x 2).toNat * 256 + (gb x 3).toNat : Nat) : Int) / 256 / 256 / 256) % 256 = gb x 0 := by omega
  have f1 : ((((gb x 0).toNat * 16777216 + (gb x 1).toNat * 65536 + (gb x 2).toNat * 256 + (gb x 3).toNat : Nat) : Int) / 256 / 256) % 256 = gb x 1 := by omega
  have f2 : ((((gb x 0).toNat * 16777216 + (gb x 1).toNat * 65536 + (gb x 2).toNat * 256 + (gb x 3).toNat : Nat) : Int) / 256) % 256 = gb x 2 := by omega
  have f3 : (((gb x 0).toNat * 16777216 + (gb x 1).toNat * 65536 + (gb x 2).toNat * 256 + (gb x 3).toNat : Nat) : Int) % 256 = gb x 3 := by omega
  rw [f0, f1, f2, f3]
  exact (four_gb x h.1).symm
/-- rotated to the left by 8 -/
def rl8 (x : Nat) : Nat := x * 256 % 4294967296 + x / 16777216
theorem rl8_lt (x : Nat) (h : x < 4294967296) : rl8 x < 4294967296 := by unfold rl8; omega
/-- what goes into word i of the word ahead of it -/
def stn (i x : Nat) : Nat := if i % 8 = 0 then wsum (rl8 x) 4 ^^^ pw 2 (i / 8 - 1) * 16777216 else if i % 8 = 4 then wsum x 4 else x

theorem rot8_eq (x : Nat) (h : x < 4294967296) : bits .or .u32 (IntKind.u32.wrap ((x : Int) * 256)) (IntKind.u32.wrap ((x : Int) / 16777216)) = (rl8 x : Int) := by
  have e1 : IntKind.u32.wrap ((x : Int) * 256) = ((2 ^ 8 * (x % 16777216) : Nat) : Int) := by rw [IntKind.wrap_u32]; omega
  have e2 : IntKind.u32.wrap ((x : Int) / 16777216) = ((x / 16777216 : Nat) : Int) := by rw [IntKind.wrap_u32]; omega
  rw [e1, e2, u32_or_nat _ _ (by omega) (by omega), ← Nat.two_pow_add_eq_or_of_lt (by omega) (x % 16777216)]
  unfold rl8
  omega

set_option maxHeartbeats 1000000 in
theorem rotl8_any (x : Nat) (w : World) (hx : x < 4294967296) :
    Calls Try.prog 72 #[.int .u32 x, .int .i64 8] w fun e w' => e = .returned (.int .u32 (rl8 x)) ∧ w' = w := by
  have h8 : bits .and .u64 8 31 = 8 := by decide +kernel
  have HX : Hid (x < 4294967296) := hx
  have w1 : IntKind.u32.wrap ((x : Int) / 16777216) = (x : Int) / 16777216 := by rw [IntKind.wrap_u32]; omega
  have HE := rot8_eq x hx
  rw [w1] at HE
  have HE' : Hid (bits .or .u32 (IntKind.u32.wrap ((x : Int) * 256)) ((x : Int) / 16777216) = (rl8 x : Int)) := HE
  clear hx HE
  go_enter Try.func72, Try.ntmps72
  go_wp2
  go_ret
  exact ⟨ret_int HE'.out, rfl⟩

theorem pw_bd (i : Nat) : pw 2 i < 256 := pw_lt 2 i
set_option maxHeartbeats 2000000 in
theorem stir_any (x i : Nat) (w : World) (hx : x < 4294967296) (hi : 8 ≤ i) (hi' : i < 60) :
    Calls Try.prog 51 #[.int .u32 x, .int .i64 i] w fun e w' => e = .returned (.int .u32 (stn i x)) ∧ Below w.heap.size w w' := by
  have q1 : IntKind.i64.wrap (i : Int) = i := by rw [IntKind.wrap_i64]; omega
  by_cases h0 : i % 8 = 0
  · have e0 : ((i : Int)).tmod 8 = 0 := by rw [Int.tmod_eq_emod_of_nonneg (by omega)]; omega
    obtain ⟨d, hd⟩ : ∃ d, d = i / 8 - 1 := ⟨_, rfl⟩
    have e1 : ((i : Int)).tdiv 8 = (d : Int) + 1 := by rw [Int.tdiv_eq_ediv_of_nonneg (by omega)]; omega
    have e2 : IntKind.i64.wrap ((d : Int) + 1) = (d : Int) + 1 := by rw [IntKind.wrap_i64]; omega
    have e3 : IntKind.i64.wrap ((d : Int) + 1 - 1) = (d : Int) := by rw [IntKind.wrap_i64]; omega
    have e6 : IntKind.i64.wrap (d : Int) = (d : Int) := by rw [IntKind.wrap_i64]; omega
    have P1 : Hid (∀ w0, Calls Try.prog 70 #[.int .u8 2, .int .i64 d] w0 fun e w' => e = .returned (.int .u8 (pw 2 d)) ∧ w' = w0) := fun w0 => by
      have := pow_any 2 (d : Int) w0 (by omega) (by omega)
      rwa [Int.toNat_natCast] at this
    have R1 : Hid (∀ w0, Calls Try.prog 72 #[.int .u32 x, .int .i64 8] w0 fun e w' => e = .returned (.int .u32 (rl8 x)) ∧ w' = w0) := fun w0 => rotl8_any x w0 hx
    have W1 : Hid (∀ w0, Calls Try.prog 71 #[.int .u32 (rl8 x)] w0 fun e w' => e = .returned (.int .u32 (wsum (rl8 x) 4)) ∧ Below w0.heap.size w0 w') := fun w0 => word_any (rl8 x) w0
    have HS : Hid ((stn i x : Int) = bits .xor .u32 (wsum (rl8 x) 4 : Int) (IntKind.u32.wrap (((pw 2 d : Nat) : Int) * 16777216))) := by
      show _ = _
      have hp := pw_lt 2 d
      have hw := wsum_lt (rl8 x) 4
      have e4 : IntKind.u32.wrap (((pw 2 d : Nat) : Int) * 16777216) = ((pw 2 d * 16777216 : Nat) : Int) := by rw [IntKind.wrap_u32]; omega
      rw [e4, u32_xor_nat _ _ (by omega) (by omega)]
      unfold stn
      rw [if_pos h0, ← hd]
    have hp8 : pw 2 d < 256 := pw_lt 2 d
    have e5 : IntKind.u32.wrap ((pw 2 d : Nat) : Int) = ((pw 2 d : Nat) : Int) := by rw [IntKind.wrap_u32]; omega
    generalize stn i x = z at *
    generalize wsum (rl8 x) 4 = ws at *
    generalize rl8 x = rx at *
    generalize pw 2 d = p at *
    clear hd hp8
    go_enter Try.func51, Try.ntmps51
    go_wp2_with (first
      | (go_at_call 71; refine (W1.out _).mono ?_; rintro e w1 ⟨rfl, B1⟩)
      | (go_at_call 72; refine (R1.out _).mono ?_; rintro e w1 ⟨rfl, hw⟩; obtain rfl := hw.symm)
      | (go_at_call 70; refine (P1.out _).mono ?_; rintro e w1 ⟨rfl, hw⟩; obtain rfl := hw.symm))
    go_ret
    exact ⟨ret_int HS.out.symm, B1⟩
  · by_cases h4 : i % 8 = 4
    · have e0 : ((i : Int)).tmod 8 = 4 := by rw [Int.tmod_eq_emod_of_nonneg (by omega)]; omega
      have W1 : Hid (∀ w0, Calls Try.prog 71 #[.int .u32 x] w0 fun e w' => e = .returned (.int .u32 (wsum x 4)) ∧ Below w0.heap.size w0 w') := fun w0 => word_any x w0
      have HS : Hid (stn i x = wsum x 4) := by show _ = _; unfold stn; rw [if_neg h0, if_pos h4]
      rw [HS.out]
      generalize wsum x 4 = ws at *
      go_enter Try.func51, Try.ntmps51
      go_wp2_with (go_at_call 71; refine (W1.out _).mono ?_; rintro e w1 ⟨rfl, B1⟩)
      go_ret
      exact ⟨rfl, B1⟩
    · obtain ⟨r, hr⟩ : ∃ r, r = i % 8 := ⟨_, rfl⟩
      have e0 : ((i : Int)).tmod 8 = (r : Int) := by rw [Int.tmod_eq_emod_of_nonneg (by omega)]; omega
      have r0 : ¬ ((r : Int) = 0) := by omega
      have r4 : ¬ ((r : Int) = 4) := by omega
      have r5 : IntKind.i64.wrap (r : Int) = r := by rw [IntKind.wrap_i64]; omega
      have HS : stn i x = x := by unfold stn; rw [if_neg h0, if_neg h4]
      rw [HS]
      clear hr h0 h4 HS
      go_enter Try.func51, Try.ntmps51
      go_wp2
      go_ret
      exact ⟨rfl, Below.refl _ _⟩
end Go.Proofs.Ytjiddmgnkldmkaa
