/- What fault's Bit, and the reference's Has and Bit answer. No claim of its own. -/
import Derived.Test.YtjlnalfbaojedaaDoorUHas
namespace Go.Proofs.YtjlnalfbaojedaaDoor.fa
open Go.RowKit
set_option maxRecDepth 20000

/-- what a mask says of the bit of any number -/
def bo (m : List Int) (i : Int) : Bool := if i < 0 then false else mk m i.toNat

theorem bit_prog (x : Int) (t : Nat) (h0 : 0 ≤ x) (h1 : x ≤ 255) : (bits .and .u8 (x / 2 ^ t) 1 != 0) = bit x.toNat t := by
  obtain ⟨X, rfl⟩ := Int.eq_ofNat_of_zero_le h0
  have e : ((X : Int) / 2 ^ t) = ((X / 2 ^ t : Nat) : Int) := by rw [Int.natCast_ediv]; norm_cast
  have l : X / 2 ^ t ≤ X := Nat.div_le_self _ _
  rw [e, Int.toNat_natCast]
  have := u8_and_nat (X / 2 ^ t) 1 (by omega) (by omega)
  rw [show ((1 : Nat) : Int) = 1 from rfl] at this
  rw [this, Nat.and_one_is_mod]
  unfold bit
  by_cases q : X / 2 ^ t % 2 = 1
  · rw [q]; decide
  · rw [show X / 2 ^ t % 2 = 0 by omega]; decide

set_option maxHeartbeats 1000000 in
theorem rhas_any (v : Value) (xs : List Int) (i : Nat) (w : World) (h : Byt w v xs) (hi : i < 8 * xs.length) (hx : xs.length ≤ 1048576) :
    Calls Tryd.prog 41 #[v, .int .i64 i] w fun e w' => e = .returned (.bool (hs xs i)) ∧ ∃ n, w' = w.drewN n := by
  obtain ⟨ao, cap, rfl, h2, h3, h4, h5, h6⟩ := h
  obtain ⟨b, off, rfl, hc⟩ := h6 (by omega)
  have S : Hid (∀ w0, Calls Tryd.prog 43 #[.int .i64 ((i % 8 : Nat) : Int)] w0 fun e w' => e = .returned (.int .i64 ((2 ^ (i % 8) : Nat) : Int)) ∧ w' = w0) := fun w0 => power_any (i % 8) w0 (by omega)
  unfold hs bit
  have hb := h4 (i / 8)
  generalize ht : i % 8 = t at *
  generalize hj : i / 8 = j at *
  have c1 := hc j (by omega)
  have r1 : (i : Int).tdiv 8 = (j : Int) := by rw [Int.tdiv_eq_ediv_of_nonneg (by omega)]; omega
  have r2 : (i : Int).tmod 8 = (t : Int) := by rw [Int.tmod_eq_emod_of_nonneg (by omega)]; omega
  have j2 : IntKind.i64.wrap (j : Int) = j := by rw [IntKind.wrap_i64]; omega
  have t2 : IntKind.i64.wrap (t : Int) = t := by rw [IntKind.wrap_i64]; omega
  have j1 : (j : Int) < (xs.length : Int) := by omega
  have j0 : (0 : Int) ≤ (j : Int) := by omega
  have q0 : 0 < 2 ^ t := Nat.two_pow_pos t
  obtain ⟨x, hx2⟩ : ∃ x : Nat, gb xs j = x := ⟨(gb xs j).toNat, by omega⟩
  have xb : x ≤ 255 := by omega
  rw [hx2] at c1 ⊢
  rw [Int.toNat_natCast]
  have q2 : 2 ^ t ≤ 128 := Nat.pow_le_pow_right (by omega) (show t ≤ 7 by omega)
  generalize 2 ^ t = q at *
  have r3 : (x : Int).tdiv (q : Int) = ((x / q : Nat) : Int) := by rw [Int.tdiv_eq_ediv_of_nonneg (by omega), Int.natCast_ediv]
  have l3 : x / q ≤ x := Nat.div_le_self _ _
  generalize x / q = y at *
  have r4 : (y : Int).tmod 2 = ((y % 2 : Nat) : Int) := by rw [Int.tmod_eq_emod_of_nonneg (by omega)]; omega
  have r5 : IntKind.i64.wrap (y : Int) = (y : Int) := by rw [IntKind.wrap_i64]; omega
  have zb : y % 2 ≤ 1 := by omega
  generalize y % 2 = z at *
  have r6 : IntKind.i64.wrap (z : Int) = (z : Int) := by rw [IntKind.wrap_i64]; omega
  have r7 : IntKind.i64.wrap (x : Int) = (x : Int) := by rw [IntKind.wrap_i64]; omega
  have qn : (q : Int) ≠ 0 := by omega
  clear hc h6 h4 h5 hx2 hb
  go_enter Tryd.func41, Tryd.ntmps41
  go_wp2
  go_quiet ((go_at_call 43; exact Calls.quiet_of_same (S.out _)))
  go_wp2
  go_ret
  exact ⟨ret_bool (by rw [Bool.eq_iff_iff]; simp; omega), _, rfl⟩
end Go.Proofs.YtjlnalfbaojedaaDoor.fa
