/- What field's Times, Mul, Pow and Inv answer. No claim of its own. -/
import Derived.Test.YtdchelbobmdmpaaFMath
import Derived.Deep.RegionWith
namespace Go.Proofs.Ytdchelbobmdmpaa
open Go.RowKit

theorem and128 : ∀ a : Nat, a < 256 → bits .and .u8 (a : Int) 128 = if a.testBit 7 then 128 else 0 := by decide +kernel
theorem tm_hi : ∀ a : Nat, a < 256 → a.testBit 7 = true → bits .xor .u8 ((a : Int) * 2 % 256) 27 = (tm a : Int) := by decide +kernel
theorem tm_lo : ∀ a : Nat, a < 256 → a.testBit 7 = false → (a : Int) * 2 % 256 = (tm a : Int) := by decide +kernel
theorem and1 : ∀ a : Nat, a < 256 → bits .and .u8 (a : Int) 1 = if a.testBit 0 then 1 else 0 := by decide +kernel

theorem i64_and1 (n : Int) : bits .and .i64 n 1 = n % 2 := by
  have h1 : (BitVec.ofInt 64 1).toNat = 2 ^ 1 - 1 := by decide
  have key : (BitVec.ofInt 64 n &&& BitVec.ofInt 64 1).toNat = (n % ((2 ^ 64 : Nat) : Int)).toNat % 2 ^ 1 := by
    rw [BitVec.toNat_and, BitVec.toNat_ofInt, h1, Nat.and_two_pow_sub_one_eq_mod]
  show IntKind.i64.wrap ((BitVec.ofInt 64 n &&& BitVec.ofInt 64 1).toNat : Nat) = n % 2
  rw [key, IntKind.wrap_i64]
  omega
end Go.Proofs.Ytdchelbobmdmpaa
