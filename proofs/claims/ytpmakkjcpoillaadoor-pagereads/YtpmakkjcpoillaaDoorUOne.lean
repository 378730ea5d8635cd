/- What fault's Bit, and the reference's Has and Bit answer. No claim of its own. -/
import Derived.Test.YtpmakkjcpoillaaDoorUHas
namespace Go.Proofs.YtpmakkjcpoillaaDoor.fa
open Go.RowKit
set_option maxRecDepth 20000

/-- what a mask says of the bit of any number -/
def bo (m : List Int) (i : Int) : Bool := if i < 0 then false else mk m i.toNat

theorem bit_prog (x : Int) (t : Nat) (h0 : 0 ≤ x) (h1 : x ≤ 255) : (bits .and .u8 (x / 2 ^ t) 1 != 0) = bit x.toNat t := by
  obtain ⟨X, rfl⟩ := Int.eq_ofNat_of_zero_le h0
  have e : ((X : Int) / 2 ^ t) = ((X / 2 ^ t : Nat) : Int) := by rw [Int.natCast_ediv]; norm_cast
  have l : X / 2 ^ t ≤ X := Nat.div_le_self _ _
  rw [e, Int.toNat_natCast]
  have := u8_and_nat (X / 2 ^ t) 1 (by omega) (by omega)
  rw [show ((1 : Nat) : Int) = 1 from rfl] at this
  rw [this, Nat.and_one_is_mod]
  unfold bit
  by_cases q : X / 2 ^ t % 2 = 1
  · rw [q]; decide
  · rw [show X / 2 ^ t % 2 = 0 by omega]; decide
end Go.Proofs.YtpmakkjcpoillaaDoor.fa
