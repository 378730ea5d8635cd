/- What geometry's small functions answer, of a geometry in its place. No claim of its own. -/
import Derived.Test.YtmbfccclghnaeaaDoorPackA
import Derived.Test.YtmbfccclghnaeaaDoorXGMath
namespace Go.Proofs.YtmbfccclghnaeaaDoor.ge
open Go.RowKit
set_option maxRecDepth 20000

/-- each number of the geometry g (blocks, pages, sector, spare, wear, rounds) is in its range -/
def Kept (g : List Int) : Prop := (7 ≤ gb g 0 ∧ gb g 0 ≤ 64) ∧ (4 ≤ gb g 1 ∧ gb g 1 ≤ 32) ∧ (32 ≤ gb g 2 ∧ gb g 2 ≤ 4096) ∧ (0 ≤ gb g 3 ∧ gb g 3 ≤ 8) ∧ (1 ≤ gb g 4 ∧ gb g 4 ≤ 1000) ∧ (1 ≤ gb g 5 ∧ gb g 5 ≤ 1000)
/-- how many sectors a record takes -/
def rec (g : List Int) : Int := (624 + gb g 2 - 1) / gb g 2
/-- the geometry is right -/
def Rt (g : List Int) : Prop := Kept g ∧ gb g 2 % 16 = 0 ∧ rec g ≤ gb g 1 ∧ gb g 3 + 3 ≤ gb g 0 - 4
end Go.Proofs.YtmbfccclghnaeaaDoor.ge
