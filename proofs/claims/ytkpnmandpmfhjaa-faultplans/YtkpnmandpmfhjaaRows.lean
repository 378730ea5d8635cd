/-
  No cell of these rows narrows 'for every input' (looked for: loops, veiled, ifaces, maps, wideKeys, modest, calm, conditions, laid).
  DERIVED. THE GIVEN ROWS OF THIS SEAT. 5 by the template 'for every input the law returns true; each argument reads behind the call as it read before'; 0 by the template 'total and deterministic' (their statements: YtkpnmandpmfhjaaTotals.lean).
  GIVEN WITH THE SEED: the statements are not yours to turn. If you find one false, say at which input.
  Laid BY PROGRAM, IN A SANDBOX (cutbox-rows.mjs): the forced cells as the released guide's own fill.sh prints them over the translation c13400f530b0a8ef… (all of the seat's roots in one cut). By AI agents, Wed Nov 11 2026. No macro, syntax, notation, axiom, sorry.
-/
import Derived.Test.YtkpnmandpmfhjaaChecked
import GoSem.Claim
import GoSem.ClaimJoined
import GoSem.ClaimMapViews
import Derived.JoinedTies
import Derived.KernelRfl
namespace Go.Proofs.Ytkpnmandpmfhjaa
/- THE CELL 'sum', in the pinned program and in every row, IS THE sha256 OF THE DUMP (.gsa) THAT YtkpnmandpmfhjaaProg.lean LOADS. Nothing in Lean hashes anything: it is a label: what it is worth is what the hold of that sum in a sandbox is worth. -/
noncomputable def Try.pinned : Pinned := { name := "ytkpnmandpmfhjaa", sum := "c13400f530b0a8ef10de60e503be8dc655c92084e7985b57214a860ec7b16ef8", checked := Try.checked }
namespace Rows
def none {H : Type} : Left H := { results := [], args := [] }

/-- 'nepenthelaw12.FaultBits': WHATEVER THE INPUT: true; the input reads as it did. -/
def faultBitsSpec : ChangeSpec := { name := "faultBits", fn := fun _ => fun
  | [d1, d2] => { results := [.lit (.bool true)], args := [d1, d2] }
  | _ => none }
def faultBitsRow : OpenClaim := { program := "ytkpnmandpmfhjaa", sum := "c13400f530b0a8ef10de60e503be8dc655c92084e7985b57214a860ec7b16ef8", func := "nepenthe/nepenthelaw12.FaultBits", spec := "faultBits", unfollowed := true, recurses := true, apart := false }
def FaultBitsSaid : Prop := faultBitsRow.holds Try.pinned (OpenSpec.ofChange faultBitsSpec)

/-- ITS FALSE NEIGHBOUR: 'it returns false'. Refute it at one input. -/
def faultBitsWrong : ChangeSpec := { name := "faultBits", fn := fun _ => fun
  | [d1, d2] => { results := [.lit (.bool false)], args := [d1, d2] }
  | _ => none }
def FaultBitsWrongFalsely : Prop := faultBitsRow.holds Try.pinned (OpenSpec.ofChange faultBitsWrong)

/-- 'nepenthelaw12.FaultClears': WHATEVER THE INPUT: true; the input reads as it did. -/
def faultClearsSpec : ChangeSpec := { name := "faultClears", fn := fun _ => fun
  | [d1, d2, d3] => { results := [.lit (.bool true)], args := [d1, d2, d3] }
  | _ => none }
def faultClearsRow : OpenClaim := { program := "ytkpnmandpmfhjaa", sum := "c13400f530b0a8ef10de60e503be8dc655c92084e7985b57214a860ec7b16ef8", func := "nepenthe/nepenthelaw12.FaultClears", spec := "faultClears", unfollowed := true, recurses := true, apart := false }
def FaultClearsSaid : Prop := faultClearsRow.holds Try.pinned (OpenSpec.ofChange faultClearsSpec)

/-- ITS FALSE NEIGHBOUR: 'it returns false'. Refute it at one input. -/
def faultClearsWrong : ChangeSpec := { name := "faultClears", fn := fun _ => fun
  | [d1, d2, d3] => { results := [.lit (.bool false)], args := [d1, d2, d3] }
  | _ => none }
def FaultClearsWrongFalsely : Prop := faultClearsRow.holds Try.pinned (OpenSpec.ofChange faultClearsWrong)

/-- 'nepenthelaw12.FaultSets': WHATEVER THE INPUT: true; the input reads as it did. -/
def faultSetsSpec : ChangeSpec := { name := "faultSets", fn := fun _ => fun
  | [d1, d2] => { results := [.lit (.bool true)], args := [d1, d2] }
  | _ => none }
def faultSetsRow : OpenClaim := { program := "ytkpnmandpmfhjaa", sum := "c13400f530b0a8ef10de60e503be8dc655c92084e7985b57214a860ec7b16ef8", func := "nepenthe/nepenthelaw12.FaultSets", spec := "faultSets", unfollowed := true, recurses := true, apart := false }
def FaultSetsSaid : Prop := faultSetsRow.holds Try.pinned (OpenSpec.ofChange faultSetsSpec)

/-- ITS FALSE NEIGHBOUR: 'it returns false'. Refute it at one input. -/
def faultSetsWrong : ChangeSpec := { name := "faultSets", fn := fun _ => fun
  | [d1, d2] => { results := [.lit (.bool false)], args := [d1, d2] }
  | _ => none }
def FaultSetsWrongFalsely : Prop := faultSetsRow.holds Try.pinned (OpenSpec.ofChange faultSetsWrong)

/-- 'nepenthelaw12.FaultWhole': WHATEVER THE INPUT: true; the input reads as it did. -/
def faultWholeSpec : ChangeSpec := { name := "faultWhole", fn := fun _ => fun
  | [d1, d2, d3] => { results := [.lit (.bool true)], args := [d1, d2, d3] }
  | _ => none }
def faultWholeRow : OpenClaim := { program := "ytkpnmandpmfhjaa", sum := "c13400f530b0a8ef10de60e503be8dc655c92084e7985b57214a860ec7b16ef8", func := "nepenthe/nepenthelaw12.FaultWhole", spec := "faultWhole", unfollowed := true, recurses := true, apart := false }
def FaultWholeSaid : Prop := faultWholeRow.holds Try.pinned (OpenSpec.ofChange faultWholeSpec)

/-- ITS FALSE NEIGHBOUR: 'it returns false'. Refute it at one input. -/
def faultWholeWrong : ChangeSpec := { name := "faultWhole", fn := fun _ => fun
  | [d1, d2, d3] => { results := [.lit (.bool false)], args := [d1, d2, d3] }
  | _ => none }
def FaultWholeWrongFalsely : Prop := faultWholeRow.holds Try.pinned (OpenSpec.ofChange faultWholeWrong)

/-- 'nepenthelaw12.FaultPlans': WHATEVER THE INPUT: true; the input reads as it did. -/
def faultPlansSpec : ChangeSpec := { name := "faultPlans", fn := fun _ => fun
  | [d1, d2] => { results := [.lit (.bool true)], args := [d1, d2] }
  | _ => none }
def faultPlansRow : OpenClaim := { program := "ytkpnmandpmfhjaa", sum := "c13400f530b0a8ef10de60e503be8dc655c92084e7985b57214a860ec7b16ef8", func := "nepenthe/nepenthelaw12.FaultPlans", spec := "faultPlans", unfollowed := true, recurses := true, apart := false }
def FaultPlansSaid : Prop := faultPlansRow.holds Try.pinned (OpenSpec.ofChange faultPlansSpec)

/-- ITS FALSE NEIGHBOUR: 'it returns false'. Refute it at one input. -/
def faultPlansWrong : ChangeSpec := { name := "faultPlans", fn := fun _ => fun
  | [d1, d2] => { results := [.lit (.bool false)], args := [d1, d2] }
  | _ => none }
def FaultPlansWrongFalsely : Prop := faultPlansRow.holds Try.pinned (OpenSpec.ofChange faultPlansWrong)

/- THE SECOND FORM. 'bulk': how many values and letters a reading holds, each counted each time it is reached (what is shared counts as often as it is met; a slice's spare places count too). A statement '..UptoSaid' is the law's where the arguments, and the package variables that the reading takes, are together of bulk at most 1048576: NARROWER than '..Said'. Prove '..Said' where nothing that the law and all that it calls make is longer than what came in: it says more and counts as full. Else prove '..UptoSaid'. A law counts once. -/
mutual
def uptoBulk {H : Type} : DataW H → Nat
  | .lit (.string bytes) => bytes.length + 1
  | .lit _ => 1
  | .nil => 1
  | .ptr d => uptoBulk d + 1
  | .slice elems spare => uptoBulkAll elems + uptoBulkAll spare + 1
  | .agg parts => uptoBulkAll parts + 1
  | .iface _ d => uptoBulk d + 1
  | .map entries => uptoBulkEntries entries + 1
  | .held _ => 1
def uptoBulkAll {H : Type} : List (DataW H) → Nat
  | [] => 0
  | d :: r => uptoBulk d + uptoBulkAll r
def uptoBulkEntries {H : Type} : List (Lit × DataW H) → Nat
  | [] => 0
  | x :: r => uptoBulkEntry x + uptoBulkEntries r
def uptoBulkEntry {H : Type} : Lit × DataW H → Nat
  | (.string bytes, d) => bytes.length + uptoBulk d + 1
  | (_, d) => uptoBulk d + 1
 end
def uptoSmall : (H : Type) → List (DataW H) → Bool := fun _ ds => decide (uptoBulkAll ds ≤ 1048576)
def OpenSpec.upto (s : _root_.Go.ChangeSpec) : _root_.Go.OpenSpec := { _root_.Go.OpenSpec.ofChange s with cond := some uptoSmall }

/-- 'nepenthelaw12.FaultBits', WHERE WHAT IT READS IS OF BULK AT MOST 1048576: true; the input reads as it did. -/
def faultBitsUptoRow : OpenClaim := { program := "ytkpnmandpmfhjaa", sum := "c13400f530b0a8ef10de60e503be8dc655c92084e7985b57214a860ec7b16ef8", func := "nepenthe/nepenthelaw12.FaultBits", spec := "faultBits", unfollowed := true, recurses := true, apart := false, narrowed := true }
def FaultBitsUptoSaid : Prop := faultBitsUptoRow.holds Try.pinned (OpenSpec.upto faultBitsSpec)

/-- 'nepenthelaw12.FaultClears', WHERE WHAT IT READS IS OF BULK AT MOST 1048576: true; the input reads as it did. -/
def faultClearsUptoRow : OpenClaim := { program := "ytkpnmandpmfhjaa", sum := "c13400f530b0a8ef10de60e503be8dc655c92084e7985b57214a860ec7b16ef8", func := "nepenthe/nepenthelaw12.FaultClears", spec := "faultClears", unfollowed := true, recurses := true, apart := false, narrowed := true }
def FaultClearsUptoSaid : Prop := faultClearsUptoRow.holds Try.pinned (OpenSpec.upto faultClearsSpec)

/-- 'nepenthelaw12.FaultSets', WHERE WHAT IT READS IS OF BULK AT MOST 1048576: true; the input reads as it did. -/
def faultSetsUptoRow : OpenClaim := { program := "ytkpnmandpmfhjaa", sum := "c13400f530b0a8ef10de60e503be8dc655c92084e7985b57214a860ec7b16ef8", func := "nepenthe/nepenthelaw12.FaultSets", spec := "faultSets", unfollowed := true, recurses := true, apart := false, narrowed := true }
def FaultSetsUptoSaid : Prop := faultSetsUptoRow.holds Try.pinned (OpenSpec.upto faultSetsSpec)

/-- 'nepenthelaw12.FaultWhole', WHERE WHAT IT READS IS OF BULK AT MOST 1048576: true; the input reads as it did. -/
def faultWholeUptoRow : OpenClaim := { program := "ytkpnmandpmfhjaa", sum := "c13400f530b0a8ef10de60e503be8dc655c92084e7985b57214a860ec7b16ef8", func := "nepenthe/nepenthelaw12.FaultWhole", spec := "faultWhole", unfollowed := true, recurses := true, apart := false, narrowed := true }
def FaultWholeUptoSaid : Prop := faultWholeUptoRow.holds Try.pinned (OpenSpec.upto faultWholeSpec)

/-- 'nepenthelaw12.FaultPlans', WHERE WHAT IT READS IS OF BULK AT MOST 1048576: true; the input reads as it did. -/
def faultPlansUptoRow : OpenClaim := { program := "ytkpnmandpmfhjaa", sum := "c13400f530b0a8ef10de60e503be8dc655c92084e7985b57214a860ec7b16ef8", func := "nepenthe/nepenthelaw12.FaultPlans", spec := "faultPlans", unfollowed := true, recurses := true, apart := false, narrowed := true }
def FaultPlansUptoSaid : Prop := faultPlansUptoRow.holds Try.pinned (OpenSpec.upto faultPlansSpec)

end Rows
end Go.Proofs.Ytkpnmandpmfhjaa
