/-
  NARROWER THAN 'FOR EVERY INPUT', by the rows' own cells (each row's printed sentence says how): ScanArrays: laid · ScanBlocks: laid · ScanPayloads: laid.
  DERIVED. THE GIVEN ROWS OF THIS SEAT. 3 by the template 'for every input the law returns true; each argument reads behind the call as it read before'; 0 by the template 'total and deterministic' (their statements: YtmbgokmomkmgcaaGreatDoorTotals.lean).
  GIVEN WITH THE SEED: the statements are not yours to turn. If you find one false, say at which input.
  Laid BY PROGRAM, IN A SANDBOX (cutbox-rows.mjs): the forced cells as the released guide's own fill.sh prints them over the translation 2860400e2cef6cb6… (all of the seat's roots in one cut). By AI agents, Wed Nov 11 2026. No macro, syntax, notation, axiom, sorry.
-/
import Derived.Test.YtmbgokmomkmgcaaGreatDoorChecked
import GoSem.Claim
import GoSem.ClaimJoined
import GoSem.ClaimMapViews
import Derived.JoinedTies
import Derived.KernelRfl
namespace Go.Proofs.YtmbgokmomkmgcaaGreatDoor
/- THE CELL 'sum', in the pinned program and in every row, IS THE sha256 OF THE DUMP (.gsa) THAT YtmbgokmomkmgcaaGreatDoorProg.lean LOADS. Nothing in Lean hashes anything: it is a label: what it is worth is what the hold of that sum in a sandbox is worth. -/
noncomputable def Tryz.pinned : Pinned := { name := "ytmbgokmomkmgcaagreatdoor", sum := "2860400e2cef6cb63c35afccedfbd4b8898ee2d72b01421569f076384172283c", checked := Tryz.checked }
namespace Rows
def none {H : Type} : Left H := { results := [], args := [] }

/- WHAT THE LISTED PACKAGE-LEVEL VARIABLES READ AS WHEN THE CALL BEGINS. Each datum BY PROGRAM (the guide's laid-datum.mjs) off the statement by which the dump's own 'gosem.cut.vars' lays the variable. In a bare row this is a premise. The card (YtmbgokmomkmgcaaGreatDoorCards.lean) ties it to the program's text. -/
def laid_nepenthe_head_sizes {H : Type} : DataW H := .agg [.lit (.int .i64 1), .lit (.int .i64 1), .lit (.int .i64 1), .lit (.int .i64 1), .lit (.int .i64 4), .lit (.int .i64 8), .lit (.int .i64 8)]

/-- 'nepenthelaw23.ScanArrays': WHATEVER THE INPUT: true; the input reads as it did. -/
def scanArraysSpec : ChangeSpec := { name := "scanArrays", fn := fun _ => fun
  | [d] => { results := [.lit (.bool true)], args := [d] }
  | _ => none }
def scanArraysRow : OpenClaim := { program := "ytmbgokmomkmgcaagreatdoor", sum := "2860400e2cef6cb63c35afccedfbd4b8898ee2d72b01421569f076384172283c", func := "nepenthe/nepenthelaw23.ScanArrays", spec := "scanArrays", inPlace := ["internal/bytealg.MakeNoZero"], unfollowed := true, recurses := true, named := ["nepenthe/head.sizes"], plainKeys := false, apart := false, laid := [("nepenthe/head.sizes", laid_nepenthe_head_sizes)] }
def ScanArraysSaid : Prop := scanArraysRow.holds Tryz.pinned (OpenSpec.ofChange scanArraysSpec)

/-- ITS FALSE NEIGHBOUR: 'it returns false'. Refute it at one input. -/
def scanArraysWrong : ChangeSpec := { name := "scanArrays", fn := fun _ => fun
  | [d] => { results := [.lit (.bool false)], args := [d] }
  | _ => none }
def ScanArraysWrongFalsely : Prop := scanArraysRow.holds Tryz.pinned (OpenSpec.ofChange scanArraysWrong)

/-- 'nepenthelaw23.ScanBlocks': WHATEVER THE INPUT: true; the input reads as it did. -/
def scanBlocksSpec : ChangeSpec := { name := "scanBlocks", fn := fun _ => fun
  | [d1, d2, d3] => { results := [.lit (.bool true)], args := [d1, d2, d3] }
  | _ => none }
def scanBlocksRow : OpenClaim := { program := "ytmbgokmomkmgcaagreatdoor", sum := "2860400e2cef6cb63c35afccedfbd4b8898ee2d72b01421569f076384172283c", func := "nepenthe/nepenthelaw23.ScanBlocks", spec := "scanBlocks", inPlace := ["internal/bytealg.MakeNoZero"], unfollowed := true, recurses := true, named := ["nepenthe/head.sizes"], plainKeys := false, apart := false, laid := [("nepenthe/head.sizes", laid_nepenthe_head_sizes)] }
def ScanBlocksSaid : Prop := scanBlocksRow.holds Tryz.pinned (OpenSpec.ofChange scanBlocksSpec)

/-- ITS FALSE NEIGHBOUR: 'it returns false'. Refute it at one input. -/
def scanBlocksWrong : ChangeSpec := { name := "scanBlocks", fn := fun _ => fun
  | [d1, d2, d3] => { results := [.lit (.bool false)], args := [d1, d2, d3] }
  | _ => none }
def ScanBlocksWrongFalsely : Prop := scanBlocksRow.holds Tryz.pinned (OpenSpec.ofChange scanBlocksWrong)

/-- 'nepenthelaw23.ScanPayloads': WHATEVER THE INPUT: true; the input reads as it did. -/
def scanPayloadsSpec : ChangeSpec := { name := "scanPayloads", fn := fun _ => fun
  | [d1, d2] => { results := [.lit (.bool true)], args := [d1, d2] }
  | _ => none }
def scanPayloadsRow : OpenClaim := { program := "ytmbgokmomkmgcaagreatdoor", sum := "2860400e2cef6cb63c35afccedfbd4b8898ee2d72b01421569f076384172283c", func := "nepenthe/nepenthelaw23.ScanPayloads", spec := "scanPayloads", inPlace := ["internal/bytealg.MakeNoZero"], unfollowed := true, recurses := true, named := ["nepenthe/head.sizes"], plainKeys := false, apart := false, laid := [("nepenthe/head.sizes", laid_nepenthe_head_sizes)] }
def ScanPayloadsSaid : Prop := scanPayloadsRow.holds Tryz.pinned (OpenSpec.ofChange scanPayloadsSpec)

/-- ITS FALSE NEIGHBOUR: 'it returns false'. Refute it at one input. -/
def scanPayloadsWrong : ChangeSpec := { name := "scanPayloads", fn := fun _ => fun
  | [d1, d2] => { results := [.lit (.bool false)], args := [d1, d2] }
  | _ => none }
def ScanPayloadsWrongFalsely : Prop := scanPayloadsRow.holds Tryz.pinned (OpenSpec.ofChange scanPayloadsWrong)

/- THE SECOND FORM. 'bulk': how many values and letters a reading holds, each counted each time it is reached (what is shared counts as often as it is met; a slice's spare places count too). A statement '..UptoSaid' is the law's where the arguments, and the package variables that the reading takes, are together of bulk at most 1048576: NARROWER than '..Said'. Prove '..Said' where nothing that the law and all that it calls make is longer than what came in: it says more and counts as full. Else prove '..UptoSaid'. A law counts once. -/
mutual
def uptoBulk {H : Type} : DataW H → Nat
  | .lit (.string bytes) => bytes.length + 1
  | .lit _ => 1
  | .nil => 1
  | .ptr d => uptoBulk d + 1
  | .slice elems spare => uptoBulkAll elems + uptoBulkAll spare + 1
  | .agg parts => uptoBulkAll parts + 1
  | .iface _ d => uptoBulk d + 1
  | .map entries => uptoBulkEntries entries + 1
  | .held _ => 1
def uptoBulkAll {H : Type} : List (DataW H) → Nat
  | [] => 0
  | d :: r => uptoBulk d + uptoBulkAll r
def uptoBulkEntries {H : Type} : List (Lit × DataW H) → Nat
  | [] => 0
  | x :: r => uptoBulkEntry x + uptoBulkEntries r
def uptoBulkEntry {H : Type} : Lit × DataW H → Nat
  | (.string bytes, d) => bytes.length + uptoBulk d + 1
  | (_, d) => uptoBulk d + 1
 end
def uptoSmall : (H : Type) → List (DataW H) → Bool := fun _ ds => decide (uptoBulkAll ds ≤ 1048576)
def OpenSpec.upto (s : _root_.Go.ChangeSpec) : _root_.Go.OpenSpec := { _root_.Go.OpenSpec.ofChange s with cond := some uptoSmall }

/-- 'nepenthelaw23.ScanArrays', WHERE WHAT IT READS IS OF BULK AT MOST 1048576: true; the input reads as it did. -/
def scanArraysUptoRow : OpenClaim := { program := "ytmbgokmomkmgcaagreatdoor", sum := "2860400e2cef6cb63c35afccedfbd4b8898ee2d72b01421569f076384172283c", func := "nepenthe/nepenthelaw23.ScanArrays", spec := "scanArrays", inPlace := ["internal/bytealg.MakeNoZero"], unfollowed := true, recurses := true, named := ["nepenthe/head.sizes"], plainKeys := false, apart := false, laid := [("nepenthe/head.sizes", laid_nepenthe_head_sizes)], narrowed := true }
def ScanArraysUptoSaid : Prop := scanArraysUptoRow.holds Tryz.pinned (OpenSpec.upto scanArraysSpec)

/-- 'nepenthelaw23.ScanBlocks', WHERE WHAT IT READS IS OF BULK AT MOST 1048576: true; the input reads as it did. -/
def scanBlocksUptoRow : OpenClaim := { program := "ytmbgokmomkmgcaagreatdoor", sum := "2860400e2cef6cb63c35afccedfbd4b8898ee2d72b01421569f076384172283c", func := "nepenthe/nepenthelaw23.ScanBlocks", spec := "scanBlocks", inPlace := ["internal/bytealg.MakeNoZero"], unfollowed := true, recurses := true, named := ["nepenthe/head.sizes"], plainKeys := false, apart := false, laid := [("nepenthe/head.sizes", laid_nepenthe_head_sizes)], narrowed := true }
def ScanBlocksUptoSaid : Prop := scanBlocksUptoRow.holds Tryz.pinned (OpenSpec.upto scanBlocksSpec)

/-- 'nepenthelaw23.ScanPayloads', WHERE WHAT IT READS IS OF BULK AT MOST 1048576: true; the input reads as it did. -/
def scanPayloadsUptoRow : OpenClaim := { program := "ytmbgokmomkmgcaagreatdoor", sum := "2860400e2cef6cb63c35afccedfbd4b8898ee2d72b01421569f076384172283c", func := "nepenthe/nepenthelaw23.ScanPayloads", spec := "scanPayloads", inPlace := ["internal/bytealg.MakeNoZero"], unfollowed := true, recurses := true, named := ["nepenthe/head.sizes"], plainKeys := false, apart := false, laid := [("nepenthe/head.sizes", laid_nepenthe_head_sizes)], narrowed := true }
def ScanPayloadsUptoSaid : Prop := scanPayloadsUptoRow.holds Tryz.pinned (OpenSpec.upto scanPayloadsSpec)

end Rows
end Go.Proofs.YtmbgokmomkmgcaaGreatDoor
