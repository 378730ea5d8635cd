/-
  NARROWER THAN 'FOR EVERY INPUT', by the rows' own cells (each row's printed sentence says how): RecordBytes: laid · RecordReads: laid · RecordOpens: laid · RecordFirsts: laid.
  DERIVED. THE GIVEN ROWS OF THIS SEAT. 4 by the template 'for every input the law returns true; each argument reads behind the call as it read before'; 0 by the template 'total and deterministic' (their statements: YtmbfccclghnaeaaDoorTotals.lean).
  GIVEN WITH THE SEED: the statements are not yours to turn. If you find one false, say at which input.
  Laid BY PROGRAM, IN A SANDBOX (cutbox-rows.mjs): the forced cells as the released guide's own fill.sh prints them over the translation ec78f2a634b3638b… (all of the seat's roots in one cut). By AI agents, Wed Nov 11 2026. No macro, syntax, notation, axiom, sorry.
-/
import Derived.Test.YtmbfccclghnaeaaDoorChecked
import GoSem.Claim
import GoSem.ClaimJoined
import GoSem.ClaimMapViews
import Derived.JoinedTies
import Derived.KernelRfl
namespace Go.Proofs.YtmbfccclghnaeaaDoor
/- THE CELL 'sum', in the pinned program and in every row, IS THE sha256 OF THE DUMP (.gsa) THAT YtmbfccclghnaeaaDoorProg.lean LOADS. Nothing in Lean hashes anything: it is a label: what it is worth is what the hold of that sum in a sandbox is worth. -/
noncomputable def Tryd.pinned : Pinned := { name := "ytmbfccclghnaeaadoor", sum := "ec78f2a634b3638ba2b314198812ff26db1de16ae0c066708d5ce720f172d368", checked := Tryd.checked }
namespace Rows
def none {H : Type} : Left H := { results := [], args := [] }

/- WHAT THE LISTED PACKAGE-LEVEL VARIABLES READ AS WHEN THE CALL BEGINS. Each datum BY PROGRAM (the guide's laid-datum.mjs) off the statement by which the dump's own 'gosem.cut.vars' lays the variable. In a bare row this is a premise. The card (YtmbfccclghnaeaaDoorCards.lean) ties it to the program's text. -/
def laid_nepenthe_slot_sizes {H : Type} : DataW H := .agg [.lit (.int .i64 1), .lit (.int .i64 3), .lit (.int .i64 4), .lit (.int .i64 8), .lit (.int .i64 8)]
def laid_nepenthe_record_sizes {H : Type} : DataW H := .agg [.lit (.int .i64 8), .lit (.int .i64 8), .lit (.int .i64 16), .lit (.int .i64 8), .lit (.int .i64 8), .lit (.int .i64 32)]

/-- 'nepenthelaw18.RecordBytes': WHATEVER THE INPUT: true; the input reads as it did. -/
def recordBytesSpec : ChangeSpec := { name := "recordBytes", fn := fun _ => fun
  | [d1, d2] => { results := [.lit (.bool true)], args := [d1, d2] }
  | _ => none }
def recordBytesRow : OpenClaim := { program := "ytmbfccclghnaeaadoor", sum := "ec78f2a634b3638ba2b314198812ff26db1de16ae0c066708d5ce720f172d368", func := "nepenthe/nepenthelaw18.RecordBytes", spec := "recordBytes", named := ["nepenthe/slot.sizes", "nepenthe/record.sizes"], apart := false, laid := [("nepenthe/slot.sizes", laid_nepenthe_slot_sizes), ("nepenthe/record.sizes", laid_nepenthe_record_sizes)] }
def RecordBytesSaid : Prop := recordBytesRow.holds Tryd.pinned (OpenSpec.ofChange recordBytesSpec)

/-- ITS FALSE NEIGHBOUR: 'it returns false'. Refute it at one input. -/
def recordBytesWrong : ChangeSpec := { name := "recordBytes", fn := fun _ => fun
  | [d1, d2] => { results := [.lit (.bool false)], args := [d1, d2] }
  | _ => none }
def RecordBytesWrongFalsely : Prop := recordBytesRow.holds Tryd.pinned (OpenSpec.ofChange recordBytesWrong)

/-- 'nepenthelaw18.RecordReads': WHATEVER THE INPUT: true; the input reads as it did. -/
def recordReadsSpec : ChangeSpec := { name := "recordReads", fn := fun _ => fun
  | [d1, d2] => { results := [.lit (.bool true)], args := [d1, d2] }
  | _ => none }
def recordReadsRow : OpenClaim := { program := "ytmbfccclghnaeaadoor", sum := "ec78f2a634b3638ba2b314198812ff26db1de16ae0c066708d5ce720f172d368", func := "nepenthe/nepenthelaw18.RecordReads", spec := "recordReads", named := ["nepenthe/record.sizes", "nepenthe/slot.sizes"], apart := false, laid := [("nepenthe/slot.sizes", laid_nepenthe_slot_sizes), ("nepenthe/record.sizes", laid_nepenthe_record_sizes)] }
def RecordReadsSaid : Prop := recordReadsRow.holds Tryd.pinned (OpenSpec.ofChange recordReadsSpec)

/-- ITS FALSE NEIGHBOUR: 'it returns false'. Refute it at one input. -/
def recordReadsWrong : ChangeSpec := { name := "recordReads", fn := fun _ => fun
  | [d1, d2] => { results := [.lit (.bool false)], args := [d1, d2] }
  | _ => none }
def RecordReadsWrongFalsely : Prop := recordReadsRow.holds Tryd.pinned (OpenSpec.ofChange recordReadsWrong)

/-- 'nepenthelaw18.RecordOpens': WHATEVER THE INPUT: true; the input reads as it did. -/
def recordOpensSpec : ChangeSpec := { name := "recordOpens", fn := fun _ => fun
  | [d1, d2, d3] => { results := [.lit (.bool true)], args := [d1, d2, d3] }
  | _ => none }
def recordOpensRow : OpenClaim := { program := "ytmbfccclghnaeaadoor", sum := "ec78f2a634b3638ba2b314198812ff26db1de16ae0c066708d5ce720f172d368", func := "nepenthe/nepenthelaw18.RecordOpens", spec := "recordOpens", named := ["nepenthe/slot.sizes", "nepenthe/record.sizes"], apart := false, laid := [("nepenthe/slot.sizes", laid_nepenthe_slot_sizes), ("nepenthe/record.sizes", laid_nepenthe_record_sizes)] }
def RecordOpensSaid : Prop := recordOpensRow.holds Tryd.pinned (OpenSpec.ofChange recordOpensSpec)

/-- ITS FALSE NEIGHBOUR: 'it returns false'. Refute it at one input. -/
def recordOpensWrong : ChangeSpec := { name := "recordOpens", fn := fun _ => fun
  | [d1, d2, d3] => { results := [.lit (.bool false)], args := [d1, d2, d3] }
  | _ => none }
def RecordOpensWrongFalsely : Prop := recordOpensRow.holds Tryd.pinned (OpenSpec.ofChange recordOpensWrong)

/-- 'nepenthelaw18.RecordFirsts': WHATEVER THE INPUT: true; the input reads as it did. -/
def recordFirstsSpec : ChangeSpec := { name := "recordFirsts", fn := fun _ => fun
  | [d1, d2, d3] => { results := [.lit (.bool true)], args := [d1, d2, d3] }
  | _ => none }
def recordFirstsRow : OpenClaim := { program := "ytmbfccclghnaeaadoor", sum := "ec78f2a634b3638ba2b314198812ff26db1de16ae0c066708d5ce720f172d368", func := "nepenthe/nepenthelaw18.RecordFirsts", spec := "recordFirsts", named := ["nepenthe/slot.sizes", "nepenthe/record.sizes"], apart := false, laid := [("nepenthe/slot.sizes", laid_nepenthe_slot_sizes), ("nepenthe/record.sizes", laid_nepenthe_record_sizes)] }
def RecordFirstsSaid : Prop := recordFirstsRow.holds Tryd.pinned (OpenSpec.ofChange recordFirstsSpec)

/-- ITS FALSE NEIGHBOUR: 'it returns false'. Refute it at one input. -/
def recordFirstsWrong : ChangeSpec := { name := "recordFirsts", fn := fun _ => fun
  | [d1, d2, d3] => { results := [.lit (.bool false)], args := [d1, d2, d3] }
  | _ => none }
def RecordFirstsWrongFalsely : Prop := recordFirstsRow.holds Tryd.pinned (OpenSpec.ofChange recordFirstsWrong)

/- THE SECOND FORM. 'bulk': how many values and letters a reading holds, each counted each time it is reached (what is shared counts as often as it is met; a slice's spare places count too). A statement '..UptoSaid' is the law's where the arguments, and the package variables that the reading takes, are together of bulk at most 1048576: NARROWER than '..Said'. Prove '..Said' where nothing that the law and all that it calls make is longer than what came in: it says more and counts as full. Else prove '..UptoSaid'. A law counts once. -/
mutual
def uptoBulk {H : Type} : DataW H → Nat
  | .lit (.string bytes) => bytes.length + 1
  | .lit _ => 1
  | .nil => 1
  | .ptr d => uptoBulk d + 1
  | .slice elems spare => uptoBulkAll elems + uptoBulkAll spare + 1
  | .agg parts => uptoBulkAll parts + 1
  | .iface _ d => uptoBulk d + 1
  | .map entries => uptoBulkEntries entries + 1
  | .held _ => 1
def uptoBulkAll {H : Type} : List (DataW H) → Nat
  | [] => 0
  | d :: r => uptoBulk d + uptoBulkAll r
def uptoBulkEntries {H : Type} : List (Lit × DataW H) → Nat
  | [] => 0
  | x :: r => uptoBulkEntry x + uptoBulkEntries r
def uptoBulkEntry {H : Type} : Lit × DataW H → Nat
  | (.string bytes, d) => bytes.length + uptoBulk d + 1
  | (_, d) => uptoBulk d + 1
 end
def uptoSmall : (H : Type) → List (DataW H) → Bool := fun _ ds => decide (uptoBulkAll ds ≤ 1048576)
def OpenSpec.upto (s : _root_.Go.ChangeSpec) : _root_.Go.OpenSpec := { _root_.Go.OpenSpec.ofChange s with cond := some uptoSmall }

/-- 'nepenthelaw18.RecordBytes', WHERE WHAT IT READS IS OF BULK AT MOST 1048576: true; the input reads as it did. -/
def recordBytesUptoRow : OpenClaim := { program := "ytmbfccclghnaeaadoor", sum := "ec78f2a634b3638ba2b314198812ff26db1de16ae0c066708d5ce720f172d368", func := "nepenthe/nepenthelaw18.RecordBytes", spec := "recordBytes", named := ["nepenthe/slot.sizes", "nepenthe/record.sizes"], apart := false, laid := [("nepenthe/slot.sizes", laid_nepenthe_slot_sizes), ("nepenthe/record.sizes", laid_nepenthe_record_sizes)], narrowed := true }
def RecordBytesUptoSaid : Prop := recordBytesUptoRow.holds Tryd.pinned (OpenSpec.upto recordBytesSpec)

/-- 'nepenthelaw18.RecordReads', WHERE WHAT IT READS IS OF BULK AT MOST 1048576: true; the input reads as it did. -/
def recordReadsUptoRow : OpenClaim := { program := "ytmbfccclghnaeaadoor", sum := "ec78f2a634b3638ba2b314198812ff26db1de16ae0c066708d5ce720f172d368", func := "nepenthe/nepenthelaw18.RecordReads", spec := "recordReads", named := ["nepenthe/record.sizes", "nepenthe/slot.sizes"], apart := false, laid := [("nepenthe/slot.sizes", laid_nepenthe_slot_sizes), ("nepenthe/record.sizes", laid_nepenthe_record_sizes)], narrowed := true }
def RecordReadsUptoSaid : Prop := recordReadsUptoRow.holds Tryd.pinned (OpenSpec.upto recordReadsSpec)

/-- 'nepenthelaw18.RecordOpens', WHERE WHAT IT READS IS OF BULK AT MOST 1048576: true; the input reads as it did. -/
def recordOpensUptoRow : OpenClaim := { program := "ytmbfccclghnaeaadoor", sum := "ec78f2a634b3638ba2b314198812ff26db1de16ae0c066708d5ce720f172d368", func := "nepenthe/nepenthelaw18.RecordOpens", spec := "recordOpens", named := ["nepenthe/slot.sizes", "nepenthe/record.sizes"], apart := false, laid := [("nepenthe/slot.sizes", laid_nepenthe_slot_sizes), ("nepenthe/record.sizes", laid_nepenthe_record_sizes)], narrowed := true }
def RecordOpensUptoSaid : Prop := recordOpensUptoRow.holds Tryd.pinned (OpenSpec.upto recordOpensSpec)

/-- 'nepenthelaw18.RecordFirsts', WHERE WHAT IT READS IS OF BULK AT MOST 1048576: true; the input reads as it did. -/
def recordFirstsUptoRow : OpenClaim := { program := "ytmbfccclghnaeaadoor", sum := "ec78f2a634b3638ba2b314198812ff26db1de16ae0c066708d5ce720f172d368", func := "nepenthe/nepenthelaw18.RecordFirsts", spec := "recordFirsts", named := ["nepenthe/slot.sizes", "nepenthe/record.sizes"], apart := false, laid := [("nepenthe/slot.sizes", laid_nepenthe_slot_sizes), ("nepenthe/record.sizes", laid_nepenthe_record_sizes)], narrowed := true }
def RecordFirstsUptoSaid : Prop := recordFirstsUptoRow.holds Tryd.pinned (OpenSpec.upto recordFirstsSpec)

end Rows
end Go.Proofs.YtmbfccclghnaeaaDoor
