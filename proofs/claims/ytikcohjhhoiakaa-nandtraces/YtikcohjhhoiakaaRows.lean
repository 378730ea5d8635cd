/-
  No cell of these rows narrows 'for every input' (looked for: loops, veiled, ifaces, maps, wideKeys, modest, calm, conditions, laid).
  DERIVED. THE GIVEN ROWS OF THIS SEAT. 5 by the template 'for every input the law returns true; each argument reads behind the call as it read before'; 0 by the template 'total and deterministic' (their statements: YtikcohjhhoiakaaTotals.lean).
  GIVEN WITH THE SEED: the statements are not yours to turn. If you find one false, say at which input.
  Laid BY PROGRAM, IN A SANDBOX (cutbox-rows.mjs): the forced cells as the released guide's own fill.sh prints them over the translation c33d59c49dd8e749… (all of the seat's roots in one cut). By AI agents, Wed Nov 11 2026. No macro, syntax, notation, axiom, sorry.
-/
import Derived.Test.YtikcohjhhoiakaaChecked
import GoSem.Claim
import GoSem.ClaimJoined
import GoSem.ClaimMapViews
import Derived.JoinedTies
import Derived.KernelRfl
namespace Go.Proofs.Ytikcohjhhoiakaa
/- THE CELL 'sum', in the pinned program and in every row, IS THE sha256 OF THE DUMP (.gsa) THAT YtikcohjhhoiakaaProg.lean LOADS. Nothing in Lean hashes anything: it is a label: what it is worth is what the hold of that sum in a sandbox is worth. -/
noncomputable def Try.pinned : Pinned := { name := "ytikcohjhhoiakaa", sum := "c33d59c49dd8e74947f8330fed7a9b8ac99bb6e78b8ac040812e1ad405c5d796", checked := Try.checked }
namespace Rows
def none {H : Type} : Left H := { results := [], args := [] }

/-- 'nepenthelaw13.NandRuns': WHATEVER THE INPUT: true; the input reads as it did. -/
def nandRunsSpec : ChangeSpec := { name := "nandRuns", fn := fun _ => fun
  | [d] => { results := [.lit (.bool true)], args := [d] }
  | _ => none }
def nandRunsRow : OpenClaim := { program := "ytikcohjhhoiakaa", sum := "c33d59c49dd8e74947f8330fed7a9b8ac99bb6e78b8ac040812e1ad405c5d796", func := "nepenthe/nepenthelaw13.NandRuns", spec := "nandRuns", inPlace := ["internal/bytealg.MakeNoZero"], unfollowed := true, recurses := true, apart := false }
def NandRunsSaid : Prop := nandRunsRow.holds Try.pinned (OpenSpec.ofChange nandRunsSpec)

/-- ITS FALSE NEIGHBOUR: 'it returns false'. Refute it at one input. -/
def nandRunsWrong : ChangeSpec := { name := "nandRuns", fn := fun _ => fun
  | [d] => { results := [.lit (.bool false)], args := [d] }
  | _ => none }
def NandRunsWrongFalsely : Prop := nandRunsRow.holds Try.pinned (OpenSpec.ofChange nandRunsWrong)

/-- 'nepenthelaw13.NandReads': WHATEVER THE INPUT: true; the input reads as it did. -/
def nandReadsSpec : ChangeSpec := { name := "nandReads", fn := fun _ => fun
  | [d1, d2] => { results := [.lit (.bool true)], args := [d1, d2] }
  | _ => none }
def nandReadsRow : OpenClaim := { program := "ytikcohjhhoiakaa", sum := "c33d59c49dd8e74947f8330fed7a9b8ac99bb6e78b8ac040812e1ad405c5d796", func := "nepenthe/nepenthelaw13.NandReads", spec := "nandReads", inPlace := ["internal/bytealg.MakeNoZero"], unfollowed := true, recurses := true, apart := false }
def NandReadsSaid : Prop := nandReadsRow.holds Try.pinned (OpenSpec.ofChange nandReadsSpec)

/-- ITS FALSE NEIGHBOUR: 'it returns false'. Refute it at one input. -/
def nandReadsWrong : ChangeSpec := { name := "nandReads", fn := fun _ => fun
  | [d1, d2] => { results := [.lit (.bool false)], args := [d1, d2] }
  | _ => none }
def NandReadsWrongFalsely : Prop := nandReadsRow.holds Try.pinned (OpenSpec.ofChange nandReadsWrong)

/-- 'nepenthelaw13.NandTraces': WHATEVER THE INPUT: true; the input reads as it did. -/
def nandTracesSpec : ChangeSpec := { name := "nandTraces", fn := fun _ => fun
  | [d] => { results := [.lit (.bool true)], args := [d] }
  | _ => none }
def nandTracesRow : OpenClaim := { program := "ytikcohjhhoiakaa", sum := "c33d59c49dd8e74947f8330fed7a9b8ac99bb6e78b8ac040812e1ad405c5d796", func := "nepenthe/nepenthelaw13.NandTraces", spec := "nandTraces", inPlace := ["internal/bytealg.MakeNoZero"], unfollowed := true, recurses := true, apart := false }
def NandTracesSaid : Prop := nandTracesRow.holds Try.pinned (OpenSpec.ofChange nandTracesSpec)

/-- ITS FALSE NEIGHBOUR: 'it returns false'. Refute it at one input. -/
def nandTracesWrong : ChangeSpec := { name := "nandTraces", fn := fun _ => fun
  | [d] => { results := [.lit (.bool false)], args := [d] }
  | _ => none }
def NandTracesWrongFalsely : Prop := nandTracesRow.holds Try.pinned (OpenSpec.ofChange nandTracesWrong)

/-- 'nepenthelaw13.NandClears': WHATEVER THE INPUT: true; the input reads as it did. -/
def nandClearsSpec : ChangeSpec := { name := "nandClears", fn := fun _ => fun
  | [d] => { results := [.lit (.bool true)], args := [d] }
  | _ => none }
def nandClearsRow : OpenClaim := { program := "ytikcohjhhoiakaa", sum := "c33d59c49dd8e74947f8330fed7a9b8ac99bb6e78b8ac040812e1ad405c5d796", func := "nepenthe/nepenthelaw13.NandClears", spec := "nandClears", inPlace := ["internal/bytealg.MakeNoZero"], unfollowed := true, recurses := true, apart := false }
def NandClearsSaid : Prop := nandClearsRow.holds Try.pinned (OpenSpec.ofChange nandClearsSpec)

/-- ITS FALSE NEIGHBOUR: 'it returns false'. Refute it at one input. -/
def nandClearsWrong : ChangeSpec := { name := "nandClears", fn := fun _ => fun
  | [d] => { results := [.lit (.bool false)], args := [d] }
  | _ => none }
def NandClearsWrongFalsely : Prop := nandClearsRow.holds Try.pinned (OpenSpec.ofChange nandClearsWrong)

/-- 'nepenthelaw13.NandNil': WHATEVER THE INPUT: true; the input reads as it did. -/
def nandNilSpec : ChangeSpec := { name := "nandNil", fn := fun _ => fun
  | [d1, d2, d3] => { results := [.lit (.bool true)], args := [d1, d2, d3] }
  | _ => none }
def nandNilRow : OpenClaim := { program := "ytikcohjhhoiakaa", sum := "c33d59c49dd8e74947f8330fed7a9b8ac99bb6e78b8ac040812e1ad405c5d796", func := "nepenthe/nepenthelaw13.NandNil", spec := "nandNil", inPlace := ["internal/bytealg.MakeNoZero"], unfollowed := true, recurses := true, apart := false }
def NandNilSaid : Prop := nandNilRow.holds Try.pinned (OpenSpec.ofChange nandNilSpec)

/-- ITS FALSE NEIGHBOUR: 'it returns false'. Refute it at one input. -/
def nandNilWrong : ChangeSpec := { name := "nandNil", fn := fun _ => fun
  | [d1, d2, d3] => { results := [.lit (.bool false)], args := [d1, d2, d3] }
  | _ => none }
def NandNilWrongFalsely : Prop := nandNilRow.holds Try.pinned (OpenSpec.ofChange nandNilWrong)

/- THE SECOND FORM. 'bulk': how many values and letters a reading holds, each counted each time it is reached (what is shared counts as often as it is met; a slice's spare places count too). A statement '..UptoSaid' is the law's where the arguments, and the package variables that the reading takes, are together of bulk at most 1048576: NARROWER than '..Said'. Prove '..Said' where nothing that the law and all that it calls make is longer than what came in: it says more and counts as full. Else prove '..UptoSaid'. A law counts once. -/
mutual
def uptoBulk {H : Type} : DataW H → Nat
  | .lit (.string bytes) => bytes.length + 1
  | .lit _ => 1
  | .nil => 1
  | .ptr d => uptoBulk d + 1
  | .slice elems spare => uptoBulkAll elems + uptoBulkAll spare + 1
  | .agg parts => uptoBulkAll parts + 1
  | .iface _ d => uptoBulk d + 1
  | .map entries => uptoBulkEntries entries + 1
  | .held _ => 1
def uptoBulkAll {H : Type} : List (DataW H) → Nat
  | [] => 0
  | d :: r => uptoBulk d + uptoBulkAll r
def uptoBulkEntries {H : Type} : List (Lit × DataW H) → Nat
  | [] => 0
  | x :: r => uptoBulkEntry x + uptoBulkEntries r
def uptoBulkEntry {H : Type} : Lit × DataW H → Nat
  | (.string bytes, d) => bytes.length + uptoBulk d + 1
  | (_, d) => uptoBulk d + 1
 end
def uptoSmall : (H : Type) → List (DataW H) → Bool := fun _ ds => decide (uptoBulkAll ds ≤ 1048576)
def OpenSpec.upto (s : _root_.Go.ChangeSpec) : _root_.Go.OpenSpec := { _root_.Go.OpenSpec.ofChange s with cond := some uptoSmall }

/-- 'nepenthelaw13.NandRuns', WHERE WHAT IT READS IS OF BULK AT MOST 1048576: true; the input reads as it did. -/
def nandRunsUptoRow : OpenClaim := { program := "ytikcohjhhoiakaa", sum := "c33d59c49dd8e74947f8330fed7a9b8ac99bb6e78b8ac040812e1ad405c5d796", func := "nepenthe/nepenthelaw13.NandRuns", spec := "nandRuns", inPlace := ["internal/bytealg.MakeNoZero"], unfollowed := true, recurses := true, apart := false, narrowed := true }
def NandRunsUptoSaid : Prop := nandRunsUptoRow.holds Try.pinned (OpenSpec.upto nandRunsSpec)

/-- 'nepenthelaw13.NandReads', WHERE WHAT IT READS IS OF BULK AT MOST 1048576: true; the input reads as it did. -/
def nandReadsUptoRow : OpenClaim := { program := "ytikcohjhhoiakaa", sum := "c33d59c49dd8e74947f8330fed7a9b8ac99bb6e78b8ac040812e1ad405c5d796", func := "nepenthe/nepenthelaw13.NandReads", spec := "nandReads", inPlace := ["internal/bytealg.MakeNoZero"], unfollowed := true, recurses := true, apart := false, narrowed := true }
def NandReadsUptoSaid : Prop := nandReadsUptoRow.holds Try.pinned (OpenSpec.upto nandReadsSpec)

/-- 'nepenthelaw13.NandTraces', WHERE WHAT IT READS IS OF BULK AT MOST 1048576: true; the input reads as it did. -/
def nandTracesUptoRow : OpenClaim := { program := "ytikcohjhhoiakaa", sum := "c33d59c49dd8e74947f8330fed7a9b8ac99bb6e78b8ac040812e1ad405c5d796", func := "nepenthe/nepenthelaw13.NandTraces", spec := "nandTraces", inPlace := ["internal/bytealg.MakeNoZero"], unfollowed := true, recurses := true, apart := false, narrowed := true }
def NandTracesUptoSaid : Prop := nandTracesUptoRow.holds Try.pinned (OpenSpec.upto nandTracesSpec)

/-- 'nepenthelaw13.NandClears', WHERE WHAT IT READS IS OF BULK AT MOST 1048576: true; the input reads as it did. -/
def nandClearsUptoRow : OpenClaim := { program := "ytikcohjhhoiakaa", sum := "c33d59c49dd8e74947f8330fed7a9b8ac99bb6e78b8ac040812e1ad405c5d796", func := "nepenthe/nepenthelaw13.NandClears", spec := "nandClears", inPlace := ["internal/bytealg.MakeNoZero"], unfollowed := true, recurses := true, apart := false, narrowed := true }
def NandClearsUptoSaid : Prop := nandClearsUptoRow.holds Try.pinned (OpenSpec.upto nandClearsSpec)

/-- 'nepenthelaw13.NandNil', WHERE WHAT IT READS IS OF BULK AT MOST 1048576: true; the input reads as it did. -/
def nandNilUptoRow : OpenClaim := { program := "ytikcohjhhoiakaa", sum := "c33d59c49dd8e74947f8330fed7a9b8ac99bb6e78b8ac040812e1ad405c5d796", func := "nepenthe/nepenthelaw13.NandNil", spec := "nandNil", inPlace := ["internal/bytealg.MakeNoZero"], unfollowed := true, recurses := true, apart := false, narrowed := true }
def NandNilUptoSaid : Prop := nandNilUptoRow.holds Try.pinned (OpenSpec.upto nandNilSpec)

end Rows
end Go.Proofs.Ytikcohjhhoiakaa
