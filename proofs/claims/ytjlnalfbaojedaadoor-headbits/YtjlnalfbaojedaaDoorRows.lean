/-
  NARROWER THAN 'FOR EVERY INPUT', by the rows' own cells (each row's printed sentence says how): HeadBytes: laid · HeadEnds: laid · HeadReads: laid · HeadMarks: laid · HeadBits: laid · HeadLess: laid.
  DERIVED. THE GIVEN ROWS OF THIS SEAT. 6 by the template 'for every input the law returns true; each argument reads behind the call as it read before'; 0 by the template 'total and deterministic' (their statements: YtjlnalfbaojedaaDoorTotals.lean).
  GIVEN WITH THE SEED: the statements are not yours to turn. If you find one false, say at which input.
  Laid BY PROGRAM, IN A SANDBOX (cutbox-rows.mjs): the forced cells as the released guide's own fill.sh prints them over the translation 726852dd3ee18842… (all of the seat's roots in one cut). By AI agents, Wed Nov 11 2026. No macro, syntax, notation, axiom, sorry.
-/
import Derived.Test.YtjlnalfbaojedaaDoorChecked
import GoSem.Claim
import GoSem.ClaimJoined
import GoSem.ClaimMapViews
import Derived.JoinedTies
import Derived.KernelRfl
namespace Go.Proofs.YtjlnalfbaojedaaDoor
/- THE CELL 'sum', in the pinned program and in every row, IS THE sha256 OF THE DUMP (.gsa) THAT YtjlnalfbaojedaaDoorProg.lean LOADS. Nothing in Lean hashes anything: it is a label: what it is worth is what the hold of that sum in a sandbox is worth. -/
noncomputable def Tryd.pinned : Pinned := { name := "ytjlnalfbaojedaadoor", sum := "726852dd3ee18842c232ad6e0c4d81d66626f600ab7b6fafd3ea14564cc43bd7", checked := Tryd.checked }
namespace Rows
def none {H : Type} : Left H := { results := [], args := [] }

/- WHAT THE LISTED PACKAGE-LEVEL VARIABLES READ AS WHEN THE CALL BEGINS. Each datum BY PROGRAM (the guide's laid-datum.mjs) off the statement by which the dump's own 'gosem.cut.vars' lays the variable. In a bare row this is a premise. The card (YtjlnalfbaojedaaDoorCards.lean) ties it to the program's text. -/
def laid_nepenthe_head_sizes {H : Type} : DataW H := .agg [.lit (.int .i64 1), .lit (.int .i64 1), .lit (.int .i64 1), .lit (.int .i64 1), .lit (.int .i64 4), .lit (.int .i64 8), .lit (.int .i64 8)]

/-- 'nepenthelaw14.HeadBytes': WHATEVER THE INPUT: true; the input reads as it did. -/
def headBytesSpec : ChangeSpec := { name := "headBytes", fn := fun _ => fun
  | [d] => { results := [.lit (.bool true)], args := [d] }
  | _ => none }
def headBytesRow : OpenClaim := { program := "ytjlnalfbaojedaadoor", sum := "726852dd3ee18842c232ad6e0c4d81d66626f600ab7b6fafd3ea14564cc43bd7", func := "nepenthe/nepenthelaw14.HeadBytes", spec := "headBytes", named := ["nepenthe/head.sizes"], apart := false, laid := [("nepenthe/head.sizes", laid_nepenthe_head_sizes)] }
def HeadBytesSaid : Prop := headBytesRow.holds Tryd.pinned (OpenSpec.ofChange headBytesSpec)

/-- ITS FALSE NEIGHBOUR: 'it returns false'. Refute it at one input. -/
def headBytesWrong : ChangeSpec := { name := "headBytes", fn := fun _ => fun
  | [d] => { results := [.lit (.bool false)], args := [d] }
  | _ => none }
def HeadBytesWrongFalsely : Prop := headBytesRow.holds Tryd.pinned (OpenSpec.ofChange headBytesWrong)

/-- 'nepenthelaw14.HeadEnds': WHATEVER THE INPUT: true; the input reads as it did. -/
def headEndsSpec : ChangeSpec := { name := "headEnds", fn := fun _ => fun
  | [d1, d2] => { results := [.lit (.bool true)], args := [d1, d2] }
  | _ => none }
def headEndsRow : OpenClaim := { program := "ytjlnalfbaojedaadoor", sum := "726852dd3ee18842c232ad6e0c4d81d66626f600ab7b6fafd3ea14564cc43bd7", func := "nepenthe/nepenthelaw14.HeadEnds", spec := "headEnds", named := ["nepenthe/head.sizes"], apart := false, laid := [("nepenthe/head.sizes", laid_nepenthe_head_sizes)] }
def HeadEndsSaid : Prop := headEndsRow.holds Tryd.pinned (OpenSpec.ofChange headEndsSpec)

/-- ITS FALSE NEIGHBOUR: 'it returns false'. Refute it at one input. -/
def headEndsWrong : ChangeSpec := { name := "headEnds", fn := fun _ => fun
  | [d1, d2] => { results := [.lit (.bool false)], args := [d1, d2] }
  | _ => none }
def HeadEndsWrongFalsely : Prop := headEndsRow.holds Tryd.pinned (OpenSpec.ofChange headEndsWrong)

/-- 'nepenthelaw14.HeadReads': WHATEVER THE INPUT: true; the input reads as it did. -/
def headReadsSpec : ChangeSpec := { name := "headReads", fn := fun _ => fun
  | [d] => { results := [.lit (.bool true)], args := [d] }
  | _ => none }
def headReadsRow : OpenClaim := { program := "ytjlnalfbaojedaadoor", sum := "726852dd3ee18842c232ad6e0c4d81d66626f600ab7b6fafd3ea14564cc43bd7", func := "nepenthe/nepenthelaw14.HeadReads", spec := "headReads", named := ["nepenthe/head.sizes"], apart := false, laid := [("nepenthe/head.sizes", laid_nepenthe_head_sizes)] }
def HeadReadsSaid : Prop := headReadsRow.holds Tryd.pinned (OpenSpec.ofChange headReadsSpec)

/-- ITS FALSE NEIGHBOUR: 'it returns false'. Refute it at one input. -/
def headReadsWrong : ChangeSpec := { name := "headReads", fn := fun _ => fun
  | [d] => { results := [.lit (.bool false)], args := [d] }
  | _ => none }
def HeadReadsWrongFalsely : Prop := headReadsRow.holds Tryd.pinned (OpenSpec.ofChange headReadsWrong)

/-- 'nepenthelaw14.HeadMarks': WHATEVER THE INPUT: true; the input reads as it did. -/
def headMarksSpec : ChangeSpec := { name := "headMarks", fn := fun _ => fun
  | [d1, d2, d3] => { results := [.lit (.bool true)], args := [d1, d2, d3] }
  | _ => none }
def headMarksRow : OpenClaim := { program := "ytjlnalfbaojedaadoor", sum := "726852dd3ee18842c232ad6e0c4d81d66626f600ab7b6fafd3ea14564cc43bd7", func := "nepenthe/nepenthelaw14.HeadMarks", spec := "headMarks", named := ["nepenthe/head.sizes"], apart := false, laid := [("nepenthe/head.sizes", laid_nepenthe_head_sizes)] }
def HeadMarksSaid : Prop := headMarksRow.holds Tryd.pinned (OpenSpec.ofChange headMarksSpec)

/-- ITS FALSE NEIGHBOUR: 'it returns false'. Refute it at one input. -/
def headMarksWrong : ChangeSpec := { name := "headMarks", fn := fun _ => fun
  | [d1, d2, d3] => { results := [.lit (.bool false)], args := [d1, d2, d3] }
  | _ => none }
def HeadMarksWrongFalsely : Prop := headMarksRow.holds Tryd.pinned (OpenSpec.ofChange headMarksWrong)

/-- 'nepenthelaw14.HeadBits': WHATEVER THE INPUT: true; the input reads as it did. -/
def headBitsSpec : ChangeSpec := { name := "headBits", fn := fun _ => fun
  | [d1, d2, d3] => { results := [.lit (.bool true)], args := [d1, d2, d3] }
  | _ => none }
def headBitsRow : OpenClaim := { program := "ytjlnalfbaojedaadoor", sum := "726852dd3ee18842c232ad6e0c4d81d66626f600ab7b6fafd3ea14564cc43bd7", func := "nepenthe/nepenthelaw14.HeadBits", spec := "headBits", named := ["nepenthe/head.sizes"], apart := false, laid := [("nepenthe/head.sizes", laid_nepenthe_head_sizes)] }
def HeadBitsSaid : Prop := headBitsRow.holds Tryd.pinned (OpenSpec.ofChange headBitsSpec)

/-- ITS FALSE NEIGHBOUR: 'it returns false'. Refute it at one input. -/
def headBitsWrong : ChangeSpec := { name := "headBits", fn := fun _ => fun
  | [d1, d2, d3] => { results := [.lit (.bool false)], args := [d1, d2, d3] }
  | _ => none }
def HeadBitsWrongFalsely : Prop := headBitsRow.holds Tryd.pinned (OpenSpec.ofChange headBitsWrong)

/-- 'nepenthelaw14.HeadLess': WHATEVER THE INPUT: true; the input reads as it did. -/
def headLessSpec : ChangeSpec := { name := "headLess", fn := fun _ => fun
  | [d1, d2] => { results := [.lit (.bool true)], args := [d1, d2] }
  | _ => none }
def headLessRow : OpenClaim := { program := "ytjlnalfbaojedaadoor", sum := "726852dd3ee18842c232ad6e0c4d81d66626f600ab7b6fafd3ea14564cc43bd7", func := "nepenthe/nepenthelaw14.HeadLess", spec := "headLess", named := ["nepenthe/head.sizes"], apart := false, laid := [("nepenthe/head.sizes", laid_nepenthe_head_sizes)] }
def HeadLessSaid : Prop := headLessRow.holds Tryd.pinned (OpenSpec.ofChange headLessSpec)

/-- ITS FALSE NEIGHBOUR: 'it returns false'. Refute it at one input. -/
def headLessWrong : ChangeSpec := { name := "headLess", fn := fun _ => fun
  | [d1, d2] => { results := [.lit (.bool false)], args := [d1, d2] }
  | _ => none }
def HeadLessWrongFalsely : Prop := headLessRow.holds Tryd.pinned (OpenSpec.ofChange headLessWrong)

/- THE SECOND FORM. 'bulk': how many values and letters a reading holds, each counted each time it is reached (what is shared counts as often as it is met; a slice's spare places count too). A statement '..UptoSaid' is the law's where the arguments, and the package variables that the reading takes, are together of bulk at most 1048576: NARROWER than '..Said'. Prove '..Said' where nothing that the law and all that it calls make is longer than what came in: it says more and counts as full. Else prove '..UptoSaid'. A law counts once. -/
mutual
def uptoBulk {H : Type} : DataW H → Nat
  | .lit (.string bytes) => bytes.length + 1
  | .lit _ => 1
  | .nil => 1
  | .ptr d => uptoBulk d + 1
  | .slice elems spare => uptoBulkAll elems + uptoBulkAll spare + 1
  | .agg parts => uptoBulkAll parts + 1
  | .iface _ d => uptoBulk d + 1
  | .map entries => uptoBulkEntries entries + 1
  | .held _ => 1
def uptoBulkAll {H : Type} : List (DataW H) → Nat
  | [] => 0
  | d :: r => uptoBulk d + uptoBulkAll r
def uptoBulkEntries {H : Type} : List (Lit × DataW H) → Nat
  | [] => 0
  | x :: r => uptoBulkEntry x + uptoBulkEntries r
def uptoBulkEntry {H : Type} : Lit × DataW H → Nat
  | (.string bytes, d) => bytes.length + uptoBulk d + 1
  | (_, d) => uptoBulk d + 1
 end
def uptoSmall : (H : Type) → List (DataW H) → Bool := fun _ ds => decide (uptoBulkAll ds ≤ 1048576)
def OpenSpec.upto (s : _root_.Go.ChangeSpec) : _root_.Go.OpenSpec := { _root_.Go.OpenSpec.ofChange s with cond := some uptoSmall }

/-- 'nepenthelaw14.HeadBytes', WHERE WHAT IT READS IS OF BULK AT MOST 1048576: true; the input reads as it did. -/
def headBytesUptoRow : OpenClaim := { program := "ytjlnalfbaojedaadoor", sum := "726852dd3ee18842c232ad6e0c4d81d66626f600ab7b6fafd3ea14564cc43bd7", func := "nepenthe/nepenthelaw14.HeadBytes", spec := "headBytes", named := ["nepenthe/head.sizes"], apart := false, laid := [("nepenthe/head.sizes", laid_nepenthe_head_sizes)], narrowed := true }
def HeadBytesUptoSaid : Prop := headBytesUptoRow.holds Tryd.pinned (OpenSpec.upto headBytesSpec)

/-- 'nepenthelaw14.HeadEnds', WHERE WHAT IT READS IS OF BULK AT MOST 1048576: true; the input reads as it did. -/
def headEndsUptoRow : OpenClaim := { program := "ytjlnalfbaojedaadoor", sum := "726852dd3ee18842c232ad6e0c4d81d66626f600ab7b6fafd3ea14564cc43bd7", func := "nepenthe/nepenthelaw14.HeadEnds", spec := "headEnds", named := ["nepenthe/head.sizes"], apart := false, laid := [("nepenthe/head.sizes", laid_nepenthe_head_sizes)], narrowed := true }
def HeadEndsUptoSaid : Prop := headEndsUptoRow.holds Tryd.pinned (OpenSpec.upto headEndsSpec)

/-- 'nepenthelaw14.HeadReads', WHERE WHAT IT READS IS OF BULK AT MOST 1048576: true; the input reads as it did. -/
def headReadsUptoRow : OpenClaim := { program := "ytjlnalfbaojedaadoor", sum := "726852dd3ee18842c232ad6e0c4d81d66626f600ab7b6fafd3ea14564cc43bd7", func := "nepenthe/nepenthelaw14.HeadReads", spec := "headReads", named := ["nepenthe/head.sizes"], apart := false, laid := [("nepenthe/head.sizes", laid_nepenthe_head_sizes)], narrowed := true }
def HeadReadsUptoSaid : Prop := headReadsUptoRow.holds Tryd.pinned (OpenSpec.upto headReadsSpec)

/-- 'nepenthelaw14.HeadMarks', WHERE WHAT IT READS IS OF BULK AT MOST 1048576: true; the input reads as it did. -/
def headMarksUptoRow : OpenClaim := { program := "ytjlnalfbaojedaadoor", sum := "726852dd3ee18842c232ad6e0c4d81d66626f600ab7b6fafd3ea14564cc43bd7", func := "nepenthe/nepenthelaw14.HeadMarks", spec := "headMarks", named := ["nepenthe/head.sizes"], apart := false, laid := [("nepenthe/head.sizes", laid_nepenthe_head_sizes)], narrowed := true }
def HeadMarksUptoSaid : Prop := headMarksUptoRow.holds Tryd.pinned (OpenSpec.upto headMarksSpec)

/-- 'nepenthelaw14.HeadBits', WHERE WHAT IT READS IS OF BULK AT MOST 1048576: true; the input reads as it did. -/
def headBitsUptoRow : OpenClaim := { program := "ytjlnalfbaojedaadoor", sum := "726852dd3ee18842c232ad6e0c4d81d66626f600ab7b6fafd3ea14564cc43bd7", func := "nepenthe/nepenthelaw14.HeadBits", spec := "headBits", named := ["nepenthe/head.sizes"], apart := false, laid := [("nepenthe/head.sizes", laid_nepenthe_head_sizes)], narrowed := true }
def HeadBitsUptoSaid : Prop := headBitsUptoRow.holds Tryd.pinned (OpenSpec.upto headBitsSpec)

/-- 'nepenthelaw14.HeadLess', WHERE WHAT IT READS IS OF BULK AT MOST 1048576: true; the input reads as it did. -/
def headLessUptoRow : OpenClaim := { program := "ytjlnalfbaojedaadoor", sum := "726852dd3ee18842c232ad6e0c4d81d66626f600ab7b6fafd3ea14564cc43bd7", func := "nepenthe/nepenthelaw14.HeadLess", spec := "headLess", named := ["nepenthe/head.sizes"], apart := false, laid := [("nepenthe/head.sizes", laid_nepenthe_head_sizes)], narrowed := true }
def HeadLessUptoSaid : Prop := headLessUptoRow.holds Tryd.pinned (OpenSpec.upto headLessSpec)

end Rows
end Go.Proofs.YtjlnalfbaojedaaDoor
