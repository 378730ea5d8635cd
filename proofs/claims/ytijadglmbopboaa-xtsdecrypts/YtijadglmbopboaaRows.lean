/-
  No cell of these rows narrows 'for every input' (looked for: loops, veiled, ifaces, maps, wideKeys, modest, calm, conditions, laid).
  DERIVED. THE GIVEN ROWS OF THIS SEAT. 5 by the template 'for every input the law returns true; each argument reads behind the call as it read before'; 0 by the template 'total and deterministic' (their statements: YtijadglmbopboaaTotals.lean).
  GIVEN WITH THE SEED: the statements are not yours to turn. If you find one false, say at which input.
  Laid BY PROGRAM, IN A SANDBOX (cutbox-rows.mjs): the forced cells as the released guide's own fill.sh prints them over the translation c7a884aefd8ee4ec… (all of the seat's roots in one cut). By AI agents, Wed Nov 11 2026. No macro, syntax, notation, axiom, sorry.
-/
import Derived.Test.YtijadglmbopboaaChecked
import GoSem.Claim
import GoSem.ClaimJoined
import GoSem.ClaimMapViews
import Derived.JoinedTies
import Derived.KernelRfl
namespace Go.Proofs.Ytijadglmbopboaa
/- THE CELL 'sum', in the pinned program and in every row, IS THE sha256 OF THE DUMP (.gsa) THAT YtijadglmbopboaaProg.lean LOADS. Nothing in Lean hashes anything: it is a label: what it is worth is what the hold of that sum in a sandbox is worth. -/
noncomputable def Try.pinned : Pinned := { name := "ytijadglmbopboaa", sum := "c7a884aefd8ee4ecde1d1e57264ae61a6f6a59340249f8ba263b39d0a5b7a8ed", checked := Try.checked }
namespace Rows
def none {H : Type} : Left H := { results := [], args := [] }

/-- 'nepenthelaw09.XtsEncrypts': WHATEVER THE INPUT: true; the input reads as it did. -/
def xtsEncryptsSpec : ChangeSpec := { name := "xtsEncrypts", fn := fun _ => fun
  | [d1, d2] => { results := [.lit (.bool true)], args := [d1, d2] }
  | _ => none }
def xtsEncryptsRow : OpenClaim := { program := "ytijadglmbopboaa", sum := "c7a884aefd8ee4ecde1d1e57264ae61a6f6a59340249f8ba263b39d0a5b7a8ed", func := "nepenthe/nepenthelaw09.XtsEncrypts", spec := "xtsEncrypts", unfollowed := true, recurses := true, apart := false }
def XtsEncryptsSaid : Prop := xtsEncryptsRow.holds Try.pinned (OpenSpec.ofChange xtsEncryptsSpec)

/-- ITS FALSE NEIGHBOUR: 'it returns false'. Refute it at one input. -/
def xtsEncryptsWrong : ChangeSpec := { name := "xtsEncrypts", fn := fun _ => fun
  | [d1, d2] => { results := [.lit (.bool false)], args := [d1, d2] }
  | _ => none }
def XtsEncryptsWrongFalsely : Prop := xtsEncryptsRow.holds Try.pinned (OpenSpec.ofChange xtsEncryptsWrong)

/-- 'nepenthelaw09.XtsDecrypts': WHATEVER THE INPUT: true; the input reads as it did. -/
def xtsDecryptsSpec : ChangeSpec := { name := "xtsDecrypts", fn := fun _ => fun
  | [d1, d2] => { results := [.lit (.bool true)], args := [d1, d2] }
  | _ => none }
def xtsDecryptsRow : OpenClaim := { program := "ytijadglmbopboaa", sum := "c7a884aefd8ee4ecde1d1e57264ae61a6f6a59340249f8ba263b39d0a5b7a8ed", func := "nepenthe/nepenthelaw09.XtsDecrypts", spec := "xtsDecrypts", unfollowed := true, recurses := true, apart := false }
def XtsDecryptsSaid : Prop := xtsDecryptsRow.holds Try.pinned (OpenSpec.ofChange xtsDecryptsSpec)

/-- ITS FALSE NEIGHBOUR: 'it returns false'. Refute it at one input. -/
def xtsDecryptsWrong : ChangeSpec := { name := "xtsDecrypts", fn := fun _ => fun
  | [d1, d2] => { results := [.lit (.bool false)], args := [d1, d2] }
  | _ => none }
def XtsDecryptsWrongFalsely : Prop := xtsDecryptsRow.holds Try.pinned (OpenSpec.ofChange xtsDecryptsWrong)

/-- 'nepenthelaw09.XtsBack': WHATEVER THE INPUT: true; the input reads as it did. -/
def xtsBackSpec : ChangeSpec := { name := "xtsBack", fn := fun _ => fun
  | [d1, d2] => { results := [.lit (.bool true)], args := [d1, d2] }
  | _ => none }
def xtsBackRow : OpenClaim := { program := "ytijadglmbopboaa", sum := "c7a884aefd8ee4ecde1d1e57264ae61a6f6a59340249f8ba263b39d0a5b7a8ed", func := "nepenthe/nepenthelaw09.XtsBack", spec := "xtsBack", unfollowed := true, recurses := true, apart := false }
def XtsBackSaid : Prop := xtsBackRow.holds Try.pinned (OpenSpec.ofChange xtsBackSpec)

/-- ITS FALSE NEIGHBOUR: 'it returns false'. Refute it at one input. -/
def xtsBackWrong : ChangeSpec := { name := "xtsBack", fn := fun _ => fun
  | [d1, d2] => { results := [.lit (.bool false)], args := [d1, d2] }
  | _ => none }
def XtsBackWrongFalsely : Prop := xtsBackRow.holds Try.pinned (OpenSpec.ofChange xtsBackWrong)

/-- 'nepenthelaw09.XtsBlocks': WHATEVER THE INPUT: true; the input reads as it did. -/
def xtsBlocksSpec : ChangeSpec := { name := "xtsBlocks", fn := fun _ => fun
  | [d1, d2, d3] => { results := [.lit (.bool true)], args := [d1, d2, d3] }
  | _ => none }
def xtsBlocksRow : OpenClaim := { program := "ytijadglmbopboaa", sum := "c7a884aefd8ee4ecde1d1e57264ae61a6f6a59340249f8ba263b39d0a5b7a8ed", func := "nepenthe/nepenthelaw09.XtsBlocks", spec := "xtsBlocks", unfollowed := true, recurses := true, apart := false }
def XtsBlocksSaid : Prop := xtsBlocksRow.holds Try.pinned (OpenSpec.ofChange xtsBlocksSpec)

/-- ITS FALSE NEIGHBOUR: 'it returns false'. Refute it at one input. -/
def xtsBlocksWrong : ChangeSpec := { name := "xtsBlocks", fn := fun _ => fun
  | [d1, d2, d3] => { results := [.lit (.bool false)], args := [d1, d2, d3] }
  | _ => none }
def XtsBlocksWrongFalsely : Prop := xtsBlocksRow.holds Try.pinned (OpenSpec.ofChange xtsBlocksWrong)

/-- 'nepenthelaw09.XtsMasks': WHATEVER THE INPUT: true; the input reads as it did. -/
def xtsMasksSpec : ChangeSpec := { name := "xtsMasks", fn := fun _ => fun
  | [d1, d2] => { results := [.lit (.bool true)], args := [d1, d2] }
  | _ => none }
def xtsMasksRow : OpenClaim := { program := "ytijadglmbopboaa", sum := "c7a884aefd8ee4ecde1d1e57264ae61a6f6a59340249f8ba263b39d0a5b7a8ed", func := "nepenthe/nepenthelaw09.XtsMasks", spec := "xtsMasks", unfollowed := true, recurses := true, apart := false }
def XtsMasksSaid : Prop := xtsMasksRow.holds Try.pinned (OpenSpec.ofChange xtsMasksSpec)

/-- ITS FALSE NEIGHBOUR: 'it returns false'. Refute it at one input. -/
def xtsMasksWrong : ChangeSpec := { name := "xtsMasks", fn := fun _ => fun
  | [d1, d2] => { results := [.lit (.bool false)], args := [d1, d2] }
  | _ => none }
def XtsMasksWrongFalsely : Prop := xtsMasksRow.holds Try.pinned (OpenSpec.ofChange xtsMasksWrong)

/- THE SECOND FORM. 'bulk': how many values and letters a reading holds, each counted each time it is reached (what is shared counts as often as it is met; a slice's spare places count too). A statement '..UptoSaid' is the law's where the arguments, and the package variables that the reading takes, are together of bulk at most 1048576: NARROWER than '..Said'. Prove '..Said' where nothing that the law and all that it calls make is longer than what came in: it says more and counts as full. Else prove '..UptoSaid'. A law counts once. -/
mutual
def uptoBulk {H : Type} : DataW H → Nat
  | .lit (.string bytes) => bytes.length + 1
  | .lit _ => 1
  | .nil => 1
  | .ptr d => uptoBulk d + 1
  | .slice elems spare => uptoBulkAll elems + uptoBulkAll spare + 1
  | .agg parts => uptoBulkAll parts + 1
  | .iface _ d => uptoBulk d + 1
  | .map entries => uptoBulkEntries entries + 1
  | .held _ => 1
def uptoBulkAll {H : Type} : List (DataW H) → Nat
  | [] => 0
  | d :: r => uptoBulk d + uptoBulkAll r
def uptoBulkEntries {H : Type} : List (Lit × DataW H) → Nat
  | [] => 0
  | x :: r => uptoBulkEntry x + uptoBulkEntries r
def uptoBulkEntry {H : Type} : Lit × DataW H → Nat
  | (.string bytes, d) => bytes.length + uptoBulk d + 1
  | (_, d) => uptoBulk d + 1
 end
def uptoSmall : (H : Type) → List (DataW H) → Bool := fun _ ds => decide (uptoBulkAll ds ≤ 1048576)
def OpenSpec.upto (s : _root_.Go.ChangeSpec) : _root_.Go.OpenSpec := { _root_.Go.OpenSpec.ofChange s with cond := some uptoSmall }

/-- 'nepenthelaw09.XtsEncrypts', WHERE WHAT IT READS IS OF BULK AT MOST 1048576: true; the input reads as it did. -/
def xtsEncryptsUptoRow : OpenClaim := { program := "ytijadglmbopboaa", sum := "c7a884aefd8ee4ecde1d1e57264ae61a6f6a59340249f8ba263b39d0a5b7a8ed", func := "nepenthe/nepenthelaw09.XtsEncrypts", spec := "xtsEncrypts", unfollowed := true, recurses := true, apart := false, narrowed := true }
def XtsEncryptsUptoSaid : Prop := xtsEncryptsUptoRow.holds Try.pinned (OpenSpec.upto xtsEncryptsSpec)

/-- 'nepenthelaw09.XtsDecrypts', WHERE WHAT IT READS IS OF BULK AT MOST 1048576: true; the input reads as it did. -/
def xtsDecryptsUptoRow : OpenClaim := { program := "ytijadglmbopboaa", sum := "c7a884aefd8ee4ecde1d1e57264ae61a6f6a59340249f8ba263b39d0a5b7a8ed", func := "nepenthe/nepenthelaw09.XtsDecrypts", spec := "xtsDecrypts", unfollowed := true, recurses := true, apart := false, narrowed := true }
def XtsDecryptsUptoSaid : Prop := xtsDecryptsUptoRow.holds Try.pinned (OpenSpec.upto xtsDecryptsSpec)

/-- 'nepenthelaw09.XtsBack', WHERE WHAT IT READS IS OF BULK AT MOST 1048576: true; the input reads as it did. -/
def xtsBackUptoRow : OpenClaim := { program := "ytijadglmbopboaa", sum := "c7a884aefd8ee4ecde1d1e57264ae61a6f6a59340249f8ba263b39d0a5b7a8ed", func := "nepenthe/nepenthelaw09.XtsBack", spec := "xtsBack", unfollowed := true, recurses := true, apart := false, narrowed := true }
def XtsBackUptoSaid : Prop := xtsBackUptoRow.holds Try.pinned (OpenSpec.upto xtsBackSpec)

/-- 'nepenthelaw09.XtsBlocks', WHERE WHAT IT READS IS OF BULK AT MOST 1048576: true; the input reads as it did. -/
def xtsBlocksUptoRow : OpenClaim := { program := "ytijadglmbopboaa", sum := "c7a884aefd8ee4ecde1d1e57264ae61a6f6a59340249f8ba263b39d0a5b7a8ed", func := "nepenthe/nepenthelaw09.XtsBlocks", spec := "xtsBlocks", unfollowed := true, recurses := true, apart := false, narrowed := true }
def XtsBlocksUptoSaid : Prop := xtsBlocksUptoRow.holds Try.pinned (OpenSpec.upto xtsBlocksSpec)

/-- 'nepenthelaw09.XtsMasks', WHERE WHAT IT READS IS OF BULK AT MOST 1048576: true; the input reads as it did. -/
def xtsMasksUptoRow : OpenClaim := { program := "ytijadglmbopboaa", sum := "c7a884aefd8ee4ecde1d1e57264ae61a6f6a59340249f8ba263b39d0a5b7a8ed", func := "nepenthe/nepenthelaw09.XtsMasks", spec := "xtsMasks", unfollowed := true, recurses := true, apart := false, narrowed := true }
def XtsMasksUptoSaid : Prop := xtsMasksUptoRow.holds Try.pinned (OpenSpec.upto xtsMasksSpec)

end Rows
end Go.Proofs.Ytijadglmbopboaa
