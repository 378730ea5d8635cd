/-
  NARROWER THAN 'FOR EVERY INPUT', by the rows' own cells (each row's printed sentence says how): PageMakes: laid · PageReads: laid · PageBack: laid · PageBlank: laid.
  DERIVED. THE GIVEN ROWS OF THIS SEAT. 4 by the template 'for every input the law returns true; each argument reads behind the call as it read before'; 0 by the template 'total and deterministic' (their statements: YtpmakkjcpoillaaDoorTotals.lean).
  GIVEN WITH THE SEED: the statements are not yours to turn. If you find one false, say at which input.
  Laid BY PROGRAM, IN A SANDBOX (cutbox-rows.mjs): the forced cells as the released guide's own fill.sh prints them over the translation 9980f67a25f6b685… (all of the seat's roots in one cut). By AI agents, Wed Nov 11 2026. No macro, syntax, notation, axiom, sorry.
-/
import Derived.Test.YtpmakkjcpoillaaDoorChecked
import GoSem.Claim
import GoSem.ClaimJoined
import GoSem.ClaimMapViews
import Derived.JoinedTies
import Derived.KernelRfl
namespace Go.Proofs.YtpmakkjcpoillaaDoor
/- THE CELL 'sum', in the pinned program and in every row, IS THE sha256 OF THE DUMP (.gsa) THAT YtpmakkjcpoillaaDoorProg.lean LOADS. Nothing in Lean hashes anything: it is a label: what it is worth is what the hold of that sum in a sandbox is worth. -/
noncomputable def Tryd.pinned : Pinned := { name := "ytpmakkjcpoillaadoor", sum := "9980f67a25f6b685e4154a91e2984892dd5e3bc420cd2a84fef654b759622db7", checked := Tryd.checked }
namespace Rows
def none {H : Type} : Left H := { results := [], args := [] }

/- WHAT THE LISTED PACKAGE-LEVEL VARIABLES READ AS WHEN THE CALL BEGINS. Each datum BY PROGRAM (the guide's laid-datum.mjs) off the statement by which the dump's own 'gosem.cut.vars' lays the variable. In a bare row this is a premise. The card (YtpmakkjcpoillaaDoorCards.lean) ties it to the program's text. -/
def laid_nepenthe_head_sizes {H : Type} : DataW H := .agg [.lit (.int .i64 1), .lit (.int .i64 1), .lit (.int .i64 1), .lit (.int .i64 1), .lit (.int .i64 4), .lit (.int .i64 8), .lit (.int .i64 8)]

/-- 'nepenthelaw15.PageMakes': WHATEVER THE INPUT: true; the input reads as it did. -/
def pageMakesSpec : ChangeSpec := { name := "pageMakes", fn := fun _ => fun
  | [d1, d2, d3] => { results := [.lit (.bool true)], args := [d1, d2, d3] }
  | _ => none }
def pageMakesRow : OpenClaim := { program := "ytpmakkjcpoillaadoor", sum := "9980f67a25f6b685e4154a91e2984892dd5e3bc420cd2a84fef654b759622db7", func := "nepenthe/nepenthelaw15.PageMakes", spec := "pageMakes", unfollowed := true, recurses := true, named := ["nepenthe/head.sizes"], apart := false, laid := [("nepenthe/head.sizes", laid_nepenthe_head_sizes)] }
def PageMakesSaid : Prop := pageMakesRow.holds Tryd.pinned (OpenSpec.ofChange pageMakesSpec)

/-- ITS FALSE NEIGHBOUR: 'it returns false'. Refute it at one input. -/
def pageMakesWrong : ChangeSpec := { name := "pageMakes", fn := fun _ => fun
  | [d1, d2, d3] => { results := [.lit (.bool false)], args := [d1, d2, d3] }
  | _ => none }
def PageMakesWrongFalsely : Prop := pageMakesRow.holds Tryd.pinned (OpenSpec.ofChange pageMakesWrong)

/-- 'nepenthelaw15.PageReads': WHATEVER THE INPUT: true; the input reads as it did. -/
def pageReadsSpec : ChangeSpec := { name := "pageReads", fn := fun _ => fun
  | [d1, d2, d3] => { results := [.lit (.bool true)], args := [d1, d2, d3] }
  | _ => none }
def pageReadsRow : OpenClaim := { program := "ytpmakkjcpoillaadoor", sum := "9980f67a25f6b685e4154a91e2984892dd5e3bc420cd2a84fef654b759622db7", func := "nepenthe/nepenthelaw15.PageReads", spec := "pageReads", unfollowed := true, recurses := true, named := ["nepenthe/head.sizes"], apart := false, laid := [("nepenthe/head.sizes", laid_nepenthe_head_sizes)] }
def PageReadsSaid : Prop := pageReadsRow.holds Tryd.pinned (OpenSpec.ofChange pageReadsSpec)

/-- ITS FALSE NEIGHBOUR: 'it returns false'. Refute it at one input. -/
def pageReadsWrong : ChangeSpec := { name := "pageReads", fn := fun _ => fun
  | [d1, d2, d3] => { results := [.lit (.bool false)], args := [d1, d2, d3] }
  | _ => none }
def PageReadsWrongFalsely : Prop := pageReadsRow.holds Tryd.pinned (OpenSpec.ofChange pageReadsWrong)

/-- 'nepenthelaw15.PageBack': WHATEVER THE INPUT: true; the input reads as it did. -/
def pageBackSpec : ChangeSpec := { name := "pageBack", fn := fun _ => fun
  | [d1, d2, d3] => { results := [.lit (.bool true)], args := [d1, d2, d3] }
  | _ => none }
def pageBackRow : OpenClaim := { program := "ytpmakkjcpoillaadoor", sum := "9980f67a25f6b685e4154a91e2984892dd5e3bc420cd2a84fef654b759622db7", func := "nepenthe/nepenthelaw15.PageBack", spec := "pageBack", unfollowed := true, recurses := true, named := ["nepenthe/head.sizes"], apart := false, laid := [("nepenthe/head.sizes", laid_nepenthe_head_sizes)] }
def PageBackSaid : Prop := pageBackRow.holds Tryd.pinned (OpenSpec.ofChange pageBackSpec)

/-- ITS FALSE NEIGHBOUR: 'it returns false'. Refute it at one input. -/
def pageBackWrong : ChangeSpec := { name := "pageBack", fn := fun _ => fun
  | [d1, d2, d3] => { results := [.lit (.bool false)], args := [d1, d2, d3] }
  | _ => none }
def PageBackWrongFalsely : Prop := pageBackRow.holds Tryd.pinned (OpenSpec.ofChange pageBackWrong)

/-- 'nepenthelaw15.PageBlank': WHATEVER THE INPUT: true; the input reads as it did. -/
def pageBlankSpec : ChangeSpec := { name := "pageBlank", fn := fun _ => fun
  | [d1, d2] => { results := [.lit (.bool true)], args := [d1, d2] }
  | _ => none }
def pageBlankRow : OpenClaim := { program := "ytpmakkjcpoillaadoor", sum := "9980f67a25f6b685e4154a91e2984892dd5e3bc420cd2a84fef654b759622db7", func := "nepenthe/nepenthelaw15.PageBlank", spec := "pageBlank", unfollowed := true, recurses := true, named := ["nepenthe/head.sizes"], apart := false, laid := [("nepenthe/head.sizes", laid_nepenthe_head_sizes)] }
def PageBlankSaid : Prop := pageBlankRow.holds Tryd.pinned (OpenSpec.ofChange pageBlankSpec)

/-- ITS FALSE NEIGHBOUR: 'it returns false'. Refute it at one input. -/
def pageBlankWrong : ChangeSpec := { name := "pageBlank", fn := fun _ => fun
  | [d1, d2] => { results := [.lit (.bool false)], args := [d1, d2] }
  | _ => none }
def PageBlankWrongFalsely : Prop := pageBlankRow.holds Tryd.pinned (OpenSpec.ofChange pageBlankWrong)

/- THE SECOND FORM. 'bulk': how many values and letters a reading holds, each counted each time it is reached (what is shared counts as often as it is met; a slice's spare places count too). A statement '..UptoSaid' is the law's where the arguments, and the package variables that the reading takes, are together of bulk at most 1048576: NARROWER than '..Said'. Prove '..Said' where nothing that the law and all that it calls make is longer than what came in: it says more and counts as full. Else prove '..UptoSaid'. A law counts once. -/
mutual
def uptoBulk {H : Type} : DataW H → Nat
  | .lit (.string bytes) => bytes.length + 1
  | .lit _ => 1
  | .nil => 1
  | .ptr d => uptoBulk d + 1
  | .slice elems spare => uptoBulkAll elems + uptoBulkAll spare + 1
  | .agg parts => uptoBulkAll parts + 1
  | .iface _ d => uptoBulk d + 1
  | .map entries => uptoBulkEntries entries + 1
  | .held _ => 1
def uptoBulkAll {H : Type} : List (DataW H) → Nat
  | [] => 0
  | d :: r => uptoBulk d + uptoBulkAll r
def uptoBulkEntries {H : Type} : List (Lit × DataW H) → Nat
  | [] => 0
  | x :: r => uptoBulkEntry x + uptoBulkEntries r
def uptoBulkEntry {H : Type} : Lit × DataW H → Nat
  | (.string bytes, d) => bytes.length + uptoBulk d + 1
  | (_, d) => uptoBulk d + 1
 end
def uptoSmall : (H : Type) → List (DataW H) → Bool := fun _ ds => decide (uptoBulkAll ds ≤ 1048576)
def OpenSpec.upto (s : _root_.Go.ChangeSpec) : _root_.Go.OpenSpec := { _root_.Go.OpenSpec.ofChange s with cond := some uptoSmall }

/-- 'nepenthelaw15.PageMakes', WHERE WHAT IT READS IS OF BULK AT MOST 1048576: true; the input reads as it did. -/
def pageMakesUptoRow : OpenClaim := { program := "ytpmakkjcpoillaadoor", sum := "9980f67a25f6b685e4154a91e2984892dd5e3bc420cd2a84fef654b759622db7", func := "nepenthe/nepenthelaw15.PageMakes", spec := "pageMakes", unfollowed := true, recurses := true, named := ["nepenthe/head.sizes"], apart := false, laid := [("nepenthe/head.sizes", laid_nepenthe_head_sizes)], narrowed := true }
def PageMakesUptoSaid : Prop := pageMakesUptoRow.holds Tryd.pinned (OpenSpec.upto pageMakesSpec)

/-- 'nepenthelaw15.PageReads', WHERE WHAT IT READS IS OF BULK AT MOST 1048576: true; the input reads as it did. -/
def pageReadsUptoRow : OpenClaim := { program := "ytpmakkjcpoillaadoor", sum := "9980f67a25f6b685e4154a91e2984892dd5e3bc420cd2a84fef654b759622db7", func := "nepenthe/nepenthelaw15.PageReads", spec := "pageReads", unfollowed := true, recurses := true, named := ["nepenthe/head.sizes"], apart := false, laid := [("nepenthe/head.sizes", laid_nepenthe_head_sizes)], narrowed := true }
def PageReadsUptoSaid : Prop := pageReadsUptoRow.holds Tryd.pinned (OpenSpec.upto pageReadsSpec)

/-- 'nepenthelaw15.PageBack', WHERE WHAT IT READS IS OF BULK AT MOST 1048576: true; the input reads as it did. -/
def pageBackUptoRow : OpenClaim := { program := "ytpmakkjcpoillaadoor", sum := "9980f67a25f6b685e4154a91e2984892dd5e3bc420cd2a84fef654b759622db7", func := "nepenthe/nepenthelaw15.PageBack", spec := "pageBack", unfollowed := true, recurses := true, named := ["nepenthe/head.sizes"], apart := false, laid := [("nepenthe/head.sizes", laid_nepenthe_head_sizes)], narrowed := true }
def PageBackUptoSaid : Prop := pageBackUptoRow.holds Tryd.pinned (OpenSpec.upto pageBackSpec)

/-- 'nepenthelaw15.PageBlank', WHERE WHAT IT READS IS OF BULK AT MOST 1048576: true; the input reads as it did. -/
def pageBlankUptoRow : OpenClaim := { program := "ytpmakkjcpoillaadoor", sum := "9980f67a25f6b685e4154a91e2984892dd5e3bc420cd2a84fef654b759622db7", func := "nepenthe/nepenthelaw15.PageBlank", spec := "pageBlank", unfollowed := true, recurses := true, named := ["nepenthe/head.sizes"], apart := false, laid := [("nepenthe/head.sizes", laid_nepenthe_head_sizes)], narrowed := true }
def PageBlankUptoSaid : Prop := pageBlankUptoRow.holds Tryd.pinned (OpenSpec.upto pageBlankSpec)

end Rows
end Go.Proofs.YtpmakkjcpoillaaDoor
