/-
  NARROWER THAN 'FOR EVERY INPUT', by the rows' own cells (each row's printed sentence says how): SealSeals: laid · SealOpens: laid.
  DERIVED. THE GIVEN ROWS OF THIS SEAT. 2 by the template 'for every input the law returns true; each argument reads behind the call as it read before'; 0 by the template 'total and deterministic' (their statements: YtbkaecjkgjkheaaGreatDoorTotals.lean).
  GIVEN WITH THE SEED: the statements are not yours to turn. If you find one false, say at which input.
  Laid BY PROGRAM, IN A SANDBOX (cutbox-rows.mjs): the forced cells as the released guide's own fill.sh prints them over the translation 0d9a7376bb254363… (all of the seat's roots in one cut). By AI agents, Wed Nov 11 2026. No macro, syntax, notation, axiom, sorry.
-/
import Derived.Test.YtbkaecjkgjkheaaGreatDoorChecked
import GoSem.Claim
import GoSem.ClaimJoined
import GoSem.ClaimMapViews
import Derived.JoinedTies
import Derived.KernelRfl
namespace Go.Proofs.YtbkaecjkgjkheaaGreatDoor
/- THE CELL 'sum', in the pinned program and in every row, IS THE sha256 OF THE DUMP (.gsa) THAT YtbkaecjkgjkheaaGreatDoorProg.lean LOADS. Nothing in Lean hashes anything: it is a label: what it is worth is what the hold of that sum in a sandbox is worth. -/
noncomputable def Tryz.pinned : Pinned := { name := "ytbkaecjkgjkheaagreatdoor", sum := "0d9a7376bb254363e0623b144e443004dc0320511b666aa1842b3ff621740ae6", checked := Tryz.checked }
namespace Rows
def none {H : Type} : Left H := { results := [], args := [] }

/- WHAT THE LISTED PACKAGE-LEVEL VARIABLES READ AS WHEN THE CALL BEGINS. Each datum BY PROGRAM (the guide's laid-datum.mjs) off the statement by which the dump's own 'gosem.cut.vars' lays the variable. In a bare row this is a premise. The card (YtbkaecjkgjkheaaGreatDoorCards.lean) ties it to the program's text. -/
def laid_nepenthe_head_sizes {H : Type} : DataW H := .agg [.lit (.int .i64 1), .lit (.int .i64 1), .lit (.int .i64 1), .lit (.int .i64 1), .lit (.int .i64 4), .lit (.int .i64 8), .lit (.int .i64 8)]

/-- 'nepenthelaw16.SealSeals': WHATEVER THE INPUT: true; the input reads as it did. -/
def sealSealsSpec : ChangeSpec := { name := "sealSeals", fn := fun _ => fun
  | [d1, d2, d3] => { results := [.lit (.bool true)], args := [d1, d2, d3] }
  | _ => none }
def sealSealsRow : OpenClaim := { program := "ytbkaecjkgjkheaagreatdoor", sum := "0d9a7376bb254363e0623b144e443004dc0320511b666aa1842b3ff621740ae6", func := "nepenthe/nepenthelaw16.SealSeals", spec := "sealSeals", unfollowed := true, recurses := true, named := ["nepenthe/head.sizes"], apart := false, laid := [("nepenthe/head.sizes", laid_nepenthe_head_sizes)] }
def SealSealsSaid : Prop := sealSealsRow.holds Tryz.pinned (OpenSpec.ofChange sealSealsSpec)

/-- ITS FALSE NEIGHBOUR: 'it returns false'. Refute it at one input. -/
def sealSealsWrong : ChangeSpec := { name := "sealSeals", fn := fun _ => fun
  | [d1, d2, d3] => { results := [.lit (.bool false)], args := [d1, d2, d3] }
  | _ => none }
def SealSealsWrongFalsely : Prop := sealSealsRow.holds Tryz.pinned (OpenSpec.ofChange sealSealsWrong)

/-- 'nepenthelaw16.SealOpens': WHATEVER THE INPUT: true; the input reads as it did. -/
def sealOpensSpec : ChangeSpec := { name := "sealOpens", fn := fun _ => fun
  | [d1, d2, d3] => { results := [.lit (.bool true)], args := [d1, d2, d3] }
  | _ => none }
def sealOpensRow : OpenClaim := { program := "ytbkaecjkgjkheaagreatdoor", sum := "0d9a7376bb254363e0623b144e443004dc0320511b666aa1842b3ff621740ae6", func := "nepenthe/nepenthelaw16.SealOpens", spec := "sealOpens", unfollowed := true, recurses := true, named := ["nepenthe/head.sizes"], apart := false, laid := [("nepenthe/head.sizes", laid_nepenthe_head_sizes)] }
def SealOpensSaid : Prop := sealOpensRow.holds Tryz.pinned (OpenSpec.ofChange sealOpensSpec)

/-- ITS FALSE NEIGHBOUR: 'it returns false'. Refute it at one input. -/
def sealOpensWrong : ChangeSpec := { name := "sealOpens", fn := fun _ => fun
  | [d1, d2, d3] => { results := [.lit (.bool false)], args := [d1, d2, d3] }
  | _ => none }
def SealOpensWrongFalsely : Prop := sealOpensRow.holds Tryz.pinned (OpenSpec.ofChange sealOpensWrong)

/- THE SECOND FORM. 'bulk': how many values and letters a reading holds, each counted each time it is reached (what is shared counts as often as it is met; a slice's spare places count too). A statement '..UptoSaid' is the law's where the arguments, and the package variables that the reading takes, are together of bulk at most 1048576: NARROWER than '..Said'. Prove '..Said' where nothing that the law and all that it calls make is longer than what came in: it says more and counts as full. Else prove '..UptoSaid'. A law counts once. -/
mutual
def uptoBulk {H : Type} : DataW H → Nat
  | .lit (.string bytes) => bytes.length + 1
  | .lit _ => 1
  | .nil => 1
  | .ptr d => uptoBulk d + 1
  | .slice elems spare => uptoBulkAll elems + uptoBulkAll spare + 1
  | .agg parts => uptoBulkAll parts + 1
  | .iface _ d => uptoBulk d + 1
  | .map entries => uptoBulkEntries entries + 1
  | .held _ => 1
def uptoBulkAll {H : Type} : List (DataW H) → Nat
  | [] => 0
  | d :: r => uptoBulk d + uptoBulkAll r
def uptoBulkEntries {H : Type} : List (Lit × DataW H) → Nat
  | [] => 0
  | x :: r => uptoBulkEntry x + uptoBulkEntries r
def uptoBulkEntry {H : Type} : Lit × DataW H → Nat
  | (.string bytes, d) => bytes.length + uptoBulk d + 1
  | (_, d) => uptoBulk d + 1
 end
def uptoSmall : (H : Type) → List (DataW H) → Bool := fun _ ds => decide (uptoBulkAll ds ≤ 1048576)
def OpenSpec.upto (s : _root_.Go.ChangeSpec) : _root_.Go.OpenSpec := { _root_.Go.OpenSpec.ofChange s with cond := some uptoSmall }

/-- 'nepenthelaw16.SealSeals', WHERE WHAT IT READS IS OF BULK AT MOST 1048576: true; the input reads as it did. -/
def sealSealsUptoRow : OpenClaim := { program := "ytbkaecjkgjkheaagreatdoor", sum := "0d9a7376bb254363e0623b144e443004dc0320511b666aa1842b3ff621740ae6", func := "nepenthe/nepenthelaw16.SealSeals", spec := "sealSeals", unfollowed := true, recurses := true, named := ["nepenthe/head.sizes"], apart := false, laid := [("nepenthe/head.sizes", laid_nepenthe_head_sizes)], narrowed := true }
def SealSealsUptoSaid : Prop := sealSealsUptoRow.holds Tryz.pinned (OpenSpec.upto sealSealsSpec)

/-- 'nepenthelaw16.SealOpens', WHERE WHAT IT READS IS OF BULK AT MOST 1048576: true; the input reads as it did. -/
def sealOpensUptoRow : OpenClaim := { program := "ytbkaecjkgjkheaagreatdoor", sum := "0d9a7376bb254363e0623b144e443004dc0320511b666aa1842b3ff621740ae6", func := "nepenthe/nepenthelaw16.SealOpens", spec := "sealOpens", unfollowed := true, recurses := true, named := ["nepenthe/head.sizes"], apart := false, laid := [("nepenthe/head.sizes", laid_nepenthe_head_sizes)], narrowed := true }
def SealOpensUptoSaid : Prop := sealOpensUptoRow.holds Tryz.pinned (OpenSpec.upto sealOpensSpec)

end Rows
end Go.Proofs.YtbkaecjkgjkheaaGreatDoor
