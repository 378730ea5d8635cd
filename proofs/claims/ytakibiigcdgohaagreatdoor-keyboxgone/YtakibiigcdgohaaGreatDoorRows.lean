/-
  NARROWER THAN 'FOR EVERY INPUT', by the rows' own cells (each row's printed sentence says how): KeyboxRuns: laid · KeyboxCrashes: laid · KeyboxGone: laid · KeyboxNil: laid.
  DERIVED. THE GIVEN ROWS OF THIS SEAT. 4 by the template 'for every input the law returns true; each argument reads behind the call as it read before'; 0 by the template 'total and deterministic' (their statements: YtakibiigcdgohaaGreatDoorTotals.lean).
  GIVEN WITH THE SEED: the statements are not yours to turn. If you find one false, say at which input.
  Laid BY PROGRAM, IN A SANDBOX (cutbox-rows.mjs): the forced cells as the released guide's own fill.sh prints them over the translation d835a339a16d8c58… (all of the seat's roots in one cut). By AI agents, Wed Nov 11 2026. No macro, syntax, notation, axiom, sorry.
-/
import Derived.Test.YtakibiigcdgohaaGreatDoorChecked
import GoSem.Claim
import GoSem.ClaimJoined
import GoSem.ClaimMapViews
import Derived.JoinedTies
import Derived.KernelRfl
namespace Go.Proofs.YtakibiigcdgohaaGreatDoor
/- THE CELL 'sum', in the pinned program and in every row, IS THE sha256 OF THE DUMP (.gsa) THAT YtakibiigcdgohaaGreatDoorProg.lean LOADS. Nothing in Lean hashes anything: it is a label: what it is worth is what the hold of that sum in a sandbox is worth. -/
noncomputable def Tryz.pinned : Pinned := { name := "ytakibiigcdgohaagreatdoor", sum := "d835a339a16d8c582a741c8d752c5d73c20aec75ac6726f68a64ddffd0ebb6a3", checked := Tryz.checked }
namespace Rows
def none {H : Type} : Left H := { results := [], args := [] }

/- WHAT THE LISTED PACKAGE-LEVEL VARIABLES READ AS WHEN THE CALL BEGINS. Each datum BY PROGRAM (the guide's laid-datum.mjs) off the statement by which the dump's own 'gosem.cut.vars' lays the variable. In a bare row this is a premise. The card (YtakibiigcdgohaaGreatDoorCards.lean) ties it to the program's text. -/
def laid_nepenthe_head_sizes {H : Type} : DataW H := .agg [.lit (.int .i64 1), .lit (.int .i64 1), .lit (.int .i64 1), .lit (.int .i64 1), .lit (.int .i64 4), .lit (.int .i64 8), .lit (.int .i64 8)]

/-- 'nepenthelaw20.KeyboxRuns': WHATEVER THE INPUT: true; the input reads as it did. -/
def keyboxRunsSpec : ChangeSpec := { name := "keyboxRuns", fn := fun _ => fun
  | [d] => { results := [.lit (.bool true)], args := [d] }
  | _ => none }
def keyboxRunsRow : OpenClaim := { program := "ytakibiigcdgohaagreatdoor", sum := "d835a339a16d8c582a741c8d752c5d73c20aec75ac6726f68a64ddffd0ebb6a3", func := "nepenthe/nepenthelaw20.KeyboxRuns", spec := "keyboxRuns", inPlace := ["internal/bytealg.MakeNoZero"], unfollowed := true, recurses := true, named := ["nepenthe/head.sizes"], apart := false, laid := [("nepenthe/head.sizes", laid_nepenthe_head_sizes)] }
def KeyboxRunsSaid : Prop := keyboxRunsRow.holds Tryz.pinned (OpenSpec.ofChange keyboxRunsSpec)

/-- ITS FALSE NEIGHBOUR: 'it returns false'. Refute it at one input. -/
def keyboxRunsWrong : ChangeSpec := { name := "keyboxRuns", fn := fun _ => fun
  | [d] => { results := [.lit (.bool false)], args := [d] }
  | _ => none }
def KeyboxRunsWrongFalsely : Prop := keyboxRunsRow.holds Tryz.pinned (OpenSpec.ofChange keyboxRunsWrong)

/-- 'nepenthelaw20.KeyboxCrashes': WHATEVER THE INPUT: true; the input reads as it did. -/
def keyboxCrashesSpec : ChangeSpec := { name := "keyboxCrashes", fn := fun _ => fun
  | [d1, d2, d3] => { results := [.lit (.bool true)], args := [d1, d2, d3] }
  | _ => none }
def keyboxCrashesRow : OpenClaim := { program := "ytakibiigcdgohaagreatdoor", sum := "d835a339a16d8c582a741c8d752c5d73c20aec75ac6726f68a64ddffd0ebb6a3", func := "nepenthe/nepenthelaw20.KeyboxCrashes", spec := "keyboxCrashes", inPlace := ["internal/bytealg.MakeNoZero"], unfollowed := true, recurses := true, named := ["nepenthe/head.sizes"], apart := false, laid := [("nepenthe/head.sizes", laid_nepenthe_head_sizes)] }
def KeyboxCrashesSaid : Prop := keyboxCrashesRow.holds Tryz.pinned (OpenSpec.ofChange keyboxCrashesSpec)

/-- ITS FALSE NEIGHBOUR: 'it returns false'. Refute it at one input. -/
def keyboxCrashesWrong : ChangeSpec := { name := "keyboxCrashes", fn := fun _ => fun
  | [d1, d2, d3] => { results := [.lit (.bool false)], args := [d1, d2, d3] }
  | _ => none }
def KeyboxCrashesWrongFalsely : Prop := keyboxCrashesRow.holds Tryz.pinned (OpenSpec.ofChange keyboxCrashesWrong)

/-- 'nepenthelaw20.KeyboxGone': WHATEVER THE INPUT: true; the input reads as it did. -/
def keyboxGoneSpec : ChangeSpec := { name := "keyboxGone", fn := fun _ => fun
  | [d] => { results := [.lit (.bool true)], args := [d] }
  | _ => none }
def keyboxGoneRow : OpenClaim := { program := "ytakibiigcdgohaagreatdoor", sum := "d835a339a16d8c582a741c8d752c5d73c20aec75ac6726f68a64ddffd0ebb6a3", func := "nepenthe/nepenthelaw20.KeyboxGone", spec := "keyboxGone", inPlace := ["internal/bytealg.MakeNoZero"], unfollowed := true, recurses := true, named := ["nepenthe/head.sizes"], apart := false, laid := [("nepenthe/head.sizes", laid_nepenthe_head_sizes)] }
def KeyboxGoneSaid : Prop := keyboxGoneRow.holds Tryz.pinned (OpenSpec.ofChange keyboxGoneSpec)

/-- ITS FALSE NEIGHBOUR: 'it returns false'. Refute it at one input. -/
def keyboxGoneWrong : ChangeSpec := { name := "keyboxGone", fn := fun _ => fun
  | [d] => { results := [.lit (.bool false)], args := [d] }
  | _ => none }
def KeyboxGoneWrongFalsely : Prop := keyboxGoneRow.holds Tryz.pinned (OpenSpec.ofChange keyboxGoneWrong)

/-- 'nepenthelaw20.KeyboxNil': WHATEVER THE INPUT: true; the input reads as it did. -/
def keyboxNilSpec : ChangeSpec := { name := "keyboxNil", fn := fun _ => fun
  | [d1, d2] => { results := [.lit (.bool true)], args := [d1, d2] }
  | _ => none }
def keyboxNilRow : OpenClaim := { program := "ytakibiigcdgohaagreatdoor", sum := "d835a339a16d8c582a741c8d752c5d73c20aec75ac6726f68a64ddffd0ebb6a3", func := "nepenthe/nepenthelaw20.KeyboxNil", spec := "keyboxNil", inPlace := ["internal/bytealg.MakeNoZero"], unfollowed := true, recurses := true, named := ["nepenthe/head.sizes"], apart := false, laid := [("nepenthe/head.sizes", laid_nepenthe_head_sizes)] }
def KeyboxNilSaid : Prop := keyboxNilRow.holds Tryz.pinned (OpenSpec.ofChange keyboxNilSpec)

/-- ITS FALSE NEIGHBOUR: 'it returns false'. Refute it at one input. -/
def keyboxNilWrong : ChangeSpec := { name := "keyboxNil", fn := fun _ => fun
  | [d1, d2] => { results := [.lit (.bool false)], args := [d1, d2] }
  | _ => none }
def KeyboxNilWrongFalsely : Prop := keyboxNilRow.holds Tryz.pinned (OpenSpec.ofChange keyboxNilWrong)

/- THE SECOND FORM. 'bulk': how many values and letters a reading holds, each counted each time it is reached (what is shared counts as often as it is met; a slice's spare places count too). A statement '..UptoSaid' is the law's where the arguments, and the package variables that the reading takes, are together of bulk at most 1048576: NARROWER than '..Said'. Prove '..Said' where nothing that the law and all that it calls make is longer than what came in: it says more and counts as full. Else prove '..UptoSaid'. A law counts once. -/
mutual
def uptoBulk {H : Type} : DataW H → Nat
  | .lit (.string bytes) => bytes.length + 1
  | .lit _ => 1
  | .nil => 1
  | .ptr d => uptoBulk d + 1
  | .slice elems spare => uptoBulkAll elems + uptoBulkAll spare + 1
  | .agg parts => uptoBulkAll parts + 1
  | .iface _ d => uptoBulk d + 1
  | .map entries => uptoBulkEntries entries + 1
  | .held _ => 1
def uptoBulkAll {H : Type} : List (DataW H) → Nat
  | [] => 0
  | d :: r => uptoBulk d + uptoBulkAll r
def uptoBulkEntries {H : Type} : List (Lit × DataW H) → Nat
  | [] => 0
  | x :: r => uptoBulkEntry x + uptoBulkEntries r
def uptoBulkEntry {H : Type} : Lit × DataW H → Nat
  | (.string bytes, d) => bytes.length + uptoBulk d + 1
  | (_, d) => uptoBulk d + 1
 end
def uptoSmall : (H : Type) → List (DataW H) → Bool := fun _ ds => decide (uptoBulkAll ds ≤ 1048576)
def OpenSpec.upto (s : _root_.Go.ChangeSpec) : _root_.Go.OpenSpec := { _root_.Go.OpenSpec.ofChange s with cond := some uptoSmall }

/-- 'nepenthelaw20.KeyboxRuns', WHERE WHAT IT READS IS OF BULK AT MOST 1048576: true; the input reads as it did. -/
def keyboxRunsUptoRow : OpenClaim := { program := "ytakibiigcdgohaagreatdoor", sum := "d835a339a16d8c582a741c8d752c5d73c20aec75ac6726f68a64ddffd0ebb6a3", func := "nepenthe/nepenthelaw20.KeyboxRuns", spec := "keyboxRuns", inPlace := ["internal/bytealg.MakeNoZero"], unfollowed := true, recurses := true, named := ["nepenthe/head.sizes"], apart := false, laid := [("nepenthe/head.sizes", laid_nepenthe_head_sizes)], narrowed := true }
def KeyboxRunsUptoSaid : Prop := keyboxRunsUptoRow.holds Tryz.pinned (OpenSpec.upto keyboxRunsSpec)

/-- 'nepenthelaw20.KeyboxCrashes', WHERE WHAT IT READS IS OF BULK AT MOST 1048576: true; the input reads as it did. -/
def keyboxCrashesUptoRow : OpenClaim := { program := "ytakibiigcdgohaagreatdoor", sum := "d835a339a16d8c582a741c8d752c5d73c20aec75ac6726f68a64ddffd0ebb6a3", func := "nepenthe/nepenthelaw20.KeyboxCrashes", spec := "keyboxCrashes", inPlace := ["internal/bytealg.MakeNoZero"], unfollowed := true, recurses := true, named := ["nepenthe/head.sizes"], apart := false, laid := [("nepenthe/head.sizes", laid_nepenthe_head_sizes)], narrowed := true }
def KeyboxCrashesUptoSaid : Prop := keyboxCrashesUptoRow.holds Tryz.pinned (OpenSpec.upto keyboxCrashesSpec)

/-- 'nepenthelaw20.KeyboxGone', WHERE WHAT IT READS IS OF BULK AT MOST 1048576: true; the input reads as it did. -/
def keyboxGoneUptoRow : OpenClaim := { program := "ytakibiigcdgohaagreatdoor", sum := "d835a339a16d8c582a741c8d752c5d73c20aec75ac6726f68a64ddffd0ebb6a3", func := "nepenthe/nepenthelaw20.KeyboxGone", spec := "keyboxGone", inPlace := ["internal/bytealg.MakeNoZero"], unfollowed := true, recurses := true, named := ["nepenthe/head.sizes"], apart := false, laid := [("nepenthe/head.sizes", laid_nepenthe_head_sizes)], narrowed := true }
def KeyboxGoneUptoSaid : Prop := keyboxGoneUptoRow.holds Tryz.pinned (OpenSpec.upto keyboxGoneSpec)

/-- 'nepenthelaw20.KeyboxNil', WHERE WHAT IT READS IS OF BULK AT MOST 1048576: true; the input reads as it did. -/
def keyboxNilUptoRow : OpenClaim := { program := "ytakibiigcdgohaagreatdoor", sum := "d835a339a16d8c582a741c8d752c5d73c20aec75ac6726f68a64ddffd0ebb6a3", func := "nepenthe/nepenthelaw20.KeyboxNil", spec := "keyboxNil", inPlace := ["internal/bytealg.MakeNoZero"], unfollowed := true, recurses := true, named := ["nepenthe/head.sizes"], apart := false, laid := [("nepenthe/head.sizes", laid_nepenthe_head_sizes)], narrowed := true }
def KeyboxNilUptoSaid : Prop := keyboxNilUptoRow.holds Tryz.pinned (OpenSpec.upto keyboxNilSpec)

end Rows
end Go.Proofs.YtakibiigcdgohaaGreatDoor
