/-
  NARROWER THAN 'FOR EVERY INPUT', by the rows' own cells (each row's printed sentence says how): OctetNumbers: laid · OctetXors: laid · OctetFills: laid · OctetHexes: laid.
  DERIVED. THE GIVEN ROWS OF THIS SEAT. 4 by the template 'for every input the law returns true; each argument reads behind the call as it read before'; 0 by the template 'total and deterministic' (their statements: YtocihlnmajkceaaDoorTotals.lean).
  GIVEN WITH THE SEED: the statements are not yours to turn. If you find one false, say at which input.
  Laid BY PROGRAM, IN A SANDBOX (cutbox-rows.mjs): the forced cells as the released guide's own fill.sh prints them over the translation fd76d7a8cf42b89b… (all of the seat's roots in one cut). By AI agents, Wed Nov 11 2026. No macro, syntax, notation, axiom, sorry.
-/
import Derived.Test.YtocihlnmajkceaaDoorChecked
import GoSem.Claim
import GoSem.ClaimJoined
import GoSem.ClaimMapViews
import Derived.JoinedTies
import Derived.KernelRfl
namespace Go.Proofs.YtocihlnmajkceaaDoor
/- THE CELL 'sum', in the pinned program and in every row, IS THE sha256 OF THE DUMP (.gsa) THAT YtocihlnmajkceaaDoorProg.lean LOADS. Nothing in Lean hashes anything: it is a label: what it is worth is what the hold of that sum in a sandbox is worth. -/
noncomputable def Tryd.pinned : Pinned := { name := "ytocihlnmajkceaadoor", sum := "fd76d7a8cf42b89ba1022cbad13a518e553fe516f6c4723ffd1d0dfcb95c6bc5", checked := Tryd.checked }
namespace Rows
def none {H : Type} : Left H := { results := [], args := [] }

/- WHAT THE LISTED PACKAGE-LEVEL VARIABLES READ AS WHEN THE CALL BEGINS. Each datum BY PROGRAM (the guide's laid-datum.mjs) off the statement by which the dump's own 'gosem.cut.vars' lays the variable. In a bare row this is a premise. The card (YtocihlnmajkceaaDoorCards.lean) ties it to the program's text. -/
def laid_nepenthe_octet_digits {H : Type} : DataW H := .agg [.lit (.int .u8 48), .lit (.int .u8 49), .lit (.int .u8 50), .lit (.int .u8 51), .lit (.int .u8 52), .lit (.int .u8 53), .lit (.int .u8 54), .lit (.int .u8 55), .lit (.int .u8 56), .lit (.int .u8 57), .lit (.int .u8 97), .lit (.int .u8 98), .lit (.int .u8 99), .lit (.int .u8 100), .lit (.int .u8 101), .lit (.int .u8 102)]

/-- 'nepenthelaw01.OctetNumbers': WHATEVER THE INPUT: true; the input reads as it did. -/
def octetNumbersSpec : ChangeSpec := { name := "octetNumbers", fn := fun _ => fun
  | [d1, d2, d3] => { results := [.lit (.bool true)], args := [d1, d2, d3] }
  | _ => none }
def octetNumbersRow : OpenClaim := { program := "ytocihlnmajkceaadoor", sum := "fd76d7a8cf42b89ba1022cbad13a518e553fe516f6c4723ffd1d0dfcb95c6bc5", func := "nepenthe/nepenthelaw01.OctetNumbers", spec := "octetNumbers", named := ["nepenthe/octet.digits"], apart := false, laid := [("nepenthe/octet.digits", laid_nepenthe_octet_digits)] }
def OctetNumbersSaid : Prop := octetNumbersRow.holds Tryd.pinned (OpenSpec.ofChange octetNumbersSpec)

/-- ITS FALSE NEIGHBOUR: 'it returns false'. Refute it at one input. -/
def octetNumbersWrong : ChangeSpec := { name := "octetNumbers", fn := fun _ => fun
  | [d1, d2, d3] => { results := [.lit (.bool false)], args := [d1, d2, d3] }
  | _ => none }
def OctetNumbersWrongFalsely : Prop := octetNumbersRow.holds Tryd.pinned (OpenSpec.ofChange octetNumbersWrong)

/-- 'nepenthelaw01.OctetXors': WHATEVER THE INPUT: true; the input reads as it did. -/
def octetXorsSpec : ChangeSpec := { name := "octetXors", fn := fun _ => fun
  | [d1, d2] => { results := [.lit (.bool true)], args := [d1, d2] }
  | _ => none }
def octetXorsRow : OpenClaim := { program := "ytocihlnmajkceaadoor", sum := "fd76d7a8cf42b89ba1022cbad13a518e553fe516f6c4723ffd1d0dfcb95c6bc5", func := "nepenthe/nepenthelaw01.OctetXors", spec := "octetXors", named := ["nepenthe/octet.digits"], apart := false, laid := [("nepenthe/octet.digits", laid_nepenthe_octet_digits)] }
def OctetXorsSaid : Prop := octetXorsRow.holds Tryd.pinned (OpenSpec.ofChange octetXorsSpec)

/-- ITS FALSE NEIGHBOUR: 'it returns false'. Refute it at one input. -/
def octetXorsWrong : ChangeSpec := { name := "octetXors", fn := fun _ => fun
  | [d1, d2] => { results := [.lit (.bool false)], args := [d1, d2] }
  | _ => none }
def OctetXorsWrongFalsely : Prop := octetXorsRow.holds Tryd.pinned (OpenSpec.ofChange octetXorsWrong)

/-- 'nepenthelaw01.OctetFills': WHATEVER THE INPUT: true; the input reads as it did. -/
def octetFillsSpec : ChangeSpec := { name := "octetFills", fn := fun _ => fun
  | [d1, d2] => { results := [.lit (.bool true)], args := [d1, d2] }
  | _ => none }
def octetFillsRow : OpenClaim := { program := "ytocihlnmajkceaadoor", sum := "fd76d7a8cf42b89ba1022cbad13a518e553fe516f6c4723ffd1d0dfcb95c6bc5", func := "nepenthe/nepenthelaw01.OctetFills", spec := "octetFills", named := ["nepenthe/octet.digits"], apart := false, laid := [("nepenthe/octet.digits", laid_nepenthe_octet_digits)] }
def OctetFillsSaid : Prop := octetFillsRow.holds Tryd.pinned (OpenSpec.ofChange octetFillsSpec)

/-- ITS FALSE NEIGHBOUR: 'it returns false'. Refute it at one input. -/
def octetFillsWrong : ChangeSpec := { name := "octetFills", fn := fun _ => fun
  | [d1, d2] => { results := [.lit (.bool false)], args := [d1, d2] }
  | _ => none }
def OctetFillsWrongFalsely : Prop := octetFillsRow.holds Tryd.pinned (OpenSpec.ofChange octetFillsWrong)

/-- 'nepenthelaw01.OctetHexes': WHATEVER THE INPUT: true; the input reads as it did. -/
def octetHexesSpec : ChangeSpec := { name := "octetHexes", fn := fun _ => fun
  | [d1, d2] => { results := [.lit (.bool true)], args := [d1, d2] }
  | _ => none }
def octetHexesRow : OpenClaim := { program := "ytocihlnmajkceaadoor", sum := "fd76d7a8cf42b89ba1022cbad13a518e553fe516f6c4723ffd1d0dfcb95c6bc5", func := "nepenthe/nepenthelaw01.OctetHexes", spec := "octetHexes", named := ["nepenthe/octet.digits"], apart := false, laid := [("nepenthe/octet.digits", laid_nepenthe_octet_digits)] }
def OctetHexesSaid : Prop := octetHexesRow.holds Tryd.pinned (OpenSpec.ofChange octetHexesSpec)

/-- ITS FALSE NEIGHBOUR: 'it returns false'. Refute it at one input. -/
def octetHexesWrong : ChangeSpec := { name := "octetHexes", fn := fun _ => fun
  | [d1, d2] => { results := [.lit (.bool false)], args := [d1, d2] }
  | _ => none }
def OctetHexesWrongFalsely : Prop := octetHexesRow.holds Tryd.pinned (OpenSpec.ofChange octetHexesWrong)

/- THE SECOND FORM. 'bulk': how many values and letters a reading holds, each counted each time it is reached (what is shared counts as often as it is met; a slice's spare places count too). A statement '..UptoSaid' is the law's where the arguments, and the package variables that the reading takes, are together of bulk at most 1048576: NARROWER than '..Said'. Prove '..Said' where nothing that the law and all that it calls make is longer than what came in: it says more and counts as full. Else prove '..UptoSaid'. A law counts once. -/
mutual
def uptoBulk {H : Type} : DataW H → Nat
  | .lit (.string bytes) => bytes.length + 1
  | .lit _ => 1
  | .nil => 1
  | .ptr d => uptoBulk d + 1
  | .slice elems spare => uptoBulkAll elems + uptoBulkAll spare + 1
  | .agg parts => uptoBulkAll parts + 1
  | .iface _ d => uptoBulk d + 1
  | .map entries => uptoBulkEntries entries + 1
  | .held _ => 1
def uptoBulkAll {H : Type} : List (DataW H) → Nat
  | [] => 0
  | d :: r => uptoBulk d + uptoBulkAll r
def uptoBulkEntries {H : Type} : List (Lit × DataW H) → Nat
  | [] => 0
  | x :: r => uptoBulkEntry x + uptoBulkEntries r
def uptoBulkEntry {H : Type} : Lit × DataW H → Nat
  | (.string bytes, d) => bytes.length + uptoBulk d + 1
  | (_, d) => uptoBulk d + 1
 end
def uptoSmall : (H : Type) → List (DataW H) → Bool := fun _ ds => decide (uptoBulkAll ds ≤ 1048576)
def OpenSpec.upto (s : _root_.Go.ChangeSpec) : _root_.Go.OpenSpec := { _root_.Go.OpenSpec.ofChange s with cond := some uptoSmall }

/-- 'nepenthelaw01.OctetNumbers', WHERE WHAT IT READS IS OF BULK AT MOST 1048576: true; the input reads as it did. -/
def octetNumbersUptoRow : OpenClaim := { program := "ytocihlnmajkceaadoor", sum := "fd76d7a8cf42b89ba1022cbad13a518e553fe516f6c4723ffd1d0dfcb95c6bc5", func := "nepenthe/nepenthelaw01.OctetNumbers", spec := "octetNumbers", named := ["nepenthe/octet.digits"], apart := false, laid := [("nepenthe/octet.digits", laid_nepenthe_octet_digits)], narrowed := true }
def OctetNumbersUptoSaid : Prop := octetNumbersUptoRow.holds Tryd.pinned (OpenSpec.upto octetNumbersSpec)

/-- 'nepenthelaw01.OctetXors', WHERE WHAT IT READS IS OF BULK AT MOST 1048576: true; the input reads as it did. -/
def octetXorsUptoRow : OpenClaim := { program := "ytocihlnmajkceaadoor", sum := "fd76d7a8cf42b89ba1022cbad13a518e553fe516f6c4723ffd1d0dfcb95c6bc5", func := "nepenthe/nepenthelaw01.OctetXors", spec := "octetXors", named := ["nepenthe/octet.digits"], apart := false, laid := [("nepenthe/octet.digits", laid_nepenthe_octet_digits)], narrowed := true }
def OctetXorsUptoSaid : Prop := octetXorsUptoRow.holds Tryd.pinned (OpenSpec.upto octetXorsSpec)

/-- 'nepenthelaw01.OctetFills', WHERE WHAT IT READS IS OF BULK AT MOST 1048576: true; the input reads as it did. -/
def octetFillsUptoRow : OpenClaim := { program := "ytocihlnmajkceaadoor", sum := "fd76d7a8cf42b89ba1022cbad13a518e553fe516f6c4723ffd1d0dfcb95c6bc5", func := "nepenthe/nepenthelaw01.OctetFills", spec := "octetFills", named := ["nepenthe/octet.digits"], apart := false, laid := [("nepenthe/octet.digits", laid_nepenthe_octet_digits)], narrowed := true }
def OctetFillsUptoSaid : Prop := octetFillsUptoRow.holds Tryd.pinned (OpenSpec.upto octetFillsSpec)

/-- 'nepenthelaw01.OctetHexes', WHERE WHAT IT READS IS OF BULK AT MOST 1048576: true; the input reads as it did. -/
def octetHexesUptoRow : OpenClaim := { program := "ytocihlnmajkceaadoor", sum := "fd76d7a8cf42b89ba1022cbad13a518e553fe516f6c4723ffd1d0dfcb95c6bc5", func := "nepenthe/nepenthelaw01.OctetHexes", spec := "octetHexes", named := ["nepenthe/octet.digits"], apart := false, laid := [("nepenthe/octet.digits", laid_nepenthe_octet_digits)], narrowed := true }
def OctetHexesUptoSaid : Prop := octetHexesUptoRow.holds Tryd.pinned (OpenSpec.upto octetHexesSpec)

end Rows
end Go.Proofs.YtocihlnmajkceaaDoor
