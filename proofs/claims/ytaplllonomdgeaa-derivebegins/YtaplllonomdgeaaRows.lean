/-
  No cell of these rows narrows 'for every input' (looked for: loops, veiled, ifaces, maps, wideKeys, modest, calm, conditions, laid).
  DERIVED. THE GIVEN ROWS OF THIS SEAT. 4 by the template 'for every input the law returns true; each argument reads behind the call as it read before'; 0 by the template 'total and deterministic' (their statements: YtaplllonomdgeaaTotals.lean).
  GIVEN WITH THE SEED: the statements are not yours to turn. If you find one false, say at which input.
  Laid BY PROGRAM, IN A SANDBOX (cutbox-rows.mjs): the forced cells as the released guide's own fill.sh prints them over the translation ef3527b753a63c4b… (all of the seat's roots in one cut). By AI agents, Wed Nov 11 2026. No macro, syntax, notation, axiom, sorry.
-/
import Derived.Test.YtaplllonomdgeaaChecked
import GoSem.Claim
import GoSem.ClaimJoined
import GoSem.ClaimMapViews
import Derived.JoinedTies
import Derived.KernelRfl
namespace Go.Proofs.Ytaplllonomdgeaa
/- THE CELL 'sum', in the pinned program and in every row, IS THE sha256 OF THE DUMP (.gsa) THAT YtaplllonomdgeaaProg.lean LOADS. Nothing in Lean hashes anything: it is a label: what it is worth is what the hold of that sum in a sandbox is worth. -/
noncomputable def Try.pinned : Pinned := { name := "ytaplllonomdgeaa", sum := "ef3527b753a63c4beb131d1fd13dddebe8414544a98d8d1a136c26923025b6e1", checked := Try.checked }
namespace Rows
def none {H : Type} : Left H := { results := [], args := [] }

/-- 'nepenthelaw04.DeriveBytes': WHATEVER THE INPUT: true; the input reads as it did. -/
def deriveBytesSpec : ChangeSpec := { name := "deriveBytes", fn := fun _ => fun
  | [d1, d2, d3] => { results := [.lit (.bool true)], args := [d1, d2, d3] }
  | _ => none }
def deriveBytesRow : OpenClaim := { program := "ytaplllonomdgeaa", sum := "ef3527b753a63c4beb131d1fd13dddebe8414544a98d8d1a136c26923025b6e1", func := "nepenthe/nepenthelaw04.DeriveBytes", spec := "deriveBytes", apart := false }
def DeriveBytesSaid : Prop := deriveBytesRow.holds Try.pinned (OpenSpec.ofChange deriveBytesSpec)

/-- ITS FALSE NEIGHBOUR: 'it returns false'. Refute it at one input. -/
def deriveBytesWrong : ChangeSpec := { name := "deriveBytes", fn := fun _ => fun
  | [d1, d2, d3] => { results := [.lit (.bool false)], args := [d1, d2, d3] }
  | _ => none }
def DeriveBytesWrongFalsely : Prop := deriveBytesRow.holds Try.pinned (OpenSpec.ofChange deriveBytesWrong)

/-- 'nepenthelaw04.DeriveBlocks': WHATEVER THE INPUT: true; the input reads as it did. -/
def deriveBlocksSpec : ChangeSpec := { name := "deriveBlocks", fn := fun _ => fun
  | [d1, d2, d3] => { results := [.lit (.bool true)], args := [d1, d2, d3] }
  | _ => none }
def deriveBlocksRow : OpenClaim := { program := "ytaplllonomdgeaa", sum := "ef3527b753a63c4beb131d1fd13dddebe8414544a98d8d1a136c26923025b6e1", func := "nepenthe/nepenthelaw04.DeriveBlocks", spec := "deriveBlocks", apart := false }
def DeriveBlocksSaid : Prop := deriveBlocksRow.holds Try.pinned (OpenSpec.ofChange deriveBlocksSpec)

/-- ITS FALSE NEIGHBOUR: 'it returns false'. Refute it at one input. -/
def deriveBlocksWrong : ChangeSpec := { name := "deriveBlocks", fn := fun _ => fun
  | [d1, d2, d3] => { results := [.lit (.bool false)], args := [d1, d2, d3] }
  | _ => none }
def DeriveBlocksWrongFalsely : Prop := deriveBlocksRow.holds Try.pinned (OpenSpec.ofChange deriveBlocksWrong)

/-- 'nepenthelaw04.DeriveKeys': WHATEVER THE INPUT: true; the input reads as it did. -/
def deriveKeysSpec : ChangeSpec := { name := "deriveKeys", fn := fun _ => fun
  | [d1, d2, d3] => { results := [.lit (.bool true)], args := [d1, d2, d3] }
  | _ => none }
def deriveKeysRow : OpenClaim := { program := "ytaplllonomdgeaa", sum := "ef3527b753a63c4beb131d1fd13dddebe8414544a98d8d1a136c26923025b6e1", func := "nepenthe/nepenthelaw04.DeriveKeys", spec := "deriveKeys", apart := false }
def DeriveKeysSaid : Prop := deriveKeysRow.holds Try.pinned (OpenSpec.ofChange deriveKeysSpec)

/-- ITS FALSE NEIGHBOUR: 'it returns false'. Refute it at one input. -/
def deriveKeysWrong : ChangeSpec := { name := "deriveKeys", fn := fun _ => fun
  | [d1, d2, d3] => { results := [.lit (.bool false)], args := [d1, d2, d3] }
  | _ => none }
def DeriveKeysWrongFalsely : Prop := deriveKeysRow.holds Try.pinned (OpenSpec.ofChange deriveKeysWrong)

/-- 'nepenthelaw04.DeriveBegins': WHATEVER THE INPUT: true; the input reads as it did. -/
def deriveBeginsSpec : ChangeSpec := { name := "deriveBegins", fn := fun _ => fun
  | [d1, d2, d3] => { results := [.lit (.bool true)], args := [d1, d2, d3] }
  | _ => none }
def deriveBeginsRow : OpenClaim := { program := "ytaplllonomdgeaa", sum := "ef3527b753a63c4beb131d1fd13dddebe8414544a98d8d1a136c26923025b6e1", func := "nepenthe/nepenthelaw04.DeriveBegins", spec := "deriveBegins", apart := false }
def DeriveBeginsSaid : Prop := deriveBeginsRow.holds Try.pinned (OpenSpec.ofChange deriveBeginsSpec)

/-- ITS FALSE NEIGHBOUR: 'it returns false'. Refute it at one input. -/
def deriveBeginsWrong : ChangeSpec := { name := "deriveBegins", fn := fun _ => fun
  | [d1, d2, d3] => { results := [.lit (.bool false)], args := [d1, d2, d3] }
  | _ => none }
def DeriveBeginsWrongFalsely : Prop := deriveBeginsRow.holds Try.pinned (OpenSpec.ofChange deriveBeginsWrong)

/- THE SECOND FORM. 'bulk': how many values and letters a reading holds, each counted each time it is reached (what is shared counts as often as it is met; a slice's spare places count too). A statement '..UptoSaid' is the law's where the arguments, and the package variables that the reading takes, are together of bulk at most 1048576: NARROWER than '..Said'. Prove '..Said' where nothing that the law and all that it calls make is longer than what came in: it says more and counts as full. Else prove '..UptoSaid'. A law counts once. -/
mutual
def uptoBulk {H : Type} : DataW H → Nat
  | .lit (.string bytes) => bytes.length + 1
  | .lit _ => 1
  | .nil => 1
  | .ptr d => uptoBulk d + 1
  | .slice elems spare => uptoBulkAll elems + uptoBulkAll spare + 1
  | .agg parts => uptoBulkAll parts + 1
  | .iface _ d => uptoBulk d + 1
  | .map entries => uptoBulkEntries entries + 1
  | .held _ => 1
def uptoBulkAll {H : Type} : List (DataW H) → Nat
  | [] => 0
  | d :: r => uptoBulk d + uptoBulkAll r
def uptoBulkEntries {H : Type} : List (Lit × DataW H) → Nat
  | [] => 0
  | x :: r => uptoBulkEntry x + uptoBulkEntries r
def uptoBulkEntry {H : Type} : Lit × DataW H → Nat
  | (.string bytes, d) => bytes.length + uptoBulk d + 1
  | (_, d) => uptoBulk d + 1
 end
def uptoSmall : (H : Type) → List (DataW H) → Bool := fun _ ds => decide (uptoBulkAll ds ≤ 1048576)
def OpenSpec.upto (s : _root_.Go.ChangeSpec) : _root_.Go.OpenSpec := { _root_.Go.OpenSpec.ofChange s with cond := some uptoSmall }

/-- 'nepenthelaw04.DeriveBytes', WHERE WHAT IT READS IS OF BULK AT MOST 1048576: true; the input reads as it did. -/
def deriveBytesUptoRow : OpenClaim := { program := "ytaplllonomdgeaa", sum := "ef3527b753a63c4beb131d1fd13dddebe8414544a98d8d1a136c26923025b6e1", func := "nepenthe/nepenthelaw04.DeriveBytes", spec := "deriveBytes", apart := false, narrowed := true }
def DeriveBytesUptoSaid : Prop := deriveBytesUptoRow.holds Try.pinned (OpenSpec.upto deriveBytesSpec)

/-- 'nepenthelaw04.DeriveBlocks', WHERE WHAT IT READS IS OF BULK AT MOST 1048576: true; the input reads as it did. -/
def deriveBlocksUptoRow : OpenClaim := { program := "ytaplllonomdgeaa", sum := "ef3527b753a63c4beb131d1fd13dddebe8414544a98d8d1a136c26923025b6e1", func := "nepenthe/nepenthelaw04.DeriveBlocks", spec := "deriveBlocks", apart := false, narrowed := true }
def DeriveBlocksUptoSaid : Prop := deriveBlocksUptoRow.holds Try.pinned (OpenSpec.upto deriveBlocksSpec)

/-- 'nepenthelaw04.DeriveKeys', WHERE WHAT IT READS IS OF BULK AT MOST 1048576: true; the input reads as it did. -/
def deriveKeysUptoRow : OpenClaim := { program := "ytaplllonomdgeaa", sum := "ef3527b753a63c4beb131d1fd13dddebe8414544a98d8d1a136c26923025b6e1", func := "nepenthe/nepenthelaw04.DeriveKeys", spec := "deriveKeys", apart := false, narrowed := true }
def DeriveKeysUptoSaid : Prop := deriveKeysUptoRow.holds Try.pinned (OpenSpec.upto deriveKeysSpec)

/-- 'nepenthelaw04.DeriveBegins', WHERE WHAT IT READS IS OF BULK AT MOST 1048576: true; the input reads as it did. -/
def deriveBeginsUptoRow : OpenClaim := { program := "ytaplllonomdgeaa", sum := "ef3527b753a63c4beb131d1fd13dddebe8414544a98d8d1a136c26923025b6e1", func := "nepenthe/nepenthelaw04.DeriveBegins", spec := "deriveBegins", apart := false, narrowed := true }
def DeriveBeginsUptoSaid : Prop := deriveBeginsUptoRow.holds Try.pinned (OpenSpec.upto deriveBeginsSpec)

end Rows
end Go.Proofs.Ytaplllonomdgeaa
