/-
  No cell of these rows narrows 'for every input' (looked for: loops, veiled, ifaces, maps, wideKeys, modest, calm, conditions, laid).
  DERIVED. THE GIVEN ROWS OF THIS SEAT. 3 by the template 'for every input the law returns true; each argument reads behind the call as it read before'; 0 by the template 'total and deterministic' (their statements: YtifepmdhbhdjpaaTotals.lean).
  GIVEN WITH THE SEED: the statements are not yours to turn. If you find one false, say at which input.
  Laid BY PROGRAM, IN A SANDBOX (cutbox-rows.mjs): the forced cells as the released guide's own fill.sh prints them over the translation cf82a8ff8a584475… (all of the seat's roots in one cut). By AI agents, Wed Nov 11 2026. No macro, syntax, notation, axiom, sorry.
-/
import Derived.Test.YtifepmdhbhdjpaaChecked
import GoSem.Claim
import GoSem.ClaimJoined
import GoSem.ClaimMapViews
import Derived.JoinedTies
import Derived.KernelRfl
namespace Go.Proofs.Ytifepmdhbhdjpaa
/- THE CELL 'sum', in the pinned program and in every row, IS THE sha256 OF THE DUMP (.gsa) THAT YtifepmdhbhdjpaaProg.lean LOADS. Nothing in Lean hashes anything: it is a label: what it is worth is what the hold of that sum in a sandbox is worth. -/
noncomputable def Try.pinned : Pinned := { name := "ytifepmdhbhdjpaa", sum := "cf82a8ff8a5844752dc647dbad7f3a380efeb827f25748fcb19b09fbaa6bde24", checked := Try.checked }
namespace Rows
def none {H : Type} : Left H := { results := [], args := [] }

/-- 'nepenthelaw17.SlotMakes': WHATEVER THE INPUT: true; the input reads as it did. -/
def slotMakesSpec : ChangeSpec := { name := "slotMakes", fn := fun _ => fun
  | [d1, d2, d3] => { results := [.lit (.bool true)], args := [d1, d2, d3] }
  | _ => none }
def slotMakesRow : OpenClaim := { program := "ytifepmdhbhdjpaa", sum := "cf82a8ff8a5844752dc647dbad7f3a380efeb827f25748fcb19b09fbaa6bde24", func := "nepenthe/nepenthelaw17.SlotMakes", spec := "slotMakes", unfollowed := true, recurses := true, apart := false }
def SlotMakesSaid : Prop := slotMakesRow.holds Try.pinned (OpenSpec.ofChange slotMakesSpec)

/-- ITS FALSE NEIGHBOUR: 'it returns false'. Refute it at one input. -/
def slotMakesWrong : ChangeSpec := { name := "slotMakes", fn := fun _ => fun
  | [d1, d2, d3] => { results := [.lit (.bool false)], args := [d1, d2, d3] }
  | _ => none }
def SlotMakesWrongFalsely : Prop := slotMakesRow.holds Try.pinned (OpenSpec.ofChange slotMakesWrong)

/-- 'nepenthelaw17.SlotKeys': WHATEVER THE INPUT: true; the input reads as it did. -/
def slotKeysSpec : ChangeSpec := { name := "slotKeys", fn := fun _ => fun
  | [d1, d2] => { results := [.lit (.bool true)], args := [d1, d2] }
  | _ => none }
def slotKeysRow : OpenClaim := { program := "ytifepmdhbhdjpaa", sum := "cf82a8ff8a5844752dc647dbad7f3a380efeb827f25748fcb19b09fbaa6bde24", func := "nepenthe/nepenthelaw17.SlotKeys", spec := "slotKeys", unfollowed := true, recurses := true, apart := false }
def SlotKeysSaid : Prop := slotKeysRow.holds Try.pinned (OpenSpec.ofChange slotKeysSpec)

/-- ITS FALSE NEIGHBOUR: 'it returns false'. Refute it at one input. -/
def slotKeysWrong : ChangeSpec := { name := "slotKeys", fn := fun _ => fun
  | [d1, d2] => { results := [.lit (.bool false)], args := [d1, d2] }
  | _ => none }
def SlotKeysWrongFalsely : Prop := slotKeysRow.holds Try.pinned (OpenSpec.ofChange slotKeysWrong)

/-- 'nepenthelaw17.SlotDeads': WHATEVER THE INPUT: true; the input reads as it did. -/
def slotDeadsSpec : ChangeSpec := { name := "slotDeads", fn := fun _ => fun
  | [d1, d2, d3] => { results := [.lit (.bool true)], args := [d1, d2, d3] }
  | _ => none }
def slotDeadsRow : OpenClaim := { program := "ytifepmdhbhdjpaa", sum := "cf82a8ff8a5844752dc647dbad7f3a380efeb827f25748fcb19b09fbaa6bde24", func := "nepenthe/nepenthelaw17.SlotDeads", spec := "slotDeads", unfollowed := true, recurses := true, apart := false }
def SlotDeadsSaid : Prop := slotDeadsRow.holds Try.pinned (OpenSpec.ofChange slotDeadsSpec)

/-- ITS FALSE NEIGHBOUR: 'it returns false'. Refute it at one input. -/
def slotDeadsWrong : ChangeSpec := { name := "slotDeads", fn := fun _ => fun
  | [d1, d2, d3] => { results := [.lit (.bool false)], args := [d1, d2, d3] }
  | _ => none }
def SlotDeadsWrongFalsely : Prop := slotDeadsRow.holds Try.pinned (OpenSpec.ofChange slotDeadsWrong)

/- THE SECOND FORM. 'bulk': how many values and letters a reading holds, each counted each time it is reached (what is shared counts as often as it is met; a slice's spare places count too). A statement '..UptoSaid' is the law's where the arguments, and the package variables that the reading takes, are together of bulk at most 1048576: NARROWER than '..Said'. Prove '..Said' where nothing that the law and all that it calls make is longer than what came in: it says more and counts as full. Else prove '..UptoSaid'. A law counts once. -/
mutual
def uptoBulk {H : Type} : DataW H → Nat
  | .lit (.string bytes) => bytes.length + 1
  | .lit _ => 1
  | .nil => 1
  | .ptr d => uptoBulk d + 1
  | .slice elems spare => uptoBulkAll elems + uptoBulkAll spare + 1
  | .agg parts => uptoBulkAll parts + 1
  | .iface _ d => uptoBulk d + 1
  | .map entries => uptoBulkEntries entries + 1
  | .held _ => 1
def uptoBulkAll {H : Type} : List (DataW H) → Nat
  | [] => 0
  | d :: r => uptoBulk d + uptoBulkAll r
def uptoBulkEntries {H : Type} : List (Lit × DataW H) → Nat
  | [] => 0
  | x :: r => uptoBulkEntry x + uptoBulkEntries r
def uptoBulkEntry {H : Type} : Lit × DataW H → Nat
  | (.string bytes, d) => bytes.length + uptoBulk d + 1
  | (_, d) => uptoBulk d + 1
 end
def uptoSmall : (H : Type) → List (DataW H) → Bool := fun _ ds => decide (uptoBulkAll ds ≤ 1048576)
def OpenSpec.upto (s : _root_.Go.ChangeSpec) : _root_.Go.OpenSpec := { _root_.Go.OpenSpec.ofChange s with cond := some uptoSmall }

/-- 'nepenthelaw17.SlotMakes', WHERE WHAT IT READS IS OF BULK AT MOST 1048576: true; the input reads as it did. -/
def slotMakesUptoRow : OpenClaim := { program := "ytifepmdhbhdjpaa", sum := "cf82a8ff8a5844752dc647dbad7f3a380efeb827f25748fcb19b09fbaa6bde24", func := "nepenthe/nepenthelaw17.SlotMakes", spec := "slotMakes", unfollowed := true, recurses := true, apart := false, narrowed := true }
def SlotMakesUptoSaid : Prop := slotMakesUptoRow.holds Try.pinned (OpenSpec.upto slotMakesSpec)

/-- 'nepenthelaw17.SlotKeys', WHERE WHAT IT READS IS OF BULK AT MOST 1048576: true; the input reads as it did. -/
def slotKeysUptoRow : OpenClaim := { program := "ytifepmdhbhdjpaa", sum := "cf82a8ff8a5844752dc647dbad7f3a380efeb827f25748fcb19b09fbaa6bde24", func := "nepenthe/nepenthelaw17.SlotKeys", spec := "slotKeys", unfollowed := true, recurses := true, apart := false, narrowed := true }
def SlotKeysUptoSaid : Prop := slotKeysUptoRow.holds Try.pinned (OpenSpec.upto slotKeysSpec)

/-- 'nepenthelaw17.SlotDeads', WHERE WHAT IT READS IS OF BULK AT MOST 1048576: true; the input reads as it did. -/
def slotDeadsUptoRow : OpenClaim := { program := "ytifepmdhbhdjpaa", sum := "cf82a8ff8a5844752dc647dbad7f3a380efeb827f25748fcb19b09fbaa6bde24", func := "nepenthe/nepenthelaw17.SlotDeads", spec := "slotDeads", unfollowed := true, recurses := true, apart := false, narrowed := true }
def SlotDeadsUptoSaid : Prop := slotDeadsUptoRow.holds Try.pinned (OpenSpec.upto slotDeadsSpec)

end Rows
end Go.Proofs.Ytifepmdhbhdjpaa
