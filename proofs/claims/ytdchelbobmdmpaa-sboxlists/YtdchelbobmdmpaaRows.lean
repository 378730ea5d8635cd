/-
  No cell of these rows narrows 'for every input' (looked for: loops, veiled, ifaces, maps, wideKeys, modest, calm, conditions, laid).
  DERIVED. THE GIVEN ROWS OF THIS SEAT. 3 by the template 'for every input the law returns true; each argument reads behind the call as it read before'; 0 by the template 'total and deterministic' (their statements: YtdchelbobmdmpaaTotals.lean).
  GIVEN WITH THE SEED: the statements are not yours to turn. If you find one false, say at which input.
  Laid BY PROGRAM, IN A SANDBOX (cutbox-rows.mjs): the forced cells as the released guide's own fill.sh prints them over the translation 0d8b3c398d29a351… (all of the seat's roots in one cut). By AI agents, Wed Nov 11 2026. No macro, syntax, notation, axiom, sorry.
-/
import Derived.Test.YtdchelbobmdmpaaChecked
import GoSem.Claim
import GoSem.ClaimJoined
import GoSem.ClaimMapViews
import Derived.JoinedTies
import Derived.KernelRfl
namespace Go.Proofs.Ytdchelbobmdmpaa
/- THE CELL 'sum', in the pinned program and in every row, IS THE sha256 OF THE DUMP (.gsa) THAT YtdchelbobmdmpaaProg.lean LOADS. Nothing in Lean hashes anything: it is a label: what it is worth is what the hold of that sum in a sandbox is worth. -/
noncomputable def Try.pinned : Pinned := { name := "ytdchelbobmdmpaa", sum := "0d8b3c398d29a3518031464aebe4e8be030e6a55a4ffa69b4e03eafd4595dd2d", checked := Try.checked }
namespace Rows
def none {H : Type} : Left H := { results := [], args := [] }

/-- 'nepenthelaw06.SboxSubs': WHATEVER THE INPUT: true; the input reads as it did. -/
def sboxSubsSpec : ChangeSpec := { name := "sboxSubs", fn := fun _ => fun
  | [d] => { results := [.lit (.bool true)], args := [d] }
  | _ => none }
def sboxSubsRow : OpenClaim := { program := "ytdchelbobmdmpaa", sum := "0d8b3c398d29a3518031464aebe4e8be030e6a55a4ffa69b4e03eafd4595dd2d", func := "nepenthe/nepenthelaw06.SboxSubs", spec := "sboxSubs", apart := false }
def SboxSubsSaid : Prop := sboxSubsRow.holds Try.pinned (OpenSpec.ofChange sboxSubsSpec)

/-- ITS FALSE NEIGHBOUR: 'it returns false'. Refute it at one input. -/
def sboxSubsWrong : ChangeSpec := { name := "sboxSubs", fn := fun _ => fun
  | [d] => { results := [.lit (.bool false)], args := [d] }
  | _ => none }
def SboxSubsWrongFalsely : Prop := sboxSubsRow.holds Try.pinned (OpenSpec.ofChange sboxSubsWrong)

/-- 'nepenthelaw06.SboxLists': WHATEVER THE INPUT: true; the input reads as it did. -/
def sboxListsSpec : ChangeSpec := { name := "sboxLists", fn := fun _ => fun
  | [d] => { results := [.lit (.bool true)], args := [d] }
  | _ => none }
def sboxListsRow : OpenClaim := { program := "ytdchelbobmdmpaa", sum := "0d8b3c398d29a3518031464aebe4e8be030e6a55a4ffa69b4e03eafd4595dd2d", func := "nepenthe/nepenthelaw06.SboxLists", spec := "sboxLists", apart := false }
def SboxListsSaid : Prop := sboxListsRow.holds Try.pinned (OpenSpec.ofChange sboxListsSpec)

/-- ITS FALSE NEIGHBOUR: 'it returns false'. Refute it at one input. -/
def sboxListsWrong : ChangeSpec := { name := "sboxLists", fn := fun _ => fun
  | [d] => { results := [.lit (.bool false)], args := [d] }
  | _ => none }
def SboxListsWrongFalsely : Prop := sboxListsRow.holds Try.pinned (OpenSpec.ofChange sboxListsWrong)

/-- 'nepenthelaw06.SboxWords': WHATEVER THE INPUT: true; the input reads as it did. -/
def sboxWordsSpec : ChangeSpec := { name := "sboxWords", fn := fun _ => fun
  | [d] => { results := [.lit (.bool true)], args := [d] }
  | _ => none }
def sboxWordsRow : OpenClaim := { program := "ytdchelbobmdmpaa", sum := "0d8b3c398d29a3518031464aebe4e8be030e6a55a4ffa69b4e03eafd4595dd2d", func := "nepenthe/nepenthelaw06.SboxWords", spec := "sboxWords", apart := false }
def SboxWordsSaid : Prop := sboxWordsRow.holds Try.pinned (OpenSpec.ofChange sboxWordsSpec)

/-- ITS FALSE NEIGHBOUR: 'it returns false'. Refute it at one input. -/
def sboxWordsWrong : ChangeSpec := { name := "sboxWords", fn := fun _ => fun
  | [d] => { results := [.lit (.bool false)], args := [d] }
  | _ => none }
def SboxWordsWrongFalsely : Prop := sboxWordsRow.holds Try.pinned (OpenSpec.ofChange sboxWordsWrong)

/- THE SECOND FORM. 'bulk': how many values and letters a reading holds, each counted each time it is reached (what is shared counts as often as it is met; a slice's spare places count too). A statement '..UptoSaid' is the law's where the arguments, and the package variables that the reading takes, are together of bulk at most 1048576: NARROWER than '..Said'. Prove '..Said' where nothing that the law and all that it calls make is longer than what came in: it says more and counts as full. Else prove '..UptoSaid'. A law counts once. -/
mutual
def uptoBulk {H : Type} : DataW H → Nat
  | .lit (.string bytes) => bytes.length + 1
  | .lit _ => 1
  | .nil => 1
  | .ptr d => uptoBulk d + 1
  | .slice elems spare => uptoBulkAll elems + uptoBulkAll spare + 1
  | .agg parts => uptoBulkAll parts + 1
  | .iface _ d => uptoBulk d + 1
  | .map entries => uptoBulkEntries entries + 1
  | .held _ => 1
def uptoBulkAll {H : Type} : List (DataW H) → Nat
  | [] => 0
  | d :: r => uptoBulk d + uptoBulkAll r
def uptoBulkEntries {H : Type} : List (Lit × DataW H) → Nat
  | [] => 0
  | x :: r => uptoBulkEntry x + uptoBulkEntries r
def uptoBulkEntry {H : Type} : Lit × DataW H → Nat
  | (.string bytes, d) => bytes.length + uptoBulk d + 1
  | (_, d) => uptoBulk d + 1
 end
def uptoSmall : (H : Type) → List (DataW H) → Bool := fun _ ds => decide (uptoBulkAll ds ≤ 1048576)
def OpenSpec.upto (s : _root_.Go.ChangeSpec) : _root_.Go.OpenSpec := { _root_.Go.OpenSpec.ofChange s with cond := some uptoSmall }

/-- 'nepenthelaw06.SboxSubs', WHERE WHAT IT READS IS OF BULK AT MOST 1048576: true; the input reads as it did. -/
def sboxSubsUptoRow : OpenClaim := { program := "ytdchelbobmdmpaa", sum := "0d8b3c398d29a3518031464aebe4e8be030e6a55a4ffa69b4e03eafd4595dd2d", func := "nepenthe/nepenthelaw06.SboxSubs", spec := "sboxSubs", apart := false, narrowed := true }
def SboxSubsUptoSaid : Prop := sboxSubsUptoRow.holds Try.pinned (OpenSpec.upto sboxSubsSpec)

/-- 'nepenthelaw06.SboxLists', WHERE WHAT IT READS IS OF BULK AT MOST 1048576: true; the input reads as it did. -/
def sboxListsUptoRow : OpenClaim := { program := "ytdchelbobmdmpaa", sum := "0d8b3c398d29a3518031464aebe4e8be030e6a55a4ffa69b4e03eafd4595dd2d", func := "nepenthe/nepenthelaw06.SboxLists", spec := "sboxLists", apart := false, narrowed := true }
def SboxListsUptoSaid : Prop := sboxListsUptoRow.holds Try.pinned (OpenSpec.upto sboxListsSpec)

/-- 'nepenthelaw06.SboxWords', WHERE WHAT IT READS IS OF BULK AT MOST 1048576: true; the input reads as it did. -/
def sboxWordsUptoRow : OpenClaim := { program := "ytdchelbobmdmpaa", sum := "0d8b3c398d29a3518031464aebe4e8be030e6a55a4ffa69b4e03eafd4595dd2d", func := "nepenthe/nepenthelaw06.SboxWords", spec := "sboxWords", apart := false, narrowed := true }
def SboxWordsUptoSaid : Prop := sboxWordsUptoRow.holds Try.pinned (OpenSpec.upto sboxWordsSpec)

end Rows
end Go.Proofs.Ytdchelbobmdmpaa
