/-
  NARROWER THAN 'FOR EVERY INPUT', by the rows' own cells (each row's printed sentence says how): ChunkPages: laid · ChunkHolds: laid · ChunkCurrents: laid · ChunkBack: laid.
  DERIVED. THE GIVEN ROWS OF THIS SEAT. 4 by the template 'for every input the law returns true; each argument reads behind the call as it read before'; 0 by the template 'total and deterministic' (their statements: YtahfcpdekjdceaaDoorTotals.lean).
  GIVEN WITH THE SEED: the statements are not yours to turn. If you find one false, say at which input.
  Laid BY PROGRAM, IN A SANDBOX (cutbox-rows.mjs): the forced cells as the released guide's own fill.sh prints them over the translation 7b583f1bfbd89a19… (all of the seat's roots in one cut). By AI agents, Wed Nov 11 2026. No macro, syntax, notation, axiom, sorry.
-/
import Derived.Test.YtahfcpdekjdceaaDoorChecked
import GoSem.Claim
import GoSem.ClaimJoined
import GoSem.ClaimMapViews
import Derived.JoinedTies
import Derived.KernelRfl
namespace Go.Proofs.YtahfcpdekjdceaaDoor
/- THE CELL 'sum', in the pinned program and in every row, IS THE sha256 OF THE DUMP (.gsa) THAT YtahfcpdekjdceaaDoorProg.lean LOADS. Nothing in Lean hashes anything: it is a label: what it is worth is what the hold of that sum in a sandbox is worth. -/
noncomputable def Tryd.pinned : Pinned := { name := "ytahfcpdekjdceaadoor", sum := "7b583f1bfbd89a19737f40f5f555b6ee079e777a3fe3760120f521760750bb10", checked := Tryd.checked }
namespace Rows
def none {H : Type} : Left H := { results := [], args := [] }

/- WHAT THE LISTED PACKAGE-LEVEL VARIABLES READ AS WHEN THE CALL BEGINS. Each datum BY PROGRAM (the guide's laid-datum.mjs) off the statement by which the dump's own 'gosem.cut.vars' lays the variable. In a bare row this is a premise. The card (YtahfcpdekjdceaaDoorCards.lean) ties it to the program's text. -/
def laid_nepenthe_head_sizes {H : Type} : DataW H := .agg [.lit (.int .i64 1), .lit (.int .i64 1), .lit (.int .i64 1), .lit (.int .i64 1), .lit (.int .i64 4), .lit (.int .i64 8), .lit (.int .i64 8)]

/-- 'nepenthelaw19.ChunkPages': WHATEVER THE INPUT: true; the input reads as it did. -/
def chunkPagesSpec : ChangeSpec := { name := "chunkPages", fn := fun _ => fun
  | [d1, d2, d3] => { results := [.lit (.bool true)], args := [d1, d2, d3] }
  | _ => none }
def chunkPagesRow : OpenClaim := { program := "ytahfcpdekjdceaadoor", sum := "7b583f1bfbd89a19737f40f5f555b6ee079e777a3fe3760120f521760750bb10", func := "nepenthe/nepenthelaw19.ChunkPages", spec := "chunkPages", unfollowed := true, recurses := true, named := ["nepenthe/head.sizes"], apart := false, laid := [("nepenthe/head.sizes", laid_nepenthe_head_sizes)] }
def ChunkPagesSaid : Prop := chunkPagesRow.holds Tryd.pinned (OpenSpec.ofChange chunkPagesSpec)

/-- ITS FALSE NEIGHBOUR: 'it returns false'. Refute it at one input. -/
def chunkPagesWrong : ChangeSpec := { name := "chunkPages", fn := fun _ => fun
  | [d1, d2, d3] => { results := [.lit (.bool false)], args := [d1, d2, d3] }
  | _ => none }
def ChunkPagesWrongFalsely : Prop := chunkPagesRow.holds Tryd.pinned (OpenSpec.ofChange chunkPagesWrong)

/-- 'nepenthelaw19.ChunkHolds': WHATEVER THE INPUT: true; the input reads as it did. -/
def chunkHoldsSpec : ChangeSpec := { name := "chunkHolds", fn := fun _ => fun
  | [d1, d2] => { results := [.lit (.bool true)], args := [d1, d2] }
  | _ => none }
def chunkHoldsRow : OpenClaim := { program := "ytahfcpdekjdceaadoor", sum := "7b583f1bfbd89a19737f40f5f555b6ee079e777a3fe3760120f521760750bb10", func := "nepenthe/nepenthelaw19.ChunkHolds", spec := "chunkHolds", unfollowed := true, recurses := true, named := ["nepenthe/head.sizes"], apart := false, laid := [("nepenthe/head.sizes", laid_nepenthe_head_sizes)] }
def ChunkHoldsSaid : Prop := chunkHoldsRow.holds Tryd.pinned (OpenSpec.ofChange chunkHoldsSpec)

/-- ITS FALSE NEIGHBOUR: 'it returns false'. Refute it at one input. -/
def chunkHoldsWrong : ChangeSpec := { name := "chunkHolds", fn := fun _ => fun
  | [d1, d2] => { results := [.lit (.bool false)], args := [d1, d2] }
  | _ => none }
def ChunkHoldsWrongFalsely : Prop := chunkHoldsRow.holds Tryd.pinned (OpenSpec.ofChange chunkHoldsWrong)

/-- 'nepenthelaw19.ChunkCurrents': WHATEVER THE INPUT: true; the input reads as it did. -/
def chunkCurrentsSpec : ChangeSpec := { name := "chunkCurrents", fn := fun _ => fun
  | [d1, d2] => { results := [.lit (.bool true)], args := [d1, d2] }
  | _ => none }
def chunkCurrentsRow : OpenClaim := { program := "ytahfcpdekjdceaadoor", sum := "7b583f1bfbd89a19737f40f5f555b6ee079e777a3fe3760120f521760750bb10", func := "nepenthe/nepenthelaw19.ChunkCurrents", spec := "chunkCurrents", unfollowed := true, recurses := true, named := ["nepenthe/head.sizes"], apart := false, laid := [("nepenthe/head.sizes", laid_nepenthe_head_sizes)] }
def ChunkCurrentsSaid : Prop := chunkCurrentsRow.holds Tryd.pinned (OpenSpec.ofChange chunkCurrentsSpec)

/-- ITS FALSE NEIGHBOUR: 'it returns false'. Refute it at one input. -/
def chunkCurrentsWrong : ChangeSpec := { name := "chunkCurrents", fn := fun _ => fun
  | [d1, d2] => { results := [.lit (.bool false)], args := [d1, d2] }
  | _ => none }
def ChunkCurrentsWrongFalsely : Prop := chunkCurrentsRow.holds Tryd.pinned (OpenSpec.ofChange chunkCurrentsWrong)

/-- 'nepenthelaw19.ChunkBack': WHATEVER THE INPUT: true; the input reads as it did. -/
def chunkBackSpec : ChangeSpec := { name := "chunkBack", fn := fun _ => fun
  | [d1, d2, d3] => { results := [.lit (.bool true)], args := [d1, d2, d3] }
  | _ => none }
def chunkBackRow : OpenClaim := { program := "ytahfcpdekjdceaadoor", sum := "7b583f1bfbd89a19737f40f5f555b6ee079e777a3fe3760120f521760750bb10", func := "nepenthe/nepenthelaw19.ChunkBack", spec := "chunkBack", unfollowed := true, recurses := true, named := ["nepenthe/head.sizes"], apart := false, laid := [("nepenthe/head.sizes", laid_nepenthe_head_sizes)] }
def ChunkBackSaid : Prop := chunkBackRow.holds Tryd.pinned (OpenSpec.ofChange chunkBackSpec)

/-- ITS FALSE NEIGHBOUR: 'it returns false'. Refute it at one input. -/
def chunkBackWrong : ChangeSpec := { name := "chunkBack", fn := fun _ => fun
  | [d1, d2, d3] => { results := [.lit (.bool false)], args := [d1, d2, d3] }
  | _ => none }
def ChunkBackWrongFalsely : Prop := chunkBackRow.holds Tryd.pinned (OpenSpec.ofChange chunkBackWrong)

/- THE SECOND FORM. 'bulk': how many values and letters a reading holds, each counted each time it is reached (what is shared counts as often as it is met; a slice's spare places count too). A statement '..UptoSaid' is the law's where the arguments, and the package variables that the reading takes, are together of bulk at most 1048576: NARROWER than '..Said'. Prove '..Said' where nothing that the law and all that it calls make is longer than what came in: it says more and counts as full. Else prove '..UptoSaid'. A law counts once. -/
mutual
def uptoBulk {H : Type} : DataW H → Nat
  | .lit (.string bytes) => bytes.length + 1
  | .lit _ => 1
  | .nil => 1
  | .ptr d => uptoBulk d + 1
  | .slice elems spare => uptoBulkAll elems + uptoBulkAll spare + 1
  | .agg parts => uptoBulkAll parts + 1
  | .iface _ d => uptoBulk d + 1
  | .map entries => uptoBulkEntries entries + 1
  | .held _ => 1
def uptoBulkAll {H : Type} : List (DataW H) → Nat
  | [] => 0
  | d :: r => uptoBulk d + uptoBulkAll r
def uptoBulkEntries {H : Type} : List (Lit × DataW H) → Nat
  | [] => 0
  | x :: r => uptoBulkEntry x + uptoBulkEntries r
def uptoBulkEntry {H : Type} : Lit × DataW H → Nat
  | (.string bytes, d) => bytes.length + uptoBulk d + 1
  | (_, d) => uptoBulk d + 1
 end
def uptoSmall : (H : Type) → List (DataW H) → Bool := fun _ ds => decide (uptoBulkAll ds ≤ 1048576)
def OpenSpec.upto (s : _root_.Go.ChangeSpec) : _root_.Go.OpenSpec := { _root_.Go.OpenSpec.ofChange s with cond := some uptoSmall }

/-- 'nepenthelaw19.ChunkPages', WHERE WHAT IT READS IS OF BULK AT MOST 1048576: true; the input reads as it did. -/
def chunkPagesUptoRow : OpenClaim := { program := "ytahfcpdekjdceaadoor", sum := "7b583f1bfbd89a19737f40f5f555b6ee079e777a3fe3760120f521760750bb10", func := "nepenthe/nepenthelaw19.ChunkPages", spec := "chunkPages", unfollowed := true, recurses := true, named := ["nepenthe/head.sizes"], apart := false, laid := [("nepenthe/head.sizes", laid_nepenthe_head_sizes)], narrowed := true }
def ChunkPagesUptoSaid : Prop := chunkPagesUptoRow.holds Tryd.pinned (OpenSpec.upto chunkPagesSpec)

/-- 'nepenthelaw19.ChunkHolds', WHERE WHAT IT READS IS OF BULK AT MOST 1048576: true; the input reads as it did. -/
def chunkHoldsUptoRow : OpenClaim := { program := "ytahfcpdekjdceaadoor", sum := "7b583f1bfbd89a19737f40f5f555b6ee079e777a3fe3760120f521760750bb10", func := "nepenthe/nepenthelaw19.ChunkHolds", spec := "chunkHolds", unfollowed := true, recurses := true, named := ["nepenthe/head.sizes"], apart := false, laid := [("nepenthe/head.sizes", laid_nepenthe_head_sizes)], narrowed := true }
def ChunkHoldsUptoSaid : Prop := chunkHoldsUptoRow.holds Tryd.pinned (OpenSpec.upto chunkHoldsSpec)

/-- 'nepenthelaw19.ChunkCurrents', WHERE WHAT IT READS IS OF BULK AT MOST 1048576: true; the input reads as it did. -/
def chunkCurrentsUptoRow : OpenClaim := { program := "ytahfcpdekjdceaadoor", sum := "7b583f1bfbd89a19737f40f5f555b6ee079e777a3fe3760120f521760750bb10", func := "nepenthe/nepenthelaw19.ChunkCurrents", spec := "chunkCurrents", unfollowed := true, recurses := true, named := ["nepenthe/head.sizes"], apart := false, laid := [("nepenthe/head.sizes", laid_nepenthe_head_sizes)], narrowed := true }
def ChunkCurrentsUptoSaid : Prop := chunkCurrentsUptoRow.holds Tryd.pinned (OpenSpec.upto chunkCurrentsSpec)

/-- 'nepenthelaw19.ChunkBack', WHERE WHAT IT READS IS OF BULK AT MOST 1048576: true; the input reads as it did. -/
def chunkBackUptoRow : OpenClaim := { program := "ytahfcpdekjdceaadoor", sum := "7b583f1bfbd89a19737f40f5f555b6ee079e777a3fe3760120f521760750bb10", func := "nepenthe/nepenthelaw19.ChunkBack", spec := "chunkBack", unfollowed := true, recurses := true, named := ["nepenthe/head.sizes"], apart := false, laid := [("nepenthe/head.sizes", laid_nepenthe_head_sizes)], narrowed := true }
def ChunkBackUptoSaid : Prop := chunkBackUptoRow.holds Tryd.pinned (OpenSpec.upto chunkBackSpec)

end Rows
end Go.Proofs.YtahfcpdekjdceaaDoor
