/-
  DERIVED. GIVEN WITH THE SEED: THE CARDS: each row of YtahfcpdekjdceaaDoorRows.lean that lists a variable, with what it lists TIED to the program's text (the seventh form; the later family's looks); each row that meets fmt, with fmt's text TOLD by the authors' own Lean function (tested against real Go, not proved from fmt's source: count such statements apart). THE CARD IS WHAT COUNTS. Prove the row's statement (the work); the ties are given (YtahfcpdekjdceaaDoorTie.lean); close each card by the builder's one call (the guide's Derived/Test/ToyasCard.lean, 'card_holds'). Laid BY PROGRAM, IN A SANDBOX (cutbox-door.mjs). By AI agents, Wed Nov 11 2026. No macro, syntax, notation, axiom, sorry.
-/
import Derived.Test.YtahfcpdekjdceaaDoorRows
import GoSem.ClaimSeven
namespace Go.Proofs.YtahfcpdekjdceaaDoor
namespace Rows

/-- THE TIED CARD OF 'nepenthelaw19.ChunkPages'. -/
def chunkPagesCard : Claim7 := { stood := { row := chunkPagesRow, standIns := [], harness := (true, "01bb99244bda544c6c0af162a783c4496d07457aebc8a9036d99d75261eac5f6"), looks := false }, kinds := [], alts := [], laidByText := true, laidKinds := [.data], laidTests := true, laidLooks := .later }
def ChunkPagesCardSaid : Prop := Claim7.holds Tryd.pinned (.plain (OpenSpec.ofChange chunkPagesSpec)) chunkPagesCard

/-- THE TIED CARD OF 'nepenthelaw19.ChunkHolds'. -/
def chunkHoldsCard : Claim7 := { stood := { row := chunkHoldsRow, standIns := [], harness := (true, "01bb99244bda544c6c0af162a783c4496d07457aebc8a9036d99d75261eac5f6"), looks := false }, kinds := [], alts := [], laidByText := true, laidKinds := [.data], laidTests := true, laidLooks := .later }
def ChunkHoldsCardSaid : Prop := Claim7.holds Tryd.pinned (.plain (OpenSpec.ofChange chunkHoldsSpec)) chunkHoldsCard

/-- THE TIED CARD OF 'nepenthelaw19.ChunkCurrents'. -/
def chunkCurrentsCard : Claim7 := { stood := { row := chunkCurrentsRow, standIns := [], harness := (true, "01bb99244bda544c6c0af162a783c4496d07457aebc8a9036d99d75261eac5f6"), looks := false }, kinds := [], alts := [], laidByText := true, laidKinds := [.data], laidTests := true, laidLooks := .later }
def ChunkCurrentsCardSaid : Prop := Claim7.holds Tryd.pinned (.plain (OpenSpec.ofChange chunkCurrentsSpec)) chunkCurrentsCard

/-- THE TIED CARD OF 'nepenthelaw19.ChunkBack'. -/
def chunkBackCard : Claim7 := { stood := { row := chunkBackRow, standIns := [], harness := (true, "01bb99244bda544c6c0af162a783c4496d07457aebc8a9036d99d75261eac5f6"), looks := false }, kinds := [], alts := [], laidByText := true, laidKinds := [.data], laidTests := true, laidLooks := .later }
def ChunkBackCardSaid : Prop := Claim7.holds Tryd.pinned (.plain (OpenSpec.ofChange chunkBackSpec)) chunkBackCard

/-- THE SECOND FORM's CARD OF 'nepenthelaw19.ChunkPages'. -/
def chunkPagesUptoCard : Claim7 := { stood := { row := chunkPagesUptoRow, standIns := [], harness := (true, "01bb99244bda544c6c0af162a783c4496d07457aebc8a9036d99d75261eac5f6"), looks := false }, kinds := [], alts := [], laidByText := true, laidKinds := [.data], laidTests := true, laidLooks := .later }
def ChunkPagesUptoCardSaid : Prop := Claim7.holds Tryd.pinned (.plain (OpenSpec.upto chunkPagesSpec)) chunkPagesUptoCard

/-- THE SECOND FORM's CARD OF 'nepenthelaw19.ChunkHolds'. -/
def chunkHoldsUptoCard : Claim7 := { stood := { row := chunkHoldsUptoRow, standIns := [], harness := (true, "01bb99244bda544c6c0af162a783c4496d07457aebc8a9036d99d75261eac5f6"), looks := false }, kinds := [], alts := [], laidByText := true, laidKinds := [.data], laidTests := true, laidLooks := .later }
def ChunkHoldsUptoCardSaid : Prop := Claim7.holds Tryd.pinned (.plain (OpenSpec.upto chunkHoldsSpec)) chunkHoldsUptoCard

/-- THE SECOND FORM's CARD OF 'nepenthelaw19.ChunkCurrents'. -/
def chunkCurrentsUptoCard : Claim7 := { stood := { row := chunkCurrentsUptoRow, standIns := [], harness := (true, "01bb99244bda544c6c0af162a783c4496d07457aebc8a9036d99d75261eac5f6"), looks := false }, kinds := [], alts := [], laidByText := true, laidKinds := [.data], laidTests := true, laidLooks := .later }
def ChunkCurrentsUptoCardSaid : Prop := Claim7.holds Tryd.pinned (.plain (OpenSpec.upto chunkCurrentsSpec)) chunkCurrentsUptoCard

/-- THE SECOND FORM's CARD OF 'nepenthelaw19.ChunkBack'. -/
def chunkBackUptoCard : Claim7 := { stood := { row := chunkBackUptoRow, standIns := [], harness := (true, "01bb99244bda544c6c0af162a783c4496d07457aebc8a9036d99d75261eac5f6"), looks := false }, kinds := [], alts := [], laidByText := true, laidKinds := [.data], laidTests := true, laidLooks := .later }
def ChunkBackUptoCardSaid : Prop := Claim7.holds Tryd.pinned (.plain (OpenSpec.upto chunkBackSpec)) chunkBackUptoCard
end Rows
end Go.Proofs.YtahfcpdekjdceaaDoor
