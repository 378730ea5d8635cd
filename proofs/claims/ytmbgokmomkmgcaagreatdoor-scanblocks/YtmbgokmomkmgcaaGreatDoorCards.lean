/-
  DERIVED. GIVEN WITH THE SEED: THE CARDS: each row of YtmbgokmomkmgcaaGreatDoorRows.lean that lists a variable, with what it lists TIED to the program's text (the seventh form; the later family's looks); each row that meets fmt, with fmt's text TOLD by the authors' own Lean function (tested against real Go, not proved from fmt's source: count such statements apart). THE CARD IS WHAT COUNTS. Prove the row's statement (the work); the ties are given (YtmbgokmomkmgcaaGreatDoorTie.lean); close each card by the builder's one call (the guide's Derived/Test/ToyasCard.lean, 'card_holds'). Laid BY PROGRAM, IN A SANDBOX (cutbox-door.mjs). By AI agents, Wed Nov 11 2026. No macro, syntax, notation, axiom, sorry.
-/
import Derived.Test.YtmbgokmomkmgcaaGreatDoorRows
import GoSem.ClaimSeven
namespace Go.Proofs.YtmbgokmomkmgcaaGreatDoor
namespace Rows

/-- THE TIED CARD OF 'nepenthelaw23.ScanArrays'. -/
def scanArraysCard : Claim7 := { stood := { row := scanArraysRow, standIns := [], harness := (true, "ec359f306bba5445fba767741099bb8dffcf20c4f2a2638d8a1dd9ab9defdcde"), looks := false }, kinds := [], alts := [], laidByText := true, laidKinds := [.data], laidTests := true, laidLooks := .later }
def ScanArraysCardSaid : Prop := Claim7.holds Tryz.pinned (.plain (OpenSpec.ofChange scanArraysSpec)) scanArraysCard

/-- THE TIED CARD OF 'nepenthelaw23.ScanBlocks'. -/
def scanBlocksCard : Claim7 := { stood := { row := scanBlocksRow, standIns := [], harness := (true, "ec359f306bba5445fba767741099bb8dffcf20c4f2a2638d8a1dd9ab9defdcde"), looks := false }, kinds := [], alts := [], laidByText := true, laidKinds := [.data], laidTests := true, laidLooks := .later }
def ScanBlocksCardSaid : Prop := Claim7.holds Tryz.pinned (.plain (OpenSpec.ofChange scanBlocksSpec)) scanBlocksCard

/-- THE TIED CARD OF 'nepenthelaw23.ScanPayloads'. -/
def scanPayloadsCard : Claim7 := { stood := { row := scanPayloadsRow, standIns := [], harness := (true, "ec359f306bba5445fba767741099bb8dffcf20c4f2a2638d8a1dd9ab9defdcde"), looks := false }, kinds := [], alts := [], laidByText := true, laidKinds := [.data], laidTests := true, laidLooks := .later }
def ScanPayloadsCardSaid : Prop := Claim7.holds Tryz.pinned (.plain (OpenSpec.ofChange scanPayloadsSpec)) scanPayloadsCard

/-- THE SECOND FORM's CARD OF 'nepenthelaw23.ScanArrays'. -/
def scanArraysUptoCard : Claim7 := { stood := { row := scanArraysUptoRow, standIns := [], harness := (true, "ec359f306bba5445fba767741099bb8dffcf20c4f2a2638d8a1dd9ab9defdcde"), looks := false }, kinds := [], alts := [], laidByText := true, laidKinds := [.data], laidTests := true, laidLooks := .later }
def ScanArraysUptoCardSaid : Prop := Claim7.holds Tryz.pinned (.plain (OpenSpec.upto scanArraysSpec)) scanArraysUptoCard

/-- THE SECOND FORM's CARD OF 'nepenthelaw23.ScanBlocks'. -/
def scanBlocksUptoCard : Claim7 := { stood := { row := scanBlocksUptoRow, standIns := [], harness := (true, "ec359f306bba5445fba767741099bb8dffcf20c4f2a2638d8a1dd9ab9defdcde"), looks := false }, kinds := [], alts := [], laidByText := true, laidKinds := [.data], laidTests := true, laidLooks := .later }
def ScanBlocksUptoCardSaid : Prop := Claim7.holds Tryz.pinned (.plain (OpenSpec.upto scanBlocksSpec)) scanBlocksUptoCard

/-- THE SECOND FORM's CARD OF 'nepenthelaw23.ScanPayloads'. -/
def scanPayloadsUptoCard : Claim7 := { stood := { row := scanPayloadsUptoRow, standIns := [], harness := (true, "ec359f306bba5445fba767741099bb8dffcf20c4f2a2638d8a1dd9ab9defdcde"), looks := false }, kinds := [], alts := [], laidByText := true, laidKinds := [.data], laidTests := true, laidLooks := .later }
def ScanPayloadsUptoCardSaid : Prop := Claim7.holds Tryz.pinned (.plain (OpenSpec.upto scanPayloadsSpec)) scanPayloadsUptoCard
end Rows
end Go.Proofs.YtmbgokmomkmgcaaGreatDoor
