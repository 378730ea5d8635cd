/-
  DERIVED. GIVEN WITH THE SEED: THE CARDS: each row of YtbkaecjkgjkheaaDoorRows.lean that lists a variable, with what it lists TIED to the program's text (the seventh form; the later family's looks); each row that meets fmt, with fmt's text TOLD by the authors' own Lean function (tested against real Go, not proved from fmt's source: count such statements apart). THE CARD IS WHAT COUNTS. Prove the row's statement (the work); the ties are given (YtbkaecjkgjkheaaDoorTie.lean); close each card by the builder's one call (the guide's Derived/Test/ToyasCard.lean, 'card_holds'). Laid BY PROGRAM, IN A SANDBOX (cutbox-door.mjs). By AI agents, Wed Nov 11 2026. No macro, syntax, notation, axiom, sorry.
-/
import Derived.Test.YtbkaecjkgjkheaaDoorRows
import GoSem.ClaimSeven
namespace Go.Proofs.YtbkaecjkgjkheaaDoor
namespace Rows

/-- THE TIED CARD OF 'nepenthelaw16.SealTags'. -/
def sealTagsCard : Claim7 := { stood := { row := sealTagsRow, standIns := [], harness := (true, "78af6673e19dfb87cca61abef9038c4ebc150b2ff994d45b2665d8bbeaf0e238"), looks := false }, kinds := [], alts := [], laidByText := true, laidKinds := [.data], laidTests := true, laidLooks := .later }
def SealTagsCardSaid : Prop := Claim7.holds Tryd.pinned (.plain (OpenSpec.ofChange sealTagsSpec)) sealTagsCard

/-- THE TIED CARD OF 'nepenthelaw16.SealBack'. -/
def sealBackCard : Claim7 := { stood := { row := sealBackRow, standIns := [], harness := (true, "78af6673e19dfb87cca61abef9038c4ebc150b2ff994d45b2665d8bbeaf0e238"), looks := false }, kinds := [], alts := [], laidByText := true, laidKinds := [.data], laidTests := true, laidLooks := .later }
def SealBackCardSaid : Prop := Claim7.holds Tryd.pinned (.plain (OpenSpec.ofChange sealBackSpec)) sealBackCard

/-- THE TIED CARD OF 'nepenthelaw16.SealTweaks'. -/
def sealTweaksCard : Claim7 := { stood := { row := sealTweaksRow, standIns := [], harness := (true, "78af6673e19dfb87cca61abef9038c4ebc150b2ff994d45b2665d8bbeaf0e238"), looks := false }, kinds := [], alts := [], laidByText := true, laidKinds := [.data], laidTests := true, laidLooks := .later }
def SealTweaksCardSaid : Prop := Claim7.holds Tryd.pinned (.plain (OpenSpec.ofChange sealTweaksSpec)) sealTweaksCard

/-- THE SECOND FORM's CARD OF 'nepenthelaw16.SealTags'. -/
def sealTagsUptoCard : Claim7 := { stood := { row := sealTagsUptoRow, standIns := [], harness := (true, "78af6673e19dfb87cca61abef9038c4ebc150b2ff994d45b2665d8bbeaf0e238"), looks := false }, kinds := [], alts := [], laidByText := true, laidKinds := [.data], laidTests := true, laidLooks := .later }
def SealTagsUptoCardSaid : Prop := Claim7.holds Tryd.pinned (.plain (OpenSpec.upto sealTagsSpec)) sealTagsUptoCard

/-- THE SECOND FORM's CARD OF 'nepenthelaw16.SealBack'. -/
def sealBackUptoCard : Claim7 := { stood := { row := sealBackUptoRow, standIns := [], harness := (true, "78af6673e19dfb87cca61abef9038c4ebc150b2ff994d45b2665d8bbeaf0e238"), looks := false }, kinds := [], alts := [], laidByText := true, laidKinds := [.data], laidTests := true, laidLooks := .later }
def SealBackUptoCardSaid : Prop := Claim7.holds Tryd.pinned (.plain (OpenSpec.upto sealBackSpec)) sealBackUptoCard

/-- THE SECOND FORM's CARD OF 'nepenthelaw16.SealTweaks'. -/
def sealTweaksUptoCard : Claim7 := { stood := { row := sealTweaksUptoRow, standIns := [], harness := (true, "78af6673e19dfb87cca61abef9038c4ebc150b2ff994d45b2665d8bbeaf0e238"), looks := false }, kinds := [], alts := [], laidByText := true, laidKinds := [.data], laidTests := true, laidLooks := .later }
def SealTweaksUptoCardSaid : Prop := Claim7.holds Tryd.pinned (.plain (OpenSpec.upto sealTweaksSpec)) sealTweaksUptoCard
end Rows
end Go.Proofs.YtbkaecjkgjkheaaDoor
