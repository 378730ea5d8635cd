/-
  DERIVED. GIVEN WITH THE SEED: THE CARDS: each row of YtpmakkjcpoillaaDoorRows.lean that lists a variable, with what it lists TIED to the program's text (the seventh form; the later family's looks); each row that meets fmt, with fmt's text TOLD by the authors' own Lean function (tested against real Go, not proved from fmt's source: count such statements apart). THE CARD IS WHAT COUNTS. Prove the row's statement (the work); the ties are given (YtpmakkjcpoillaaDoorTie.lean); close each card by the builder's one call (the guide's Derived/Test/ToyasCard.lean, 'card_holds'). Laid BY PROGRAM, IN A SANDBOX (cutbox-door.mjs). By AI agents, Wed Nov 11 2026. No macro, syntax, notation, axiom, sorry.
-/
import Derived.Test.YtpmakkjcpoillaaDoorRows
import GoSem.ClaimSeven
namespace Go.Proofs.YtpmakkjcpoillaaDoor
namespace Rows

/-- THE TIED CARD OF 'nepenthelaw15.PageMakes'. -/
def pageMakesCard : Claim7 := { stood := { row := pageMakesRow, standIns := [], harness := (true, "9fab44a7a3937073a777427f357aeda8237326bbbd2d9e959c78416a6bccac63"), looks := false }, kinds := [], alts := [], laidByText := true, laidKinds := [.data], laidTests := true, laidLooks := .later }
def PageMakesCardSaid : Prop := Claim7.holds Tryd.pinned (.plain (OpenSpec.ofChange pageMakesSpec)) pageMakesCard

/-- THE TIED CARD OF 'nepenthelaw15.PageReads'. -/
def pageReadsCard : Claim7 := { stood := { row := pageReadsRow, standIns := [], harness := (true, "9fab44a7a3937073a777427f357aeda8237326bbbd2d9e959c78416a6bccac63"), looks := false }, kinds := [], alts := [], laidByText := true, laidKinds := [.data], laidTests := true, laidLooks := .later }
def PageReadsCardSaid : Prop := Claim7.holds Tryd.pinned (.plain (OpenSpec.ofChange pageReadsSpec)) pageReadsCard

/-- THE TIED CARD OF 'nepenthelaw15.PageBack'. -/
def pageBackCard : Claim7 := { stood := { row := pageBackRow, standIns := [], harness := (true, "9fab44a7a3937073a777427f357aeda8237326bbbd2d9e959c78416a6bccac63"), looks := false }, kinds := [], alts := [], laidByText := true, laidKinds := [.data], laidTests := true, laidLooks := .later }
def PageBackCardSaid : Prop := Claim7.holds Tryd.pinned (.plain (OpenSpec.ofChange pageBackSpec)) pageBackCard

/-- THE TIED CARD OF 'nepenthelaw15.PageBlank'. -/
def pageBlankCard : Claim7 := { stood := { row := pageBlankRow, standIns := [], harness := (true, "9fab44a7a3937073a777427f357aeda8237326bbbd2d9e959c78416a6bccac63"), looks := false }, kinds := [], alts := [], laidByText := true, laidKinds := [.data], laidTests := true, laidLooks := .later }
def PageBlankCardSaid : Prop := Claim7.holds Tryd.pinned (.plain (OpenSpec.ofChange pageBlankSpec)) pageBlankCard

/-- THE SECOND FORM's CARD OF 'nepenthelaw15.PageMakes'. -/
def pageMakesUptoCard : Claim7 := { stood := { row := pageMakesUptoRow, standIns := [], harness := (true, "9fab44a7a3937073a777427f357aeda8237326bbbd2d9e959c78416a6bccac63"), looks := false }, kinds := [], alts := [], laidByText := true, laidKinds := [.data], laidTests := true, laidLooks := .later }
def PageMakesUptoCardSaid : Prop := Claim7.holds Tryd.pinned (.plain (OpenSpec.upto pageMakesSpec)) pageMakesUptoCard

/-- THE SECOND FORM's CARD OF 'nepenthelaw15.PageReads'. -/
def pageReadsUptoCard : Claim7 := { stood := { row := pageReadsUptoRow, standIns := [], harness := (true, "9fab44a7a3937073a777427f357aeda8237326bbbd2d9e959c78416a6bccac63"), looks := false }, kinds := [], alts := [], laidByText := true, laidKinds := [.data], laidTests := true, laidLooks := .later }
def PageReadsUptoCardSaid : Prop := Claim7.holds Tryd.pinned (.plain (OpenSpec.upto pageReadsSpec)) pageReadsUptoCard

/-- THE SECOND FORM's CARD OF 'nepenthelaw15.PageBack'. -/
def pageBackUptoCard : Claim7 := { stood := { row := pageBackUptoRow, standIns := [], harness := (true, "9fab44a7a3937073a777427f357aeda8237326bbbd2d9e959c78416a6bccac63"), looks := false }, kinds := [], alts := [], laidByText := true, laidKinds := [.data], laidTests := true, laidLooks := .later }
def PageBackUptoCardSaid : Prop := Claim7.holds Tryd.pinned (.plain (OpenSpec.upto pageBackSpec)) pageBackUptoCard

/-- THE SECOND FORM's CARD OF 'nepenthelaw15.PageBlank'. -/
def pageBlankUptoCard : Claim7 := { stood := { row := pageBlankUptoRow, standIns := [], harness := (true, "9fab44a7a3937073a777427f357aeda8237326bbbd2d9e959c78416a6bccac63"), looks := false }, kinds := [], alts := [], laidByText := true, laidKinds := [.data], laidTests := true, laidLooks := .later }
def PageBlankUptoCardSaid : Prop := Claim7.holds Tryd.pinned (.plain (OpenSpec.upto pageBlankSpec)) pageBlankUptoCard
end Rows
end Go.Proofs.YtpmakkjcpoillaaDoor
