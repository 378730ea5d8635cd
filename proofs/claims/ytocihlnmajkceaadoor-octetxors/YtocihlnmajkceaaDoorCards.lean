/-
  DERIVED. GIVEN WITH THE SEED: THE CARDS: each row of YtocihlnmajkceaaDoorRows.lean that lists a variable, with what it lists TIED to the program's text (the seventh form; the later family's looks); each row that meets fmt, with fmt's text TOLD by the authors' own Lean function (tested against real Go, not proved from fmt's source: count such statements apart). THE CARD IS WHAT COUNTS. Prove the row's statement (the work); the ties are given (YtocihlnmajkceaaDoorTie.lean); close each card by the builder's one call (the guide's Derived/Test/ToyasCard.lean, 'card_holds'). Laid BY PROGRAM, IN A SANDBOX (cutbox-door.mjs). By AI agents, Wed Nov 11 2026. No macro, syntax, notation, axiom, sorry.
-/
import Derived.Test.YtocihlnmajkceaaDoorRows
import GoSem.ClaimSeven
namespace Go.Proofs.YtocihlnmajkceaaDoor
namespace Rows

/-- THE TIED CARD OF 'nepenthelaw01.OctetNumbers'. -/
def octetNumbersCard : Claim7 := { stood := { row := octetNumbersRow, standIns := [], harness := (true, "5c8ec85aff871745ca780672d7f8f0c963e576265169a668e981cfd24a84d141"), looks := false }, kinds := [], alts := [], laidByText := true, laidKinds := [.data], laidTests := true, laidLooks := .later }
def OctetNumbersCardSaid : Prop := Claim7.holds Tryd.pinned (.plain (OpenSpec.ofChange octetNumbersSpec)) octetNumbersCard

/-- THE TIED CARD OF 'nepenthelaw01.OctetXors'. -/
def octetXorsCard : Claim7 := { stood := { row := octetXorsRow, standIns := [], harness := (true, "5c8ec85aff871745ca780672d7f8f0c963e576265169a668e981cfd24a84d141"), looks := false }, kinds := [], alts := [], laidByText := true, laidKinds := [.data], laidTests := true, laidLooks := .later }
def OctetXorsCardSaid : Prop := Claim7.holds Tryd.pinned (.plain (OpenSpec.ofChange octetXorsSpec)) octetXorsCard

/-- THE TIED CARD OF 'nepenthelaw01.OctetFills'. -/
def octetFillsCard : Claim7 := { stood := { row := octetFillsRow, standIns := [], harness := (true, "5c8ec85aff871745ca780672d7f8f0c963e576265169a668e981cfd24a84d141"), looks := false }, kinds := [], alts := [], laidByText := true, laidKinds := [.data], laidTests := true, laidLooks := .later }
def OctetFillsCardSaid : Prop := Claim7.holds Tryd.pinned (.plain (OpenSpec.ofChange octetFillsSpec)) octetFillsCard

/-- THE TIED CARD OF 'nepenthelaw01.OctetHexes'. -/
def octetHexesCard : Claim7 := { stood := { row := octetHexesRow, standIns := [], harness := (true, "5c8ec85aff871745ca780672d7f8f0c963e576265169a668e981cfd24a84d141"), looks := false }, kinds := [], alts := [], laidByText := true, laidKinds := [.data], laidTests := true, laidLooks := .later }
def OctetHexesCardSaid : Prop := Claim7.holds Tryd.pinned (.plain (OpenSpec.ofChange octetHexesSpec)) octetHexesCard

/-- THE SECOND FORM's CARD OF 'nepenthelaw01.OctetNumbers'. -/
def octetNumbersUptoCard : Claim7 := { stood := { row := octetNumbersUptoRow, standIns := [], harness := (true, "5c8ec85aff871745ca780672d7f8f0c963e576265169a668e981cfd24a84d141"), looks := false }, kinds := [], alts := [], laidByText := true, laidKinds := [.data], laidTests := true, laidLooks := .later }
def OctetNumbersUptoCardSaid : Prop := Claim7.holds Tryd.pinned (.plain (OpenSpec.upto octetNumbersSpec)) octetNumbersUptoCard

/-- THE SECOND FORM's CARD OF 'nepenthelaw01.OctetXors'. -/
def octetXorsUptoCard : Claim7 := { stood := { row := octetXorsUptoRow, standIns := [], harness := (true, "5c8ec85aff871745ca780672d7f8f0c963e576265169a668e981cfd24a84d141"), looks := false }, kinds := [], alts := [], laidByText := true, laidKinds := [.data], laidTests := true, laidLooks := .later }
def OctetXorsUptoCardSaid : Prop := Claim7.holds Tryd.pinned (.plain (OpenSpec.upto octetXorsSpec)) octetXorsUptoCard

/-- THE SECOND FORM's CARD OF 'nepenthelaw01.OctetFills'. -/
def octetFillsUptoCard : Claim7 := { stood := { row := octetFillsUptoRow, standIns := [], harness := (true, "5c8ec85aff871745ca780672d7f8f0c963e576265169a668e981cfd24a84d141"), looks := false }, kinds := [], alts := [], laidByText := true, laidKinds := [.data], laidTests := true, laidLooks := .later }
def OctetFillsUptoCardSaid : Prop := Claim7.holds Tryd.pinned (.plain (OpenSpec.upto octetFillsSpec)) octetFillsUptoCard

/-- THE SECOND FORM's CARD OF 'nepenthelaw01.OctetHexes'. -/
def octetHexesUptoCard : Claim7 := { stood := { row := octetHexesUptoRow, standIns := [], harness := (true, "5c8ec85aff871745ca780672d7f8f0c963e576265169a668e981cfd24a84d141"), looks := false }, kinds := [], alts := [], laidByText := true, laidKinds := [.data], laidTests := true, laidLooks := .later }
def OctetHexesUptoCardSaid : Prop := Claim7.holds Tryd.pinned (.plain (OpenSpec.upto octetHexesSpec)) octetHexesUptoCard
end Rows
end Go.Proofs.YtocihlnmajkceaaDoor
