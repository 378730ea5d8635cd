/-
  DERIVED. GIVEN WITH THE SEED: THE CARDS: each row of YtakibiigcdgohaaGreatDoorRows.lean that lists a variable, with what it lists TIED to the program's text (the seventh form; the later family's looks); each row that meets fmt, with fmt's text TOLD by the authors' own Lean function (tested against real Go, not proved from fmt's source: count such statements apart). THE CARD IS WHAT COUNTS. Prove the row's statement (the work); the ties are given (YtakibiigcdgohaaGreatDoorTie.lean); close each card by the builder's one call (the guide's Derived/Test/ToyasCard.lean, 'card_holds'). Laid BY PROGRAM, IN A SANDBOX (cutbox-door.mjs). By AI agents, Wed Nov 11 2026. No macro, syntax, notation, axiom, sorry.
-/
import Derived.Test.YtakibiigcdgohaaGreatDoorRows
import GoSem.ClaimSeven
namespace Go.Proofs.YtakibiigcdgohaaGreatDoor
namespace Rows

/-- THE TIED CARD OF 'nepenthelaw20.KeyboxRuns'. -/
def keyboxRunsCard : Claim7 := { stood := { row := keyboxRunsRow, standIns := [], harness := (true, "d72f1871073a936b15728a461def2058378ff68b37c2c046ecc42645564feaa6"), looks := false }, kinds := [], alts := [], laidByText := true, laidKinds := [.data], laidTests := true, laidLooks := .later }
def KeyboxRunsCardSaid : Prop := Claim7.holds Tryz.pinned (.plain (OpenSpec.ofChange keyboxRunsSpec)) keyboxRunsCard

/-- THE TIED CARD OF 'nepenthelaw20.KeyboxCrashes'. -/
def keyboxCrashesCard : Claim7 := { stood := { row := keyboxCrashesRow, standIns := [], harness := (true, "d72f1871073a936b15728a461def2058378ff68b37c2c046ecc42645564feaa6"), looks := false }, kinds := [], alts := [], laidByText := true, laidKinds := [.data], laidTests := true, laidLooks := .later }
def KeyboxCrashesCardSaid : Prop := Claim7.holds Tryz.pinned (.plain (OpenSpec.ofChange keyboxCrashesSpec)) keyboxCrashesCard

/-- THE TIED CARD OF 'nepenthelaw20.KeyboxGone'. -/
def keyboxGoneCard : Claim7 := { stood := { row := keyboxGoneRow, standIns := [], harness := (true, "d72f1871073a936b15728a461def2058378ff68b37c2c046ecc42645564feaa6"), looks := false }, kinds := [], alts := [], laidByText := true, laidKinds := [.data], laidTests := true, laidLooks := .later }
def KeyboxGoneCardSaid : Prop := Claim7.holds Tryz.pinned (.plain (OpenSpec.ofChange keyboxGoneSpec)) keyboxGoneCard

/-- THE TIED CARD OF 'nepenthelaw20.KeyboxNil'. -/
def keyboxNilCard : Claim7 := { stood := { row := keyboxNilRow, standIns := [], harness := (true, "d72f1871073a936b15728a461def2058378ff68b37c2c046ecc42645564feaa6"), looks := false }, kinds := [], alts := [], laidByText := true, laidKinds := [.data], laidTests := true, laidLooks := .later }
def KeyboxNilCardSaid : Prop := Claim7.holds Tryz.pinned (.plain (OpenSpec.ofChange keyboxNilSpec)) keyboxNilCard

/-- THE SECOND FORM's CARD OF 'nepenthelaw20.KeyboxRuns'. -/
def keyboxRunsUptoCard : Claim7 := { stood := { row := keyboxRunsUptoRow, standIns := [], harness := (true, "d72f1871073a936b15728a461def2058378ff68b37c2c046ecc42645564feaa6"), looks := false }, kinds := [], alts := [], laidByText := true, laidKinds := [.data], laidTests := true, laidLooks := .later }
def KeyboxRunsUptoCardSaid : Prop := Claim7.holds Tryz.pinned (.plain (OpenSpec.upto keyboxRunsSpec)) keyboxRunsUptoCard

/-- THE SECOND FORM's CARD OF 'nepenthelaw20.KeyboxCrashes'. -/
def keyboxCrashesUptoCard : Claim7 := { stood := { row := keyboxCrashesUptoRow, standIns := [], harness := (true, "d72f1871073a936b15728a461def2058378ff68b37c2c046ecc42645564feaa6"), looks := false }, kinds := [], alts := [], laidByText := true, laidKinds := [.data], laidTests := true, laidLooks := .later }
def KeyboxCrashesUptoCardSaid : Prop := Claim7.holds Tryz.pinned (.plain (OpenSpec.upto keyboxCrashesSpec)) keyboxCrashesUptoCard

/-- THE SECOND FORM's CARD OF 'nepenthelaw20.KeyboxGone'. -/
def keyboxGoneUptoCard : Claim7 := { stood := { row := keyboxGoneUptoRow, standIns := [], harness := (true, "d72f1871073a936b15728a461def2058378ff68b37c2c046ecc42645564feaa6"), looks := false }, kinds := [], alts := [], laidByText := true, laidKinds := [.data], laidTests := true, laidLooks := .later }
def KeyboxGoneUptoCardSaid : Prop := Claim7.holds Tryz.pinned (.plain (OpenSpec.upto keyboxGoneSpec)) keyboxGoneUptoCard

/-- THE SECOND FORM's CARD OF 'nepenthelaw20.KeyboxNil'. -/
def keyboxNilUptoCard : Claim7 := { stood := { row := keyboxNilUptoRow, standIns := [], harness := (true, "d72f1871073a936b15728a461def2058378ff68b37c2c046ecc42645564feaa6"), looks := false }, kinds := [], alts := [], laidByText := true, laidKinds := [.data], laidTests := true, laidLooks := .later }
def KeyboxNilUptoCardSaid : Prop := Claim7.holds Tryz.pinned (.plain (OpenSpec.upto keyboxNilSpec)) keyboxNilUptoCard
end Rows
end Go.Proofs.YtakibiigcdgohaaGreatDoor
