/-
  DERIVED. GIVEN WITH THE SEED: THE CARDS: each row of YtmbfccclghnaeaaDoorRows.lean that lists a variable, with what it lists TIED to the program's text (the seventh form; the later family's looks); each row that meets fmt, with fmt's text TOLD by the authors' own Lean function (tested against real Go, not proved from fmt's source: count such statements apart). THE CARD IS WHAT COUNTS. Prove the row's statement (the work); the ties are given (YtmbfccclghnaeaaDoorTie.lean); close each card by the builder's one call (the guide's Derived/Test/ToyasCard.lean, 'card_holds'). Laid BY PROGRAM, IN A SANDBOX (cutbox-door.mjs). By AI agents, Wed Nov 11 2026. No macro, syntax, notation, axiom, sorry.
-/
import Derived.Test.YtmbfccclghnaeaaDoorRows
import GoSem.ClaimSeven
namespace Go.Proofs.YtmbfccclghnaeaaDoor
namespace Rows

/-- THE TIED CARD OF 'nepenthelaw18.RecordBytes'. -/
def recordBytesCard : Claim7 := { stood := { row := recordBytesRow, standIns := [], harness := (true, "a4656abd8124d3e13e3b3e093601a3dc6b3f2700f5ffb667586d259b4d660141"), looks := false }, kinds := [], alts := [], laidByText := true, laidKinds := [.data, .data], laidTests := true, laidLooks := .later }
def RecordBytesCardSaid : Prop := Claim7.holds Tryd.pinned (.plain (OpenSpec.ofChange recordBytesSpec)) recordBytesCard

/-- THE TIED CARD OF 'nepenthelaw18.RecordReads'. -/
def recordReadsCard : Claim7 := { stood := { row := recordReadsRow, standIns := [], harness := (true, "a4656abd8124d3e13e3b3e093601a3dc6b3f2700f5ffb667586d259b4d660141"), looks := false }, kinds := [], alts := [], laidByText := true, laidKinds := [.data, .data], laidTests := true, laidLooks := .later }
def RecordReadsCardSaid : Prop := Claim7.holds Tryd.pinned (.plain (OpenSpec.ofChange recordReadsSpec)) recordReadsCard

/-- THE TIED CARD OF 'nepenthelaw18.RecordOpens'. -/
def recordOpensCard : Claim7 := { stood := { row := recordOpensRow, standIns := [], harness := (true, "a4656abd8124d3e13e3b3e093601a3dc6b3f2700f5ffb667586d259b4d660141"), looks := false }, kinds := [], alts := [], laidByText := true, laidKinds := [.data, .data], laidTests := true, laidLooks := .later }
def RecordOpensCardSaid : Prop := Claim7.holds Tryd.pinned (.plain (OpenSpec.ofChange recordOpensSpec)) recordOpensCard

/-- THE TIED CARD OF 'nepenthelaw18.RecordFirsts'. -/
def recordFirstsCard : Claim7 := { stood := { row := recordFirstsRow, standIns := [], harness := (true, "a4656abd8124d3e13e3b3e093601a3dc6b3f2700f5ffb667586d259b4d660141"), looks := false }, kinds := [], alts := [], laidByText := true, laidKinds := [.data, .data], laidTests := true, laidLooks := .later }
def RecordFirstsCardSaid : Prop := Claim7.holds Tryd.pinned (.plain (OpenSpec.ofChange recordFirstsSpec)) recordFirstsCard

/-- THE SECOND FORM's CARD OF 'nepenthelaw18.RecordBytes'. -/
def recordBytesUptoCard : Claim7 := { stood := { row := recordBytesUptoRow, standIns := [], harness := (true, "a4656abd8124d3e13e3b3e093601a3dc6b3f2700f5ffb667586d259b4d660141"), looks := false }, kinds := [], alts := [], laidByText := true, laidKinds := [.data, .data], laidTests := true, laidLooks := .later }
def RecordBytesUptoCardSaid : Prop := Claim7.holds Tryd.pinned (.plain (OpenSpec.upto recordBytesSpec)) recordBytesUptoCard

/-- THE SECOND FORM's CARD OF 'nepenthelaw18.RecordReads'. -/
def recordReadsUptoCard : Claim7 := { stood := { row := recordReadsUptoRow, standIns := [], harness := (true, "a4656abd8124d3e13e3b3e093601a3dc6b3f2700f5ffb667586d259b4d660141"), looks := false }, kinds := [], alts := [], laidByText := true, laidKinds := [.data, .data], laidTests := true, laidLooks := .later }
def RecordReadsUptoCardSaid : Prop := Claim7.holds Tryd.pinned (.plain (OpenSpec.upto recordReadsSpec)) recordReadsUptoCard

/-- THE SECOND FORM's CARD OF 'nepenthelaw18.RecordOpens'. -/
def recordOpensUptoCard : Claim7 := { stood := { row := recordOpensUptoRow, standIns := [], harness := (true, "a4656abd8124d3e13e3b3e093601a3dc6b3f2700f5ffb667586d259b4d660141"), looks := false }, kinds := [], alts := [], laidByText := true, laidKinds := [.data, .data], laidTests := true, laidLooks := .later }
def RecordOpensUptoCardSaid : Prop := Claim7.holds Tryd.pinned (.plain (OpenSpec.upto recordOpensSpec)) recordOpensUptoCard

/-- THE SECOND FORM's CARD OF 'nepenthelaw18.RecordFirsts'. -/
def recordFirstsUptoCard : Claim7 := { stood := { row := recordFirstsUptoRow, standIns := [], harness := (true, "a4656abd8124d3e13e3b3e093601a3dc6b3f2700f5ffb667586d259b4d660141"), looks := false }, kinds := [], alts := [], laidByText := true, laidKinds := [.data, .data], laidTests := true, laidLooks := .later }
def RecordFirstsUptoCardSaid : Prop := Claim7.holds Tryd.pinned (.plain (OpenSpec.upto recordFirstsSpec)) recordFirstsUptoCard
end Rows
end Go.Proofs.YtmbfccclghnaeaaDoor
