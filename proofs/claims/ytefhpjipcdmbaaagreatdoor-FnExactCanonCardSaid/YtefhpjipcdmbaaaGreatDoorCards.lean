/-
  DERIVED. GIVEN WITH THE SEED: THE CARDS: each row of YtefhpjipcdmbaaaGreatDoorRows.lean that lists a variable, with what it lists TIED to the program's text (the seventh form; the later family's looks); each row that meets fmt, with fmt's text TOLD by the authors' own Lean function (tested against real Go, not proved from fmt's source: count such statements apart). THE CARD IS WHAT COUNTS. Prove the row's statement (the work); the ties are given (YtefhpjipcdmbaaaGreatDoorTie.lean); close each card by the builder's one call (the guide's Derived/Test/ToyasCard.lean, 'card_holds'). Laid BY PROGRAM, IN A SANDBOX (cutbox-door.mjs). By AI agents, Wed Nov 11 2026. No macro, syntax, notation, axiom, sorry.
-/
import Derived.Test.YtefhpjipcdmbaaaGreatDoorRows
import GoSem.ClaimSeven
namespace Go.Proofs.YtefhpjipcdmbaaaGreatDoor
namespace Rows

/-- THE TIED CARD OF 'laws.FnExactHostField'. -/
def fnExactHostFieldCard : Claim7 := { stood := { row := fnExactHostFieldRow, standIns := [], harness := (true, "b1f6853cc6ef5d084a9187ac10d1c8731d3c11c3883fd327e9b8c9d2c15d80e3"), looks := false }, kinds := [], alts := [], laidByText := true, laidKinds := [.data, .data, .data, .data, .pinned, .pinned], laidTests := true, laidLooks := .later }
def FnExactHostFieldCardSaid : Prop := Claim7.holds Tryz.pinned (.plain (OpenSpec.ofChange fnExactHostFieldSpec)) fnExactHostFieldCard

/-- THE TIED CARD OF 'laws.FnExactUrlText'. -/
def fnExactUrlTextCard : Claim7 := { stood := { row := fnExactUrlTextRow, standIns := [], harness := (true, "b1f6853cc6ef5d084a9187ac10d1c8731d3c11c3883fd327e9b8c9d2c15d80e3"), looks := false }, kinds := [], alts := [], laidByText := true, laidKinds := [.data, .data, .data, .data, .pinned, .pinned], laidTests := true, laidLooks := .later }
def FnExactUrlTextCardSaid : Prop := Claim7.holds Tryz.pinned (.plain (OpenSpec.ofChange fnExactUrlTextSpec)) fnExactUrlTextCard

/-- THE TIED CARD OF 'laws.FnExactUrlOk'. -/
def fnExactUrlOkCard : Claim7 := { stood := { row := fnExactUrlOkRow, standIns := [], harness := (true, "b1f6853cc6ef5d084a9187ac10d1c8731d3c11c3883fd327e9b8c9d2c15d80e3"), looks := false }, kinds := [], alts := [], laidByText := true, laidKinds := [.data, .data, .data, .data, .pinned, .pinned], laidTests := true, laidLooks := .later }
def FnExactUrlOkCardSaid : Prop := Claim7.holds Tryz.pinned (.plain (OpenSpec.ofChange fnExactUrlOkSpec)) fnExactUrlOkCard

/-- THE TIED CARD OF 'laws.FnExactSurt'. -/
def fnExactSurtCard : Claim7 := { stood := { row := fnExactSurtRow, standIns := [], harness := (true, "b1f6853cc6ef5d084a9187ac10d1c8731d3c11c3883fd327e9b8c9d2c15d80e3"), looks := false }, kinds := [], alts := [], laidByText := true, laidKinds := [.data, .data, .data, .data, .pinned, .pinned], laidTests := true, laidLooks := .later }
def FnExactSurtCardSaid : Prop := Claim7.holds Tryz.pinned (.plain (OpenSpec.ofChange fnExactSurtSpec)) fnExactSurtCard

/-- THE TIED CARD OF 'laws.FnExactCanon'. -/
def fnExactCanonCard : Claim7 := { stood := { row := fnExactCanonRow, standIns := [], harness := (true, "b1f6853cc6ef5d084a9187ac10d1c8731d3c11c3883fd327e9b8c9d2c15d80e3"), looks := false }, kinds := [], alts := [], laidByText := true, laidKinds := [.data, .data, .data, .data, .pinned, .pinned], laidTests := true, laidLooks := .later }
def FnExactCanonCardSaid : Prop := Claim7.holds Tryz.pinned (.plain (OpenSpec.ofChange fnExactCanonSpec)) fnExactCanonCard

/-- THE SECOND FORM's CARD OF 'laws.FnExactHostField'. -/
def fnExactHostFieldUptoCard : Claim7 := { stood := { row := fnExactHostFieldUptoRow, standIns := [], harness := (true, "b1f6853cc6ef5d084a9187ac10d1c8731d3c11c3883fd327e9b8c9d2c15d80e3"), looks := false }, kinds := [], alts := [], laidByText := true, laidKinds := [.data, .data, .data, .data, .pinned, .pinned], laidTests := true, laidLooks := .later }
def FnExactHostFieldUptoCardSaid : Prop := Claim7.holds Tryz.pinned (.plain (OpenSpec.upto fnExactHostFieldSpec)) fnExactHostFieldUptoCard

/-- THE SECOND FORM's CARD OF 'laws.FnExactUrlText'. -/
def fnExactUrlTextUptoCard : Claim7 := { stood := { row := fnExactUrlTextUptoRow, standIns := [], harness := (true, "b1f6853cc6ef5d084a9187ac10d1c8731d3c11c3883fd327e9b8c9d2c15d80e3"), looks := false }, kinds := [], alts := [], laidByText := true, laidKinds := [.data, .data, .data, .data, .pinned, .pinned], laidTests := true, laidLooks := .later }
def FnExactUrlTextUptoCardSaid : Prop := Claim7.holds Tryz.pinned (.plain (OpenSpec.upto fnExactUrlTextSpec)) fnExactUrlTextUptoCard

/-- THE SECOND FORM's CARD OF 'laws.FnExactUrlOk'. -/
def fnExactUrlOkUptoCard : Claim7 := { stood := { row := fnExactUrlOkUptoRow, standIns := [], harness := (true, "b1f6853cc6ef5d084a9187ac10d1c8731d3c11c3883fd327e9b8c9d2c15d80e3"), looks := false }, kinds := [], alts := [], laidByText := true, laidKinds := [.data, .data, .data, .data, .pinned, .pinned], laidTests := true, laidLooks := .later }
def FnExactUrlOkUptoCardSaid : Prop := Claim7.holds Tryz.pinned (.plain (OpenSpec.upto fnExactUrlOkSpec)) fnExactUrlOkUptoCard

/-- THE SECOND FORM's CARD OF 'laws.FnExactSurt'. -/
def fnExactSurtUptoCard : Claim7 := { stood := { row := fnExactSurtUptoRow, standIns := [], harness := (true, "b1f6853cc6ef5d084a9187ac10d1c8731d3c11c3883fd327e9b8c9d2c15d80e3"), looks := false }, kinds := [], alts := [], laidByText := true, laidKinds := [.data, .data, .data, .data, .pinned, .pinned], laidTests := true, laidLooks := .later }
def FnExactSurtUptoCardSaid : Prop := Claim7.holds Tryz.pinned (.plain (OpenSpec.upto fnExactSurtSpec)) fnExactSurtUptoCard

/-- THE SECOND FORM's CARD OF 'laws.FnExactCanon'. -/
def fnExactCanonUptoCard : Claim7 := { stood := { row := fnExactCanonUptoRow, standIns := [], harness := (true, "b1f6853cc6ef5d084a9187ac10d1c8731d3c11c3883fd327e9b8c9d2c15d80e3"), looks := false }, kinds := [], alts := [], laidByText := true, laidKinds := [.data, .data, .data, .data, .pinned, .pinned], laidTests := true, laidLooks := .later }
def FnExactCanonUptoCardSaid : Prop := Claim7.holds Tryz.pinned (.plain (OpenSpec.upto fnExactCanonSpec)) fnExactCanonUptoCard
end Rows
end Go.Proofs.YtefhpjipcdmbaaaGreatDoor
