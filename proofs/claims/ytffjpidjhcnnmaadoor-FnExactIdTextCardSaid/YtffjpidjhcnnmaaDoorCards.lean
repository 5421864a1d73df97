/-
  DERIVED. GIVEN WITH THE SEED: THE CARDS: each row of YtffjpidjhcnnmaaDoorRows.lean that lists a variable, with what it lists TIED to the program's text (the seventh form; the later family's looks); each row that meets fmt, with fmt's text TOLD by the authors' own Lean function (tested against real Go, not proved from fmt's source: count such statements apart). THE CARD IS WHAT COUNTS. Prove the row's statement (the work); the ties are given (YtffjpidjhcnnmaaDoorTie.lean); close each card by the builder's one call (the guide's Derived/Test/ToyasCard.lean, 'card_holds'). Laid BY PROGRAM, IN A SANDBOX (cutbox-door.mjs). By AI agents, Wed Nov 11 2026. No macro, syntax, notation, axiom, sorry.
-/
import Derived.Test.YtffjpidjhcnnmaaDoorRows
import GoSem.ClaimSeven
namespace Go.Proofs.YtffjpidjhcnnmaaDoor
namespace Rows

/-- THE TIED CARD OF 'laws.FnExactKindName'. -/
def fnExactKindNameCard : Claim7 := { stood := { row := fnExactKindNameRow, standIns := [], harness := (true, "25f714920f13e7c4ffe445a5cded968f0bd1708c30490f8fe00da6ce01c7c8a8"), looks := false }, kinds := [], alts := [], laidByText := true, laidKinds := [.data], laidTests := true, laidLooks := .later }
def FnExactKindNameCardSaid : Prop := Claim7.holds Tryd.pinned (.plain (OpenSpec.ofChange fnExactKindNameSpec)) fnExactKindNameCard

/-- THE TIED CARD OF 'laws.FnExactIdText'. -/
def fnExactIdTextCard : Claim7 := { stood := { row := fnExactIdTextRow, standIns := [], harness := (true, "25f714920f13e7c4ffe445a5cded968f0bd1708c30490f8fe00da6ce01c7c8a8"), looks := false }, kinds := [], alts := [], laidByText := true, laidKinds := [.data, .data, .data], laidTests := true, laidLooks := .later }
def FnExactIdTextCardSaid : Prop := Claim7.holds Tryd.pinned (.plain (OpenSpec.ofChange fnExactIdTextSpec)) fnExactIdTextCard

/-- THE TIED CARD OF 'laws.FnExactReadId'. -/
def fnExactReadIdCard : Claim7 := { stood := { row := fnExactReadIdRow, standIns := [], harness := (true, "25f714920f13e7c4ffe445a5cded968f0bd1708c30490f8fe00da6ce01c7c8a8"), looks := false }, kinds := [], alts := [], laidByText := true, laidKinds := [.data, .data, .data], laidTests := true, laidLooks := .later }
def FnExactReadIdCardSaid : Prop := Claim7.holds Tryd.pinned (.plain (OpenSpec.ofChange fnExactReadIdSpec)) fnExactReadIdCard

/-- THE SECOND FORM's CARD OF 'laws.FnExactKindName'. -/
def fnExactKindNameUptoCard : Claim7 := { stood := { row := fnExactKindNameUptoRow, standIns := [], harness := (true, "25f714920f13e7c4ffe445a5cded968f0bd1708c30490f8fe00da6ce01c7c8a8"), looks := false }, kinds := [], alts := [], laidByText := true, laidKinds := [.data], laidTests := true, laidLooks := .later }
def FnExactKindNameUptoCardSaid : Prop := Claim7.holds Tryd.pinned (.plain (OpenSpec.upto fnExactKindNameSpec)) fnExactKindNameUptoCard

/-- THE SECOND FORM's CARD OF 'laws.FnExactIdText'. -/
def fnExactIdTextUptoCard : Claim7 := { stood := { row := fnExactIdTextUptoRow, standIns := [], harness := (true, "25f714920f13e7c4ffe445a5cded968f0bd1708c30490f8fe00da6ce01c7c8a8"), looks := false }, kinds := [], alts := [], laidByText := true, laidKinds := [.data, .data, .data], laidTests := true, laidLooks := .later }
def FnExactIdTextUptoCardSaid : Prop := Claim7.holds Tryd.pinned (.plain (OpenSpec.upto fnExactIdTextSpec)) fnExactIdTextUptoCard

/-- THE SECOND FORM's CARD OF 'laws.FnExactReadId'. -/
def fnExactReadIdUptoCard : Claim7 := { stood := { row := fnExactReadIdUptoRow, standIns := [], harness := (true, "25f714920f13e7c4ffe445a5cded968f0bd1708c30490f8fe00da6ce01c7c8a8"), looks := false }, kinds := [], alts := [], laidByText := true, laidKinds := [.data, .data, .data], laidTests := true, laidLooks := .later }
def FnExactReadIdUptoCardSaid : Prop := Claim7.holds Tryd.pinned (.plain (OpenSpec.upto fnExactReadIdSpec)) fnExactReadIdUptoCard
end Rows
end Go.Proofs.YtffjpidjhcnnmaaDoor
