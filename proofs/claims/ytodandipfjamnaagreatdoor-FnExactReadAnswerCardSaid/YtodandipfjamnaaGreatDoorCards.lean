/-
  DERIVED. GIVEN WITH THE SEED: THE CARDS: each row of YtodandipfjamnaaGreatDoorRows.lean that lists a variable, with what it lists TIED to the program's text (the seventh form; the later family's looks); each row that meets fmt, with fmt's text TOLD by the authors' own Lean function (tested against real Go, not proved from fmt's source: count such statements apart). THE CARD IS WHAT COUNTS. Prove the row's statement (the work); the ties are given (YtodandipfjamnaaGreatDoorTie.lean); close each card by the builder's one call (the guide's Derived/Test/ToyasCard.lean, 'card_holds'). Laid BY PROGRAM, IN A SANDBOX (cutbox-door.mjs). By AI agents, Wed Nov 11 2026. No macro, syntax, notation, axiom, sorry.
-/
import Derived.Test.YtodandipfjamnaaGreatDoorRows
import GoSem.ClaimSeven
namespace Go.Proofs.YtodandipfjamnaaGreatDoor
namespace Rows

/-- THE TIED CARD OF 'laws.FnExactReadRequest'. -/
def fnExactReadRequestCard : Claim7 := { stood := { row := fnExactReadRequestRow, standIns := [], harness := (true, "350b3ed96c30b205404cc47970952107588d26a76147a783ece0ea578751bc6f"), looks := true }, kinds := [], alts := [], laidByText := true, laidKinds := [.data, .data, .data, .data, .pinned], laidTests := true, laidLooks := .later }
def FnExactReadRequestCardSaid : Prop := Claim7.holds Tryz.pinned (.plain (OpenSpec.ofChange fnExactReadRequestSpec)) fnExactReadRequestCard

/-- THE TIED CARD OF 'laws.FnExactReadAnswer'. -/
def fnExactReadAnswerCard : Claim7 := { stood := { row := fnExactReadAnswerRow, standIns := [], harness := (true, "350b3ed96c30b205404cc47970952107588d26a76147a783ece0ea578751bc6f"), looks := true }, kinds := [], alts := [], laidByText := true, laidKinds := [.data, .data, .data, .data, .pinned], laidTests := true, laidLooks := .later }
def FnExactReadAnswerCardSaid : Prop := Claim7.holds Tryz.pinned (.plain (OpenSpec.ofChange fnExactReadAnswerSpec)) fnExactReadAnswerCard

/-- THE TIED CARD OF 'laws.FnExactIndexMerge'. -/
def fnExactIndexMergeCard : Claim7 := { stood := { row := fnExactIndexMergeRow, standIns := [], harness := (true, "350b3ed96c30b205404cc47970952107588d26a76147a783ece0ea578751bc6f"), looks := true }, kinds := [], alts := [], laidByText := true, laidKinds := [.data, .data, .data, .data, .pinned, .pinned], laidTests := true, laidLooks := .later }
def FnExactIndexMergeCardSaid : Prop := Claim7.holds Tryz.pinned (.plain (OpenSpec.ofChange fnExactIndexMergeSpec)) fnExactIndexMergeCard

/-- THE TIED CARD OF 'laws.FnExactIndexAdd'. -/
def fnExactIndexAddCard : Claim7 := { stood := { row := fnExactIndexAddRow, standIns := [], harness := (true, "350b3ed96c30b205404cc47970952107588d26a76147a783ece0ea578751bc6f"), looks := true }, kinds := [], alts := [], laidByText := true, laidKinds := [.data, .data, .data, .data, .pinned, .pinned], laidTests := true, laidLooks := .later }
def FnExactIndexAddCardSaid : Prop := Claim7.holds Tryz.pinned (.plain (OpenSpec.ofChange fnExactIndexAddSpec)) fnExactIndexAddCard

/-- THE SECOND FORM's CARD OF 'laws.FnExactReadRequest'. -/
def fnExactReadRequestUptoCard : Claim7 := { stood := { row := fnExactReadRequestUptoRow, standIns := [], harness := (true, "350b3ed96c30b205404cc47970952107588d26a76147a783ece0ea578751bc6f"), looks := true }, kinds := [], alts := [], laidByText := true, laidKinds := [.data, .data, .data, .data, .pinned], laidTests := true, laidLooks := .later }
def FnExactReadRequestUptoCardSaid : Prop := Claim7.holds Tryz.pinned (.plain (OpenSpec.upto fnExactReadRequestSpec)) fnExactReadRequestUptoCard

/-- THE SECOND FORM's CARD OF 'laws.FnExactReadAnswer'. -/
def fnExactReadAnswerUptoCard : Claim7 := { stood := { row := fnExactReadAnswerUptoRow, standIns := [], harness := (true, "350b3ed96c30b205404cc47970952107588d26a76147a783ece0ea578751bc6f"), looks := true }, kinds := [], alts := [], laidByText := true, laidKinds := [.data, .data, .data, .data, .pinned], laidTests := true, laidLooks := .later }
def FnExactReadAnswerUptoCardSaid : Prop := Claim7.holds Tryz.pinned (.plain (OpenSpec.upto fnExactReadAnswerSpec)) fnExactReadAnswerUptoCard

/-- THE SECOND FORM's CARD OF 'laws.FnExactIndexMerge'. -/
def fnExactIndexMergeUptoCard : Claim7 := { stood := { row := fnExactIndexMergeUptoRow, standIns := [], harness := (true, "350b3ed96c30b205404cc47970952107588d26a76147a783ece0ea578751bc6f"), looks := true }, kinds := [], alts := [], laidByText := true, laidKinds := [.data, .data, .data, .data, .pinned, .pinned], laidTests := true, laidLooks := .later }
def FnExactIndexMergeUptoCardSaid : Prop := Claim7.holds Tryz.pinned (.plain (OpenSpec.upto fnExactIndexMergeSpec)) fnExactIndexMergeUptoCard

/-- THE SECOND FORM's CARD OF 'laws.FnExactIndexAdd'. -/
def fnExactIndexAddUptoCard : Claim7 := { stood := { row := fnExactIndexAddUptoRow, standIns := [], harness := (true, "350b3ed96c30b205404cc47970952107588d26a76147a783ece0ea578751bc6f"), looks := true }, kinds := [], alts := [], laidByText := true, laidKinds := [.data, .data, .data, .data, .pinned, .pinned], laidTests := true, laidLooks := .later }
def FnExactIndexAddUptoCardSaid : Prop := Claim7.holds Tryz.pinned (.plain (OpenSpec.upto fnExactIndexAddSpec)) fnExactIndexAddUptoCard
end Rows
end Go.Proofs.YtodandipfjamnaaGreatDoor
