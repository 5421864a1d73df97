/-
  DERIVED. GIVEN WITH THE SEED: THE CARDS: each row of YtmhohponikolfabGreatDoorRows.lean that lists a variable, with what it lists TIED to the program's text (the seventh form; the later family's looks); each row that meets fmt, with fmt's text TOLD by the authors' own Lean function (tested against real Go, not proved from fmt's source: count such statements apart). THE CARD IS WHAT COUNTS. Prove the row's statement (the work); the ties are given (YtmhohponikolfabGreatDoorTie.lean); close each card by the builder's one call (the guide's Derived/Test/ToyasCard.lean, 'card_holds'). Laid BY PROGRAM, IN A SANDBOX (cutbox-door.mjs). By AI agents, Wed Nov 11 2026. No macro, syntax, notation, axiom, sorry.
-/
import Derived.Test.YtmhohponikolfabGreatDoorRows
import GoSem.ClaimSeven
namespace Go.Proofs.YtmhohponikolfabGreatDoor
namespace Rows

/-- THE TIED CARD OF 'laws.FnExactUnsurt'. -/
def fnExactUnsurtCard : Claim7 := { stood := { row := fnExactUnsurtRow, standIns := [], harness := (true, "248a0477c45227d42a60453247c0c4509aba140d58be7ad2c8d3fc356d03fc62"), looks := false }, kinds := [], alts := [], laidByText := true, laidKinds := [.data, .data, .data, .data, .pinned, .pinned], laidTests := true, laidLooks := .later }
def FnExactUnsurtCardSaid : Prop := Claim7.holds Tryz.pinned (.plain (OpenSpec.ofChange fnExactUnsurtSpec)) fnExactUnsurtCard

/-- THE SECOND FORM's CARD OF 'laws.FnExactUnsurt'. -/
def fnExactUnsurtUptoCard : Claim7 := { stood := { row := fnExactUnsurtUptoRow, standIns := [], harness := (true, "248a0477c45227d42a60453247c0c4509aba140d58be7ad2c8d3fc356d03fc62"), looks := false }, kinds := [], alts := [], laidByText := true, laidKinds := [.data, .data, .data, .data, .pinned, .pinned], laidTests := true, laidLooks := .later }
def FnExactUnsurtUptoCardSaid : Prop := Claim7.holds Tryz.pinned (.plain (OpenSpec.upto fnExactUnsurtSpec)) fnExactUnsurtUptoCard
end Rows
end Go.Proofs.YtmhohponikolfabGreatDoor
