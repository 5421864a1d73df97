/-
  DERIVED. GIVEN WITH THE SEED: THE CARDS: each row of YtbdggopdhnlbfaaGreatDoorRows.lean that lists a variable, with what it lists TIED to the program's text (the seventh form; the later family's looks); each row that meets fmt, with fmt's text TOLD by the authors' own Lean function (tested against real Go, not proved from fmt's source: count such statements apart). THE CARD IS WHAT COUNTS. Prove the row's statement (the work); the ties are given (YtbdggopdhnlbfaaGreatDoorTie.lean); close each card by the builder's one call (the guide's Derived/Test/ToyasCard.lean, 'card_holds'). Laid BY PROGRAM, IN A SANDBOX (cutbox-door.mjs). By AI agents, Wed Nov 11 2026. No macro, syntax, notation, axiom, sorry.
-/
import Derived.Test.YtbdggopdhnlbfaaGreatDoorRows
import GoSem.ClaimSeven
namespace Go.Proofs.YtbdggopdhnlbfaaGreatDoor
namespace Rows

/-- THE TIED CARD OF 'laws.FnHops'. -/
def fnHopsCard : Claim7 := { stood := { row := fnHopsRow, standIns := [], harness := (true, "107f89f57c3c1306a52dcb5371c65bfe1701ad338e18d4a1ff142e3cae221d4f"), looks := false }, kinds := [], alts := [], laidByText := true, laidKinds := [.data], laidTests := true, laidLooks := .later }
def FnHopsCardSaid : Prop := Claim7.holds Tryz.pinned (.plain (OpenSpec.ofChange fnHopsSpec)) fnHopsCard

/-- THE SECOND FORM's CARD OF 'laws.FnHops'. -/
def fnHopsUptoCard : Claim7 := { stood := { row := fnHopsUptoRow, standIns := [], harness := (true, "107f89f57c3c1306a52dcb5371c65bfe1701ad338e18d4a1ff142e3cae221d4f"), looks := false }, kinds := [], alts := [], laidByText := true, laidKinds := [.data], laidTests := true, laidLooks := .later }
def FnHopsUptoCardSaid : Prop := Claim7.holds Tryz.pinned (.plain (OpenSpec.upto fnHopsSpec)) fnHopsUptoCard
end Rows
end Go.Proofs.YtbdggopdhnlbfaaGreatDoor
