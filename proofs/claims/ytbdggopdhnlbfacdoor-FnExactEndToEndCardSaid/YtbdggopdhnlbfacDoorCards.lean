/-
  DERIVED. GIVEN WITH THE SEED: THE CARDS: each row of YtbdggopdhnlbfacDoorRows.lean that lists a variable, with what it lists TIED to the program's text (the seventh form; the later family's looks); each row that meets fmt, with fmt's text TOLD by the authors' own Lean function (tested against real Go, not proved from fmt's source: count such statements apart). THE CARD IS WHAT COUNTS. Prove the row's statement (the work); the ties are given (YtbdggopdhnlbfacDoorTie.lean); close each card by the builder's one call (the guide's Derived/Test/ToyasCard.lean, 'card_holds'). Laid BY PROGRAM, IN A SANDBOX (cutbox-door.mjs). By AI agents, Wed Nov 11 2026. No macro, syntax, notation, axiom, sorry.
-/
import Derived.Test.YtbdggopdhnlbfacDoorRows
import GoSem.ClaimSeven
namespace Go.Proofs.YtbdggopdhnlbfacDoor
namespace Rows

/-- THE TIED CARD OF 'laws.FnExactHopNames'. -/
def fnExactHopNamesCard : Claim7 := { stood := { row := fnExactHopNamesRow, standIns := [], harness := (true, "f975e1a4b5ff556a72d534b2784364ebb7e6bce2f2408d1a1b90de7fcd6e3656"), looks := false }, kinds := [], alts := [], laidByText := true, laidKinds := [.data], laidTests := true, laidLooks := .later }
def FnExactHopNamesCardSaid : Prop := Claim7.holds Tryd.pinned (.plain (OpenSpec.ofChange fnExactHopNamesSpec)) fnExactHopNamesCard

/-- THE TIED CARD OF 'laws.FnExactEndToEnd'. -/
def fnExactEndToEndCard : Claim7 := { stood := { row := fnExactEndToEndRow, standIns := [], harness := (true, "f975e1a4b5ff556a72d534b2784364ebb7e6bce2f2408d1a1b90de7fcd6e3656"), looks := false }, kinds := [], alts := [], laidByText := true, laidKinds := [.data], laidTests := true, laidLooks := .later }
def FnExactEndToEndCardSaid : Prop := Claim7.holds Tryd.pinned (.plain (OpenSpec.ofChange fnExactEndToEndSpec)) fnExactEndToEndCard

/-- THE SECOND FORM's CARD OF 'laws.FnExactHopNames'. -/
def fnExactHopNamesUptoCard : Claim7 := { stood := { row := fnExactHopNamesUptoRow, standIns := [], harness := (true, "f975e1a4b5ff556a72d534b2784364ebb7e6bce2f2408d1a1b90de7fcd6e3656"), looks := false }, kinds := [], alts := [], laidByText := true, laidKinds := [.data], laidTests := true, laidLooks := .later }
def FnExactHopNamesUptoCardSaid : Prop := Claim7.holds Tryd.pinned (.plain (OpenSpec.upto fnExactHopNamesSpec)) fnExactHopNamesUptoCard

/-- THE SECOND FORM's CARD OF 'laws.FnExactEndToEnd'. -/
def fnExactEndToEndUptoCard : Claim7 := { stood := { row := fnExactEndToEndUptoRow, standIns := [], harness := (true, "f975e1a4b5ff556a72d534b2784364ebb7e6bce2f2408d1a1b90de7fcd6e3656"), looks := false }, kinds := [], alts := [], laidByText := true, laidKinds := [.data], laidTests := true, laidLooks := .later }
def FnExactEndToEndUptoCardSaid : Prop := Claim7.holds Tryd.pinned (.plain (OpenSpec.upto fnExactEndToEndSpec)) fnExactEndToEndUptoCard
end Rows
end Go.Proofs.YtbdggopdhnlbfacDoor
