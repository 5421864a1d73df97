/-
  DERIVED. GIVEN WITH THE SEED: THE CARDS: each row of YtknpolmenfdheacDoorRows.lean that lists a variable, with what it lists TIED to the program's text (the seventh form; the later family's looks); each row that meets fmt, with fmt's text TOLD by the authors' own Lean function (tested against real Go, not proved from fmt's source: count such statements apart). THE CARD IS WHAT COUNTS. Prove the row's statement (the work); the ties are given (YtknpolmenfdheacDoorTie.lean); close each card by the builder's one call (the guide's Derived/Test/ToyasCard.lean, 'card_holds'). Laid BY PROGRAM, IN A SANDBOX (cutbox-door.mjs). By AI agents, Wed Nov 11 2026. No macro, syntax, notation, axiom, sorry.
-/
import Derived.Test.YtknpolmenfdheacDoorRows
import GoSem.ClaimSeven
namespace Go.Proofs.YtknpolmenfdheacDoor
namespace Rows

/-- THE TIED CARD OF 'laws.FnExactRoll'. -/
def fnExactRollCard : Claim7 := { stood := { row := fnExactRollRow, standIns := [], harness := (true, "af8f4088a9e883b499f7d60cb88c1e73ade0e066f0beb1e4eeaf2089ce35f090"), looks := true }, kinds := [], alts := [], laidByText := true, laidKinds := [.handle], laidTests := true, laidLooks := .later }
def FnExactRollCardSaid : Prop := Claim7.holds Tryd.pinned (.plain (OpenSpec.ofChange fnExactRollSpec)) fnExactRollCard

/-- THE TIED CARD OF 'laws.FnExactCut'. -/
def fnExactCutCard : Claim7 := { stood := { row := fnExactCutRow, standIns := [], harness := (true, "af8f4088a9e883b499f7d60cb88c1e73ade0e066f0beb1e4eeaf2089ce35f090"), looks := true }, kinds := [], alts := [], laidByText := true, laidKinds := [.handle], laidTests := true, laidLooks := .later }
def FnExactCutCardSaid : Prop := Claim7.holds Tryd.pinned (.plain (OpenSpec.ofChange fnExactCutSpec)) fnExactCutCard

/-- THE SECOND FORM's CARD OF 'laws.FnExactRoll'. -/
def fnExactRollUptoCard : Claim7 := { stood := { row := fnExactRollUptoRow, standIns := [], harness := (true, "af8f4088a9e883b499f7d60cb88c1e73ade0e066f0beb1e4eeaf2089ce35f090"), looks := true }, kinds := [], alts := [], laidByText := true, laidKinds := [.handle], laidTests := true, laidLooks := .later }
def FnExactRollUptoCardSaid : Prop := Claim7.holds Tryd.pinned (.plain (OpenSpec.upto fnExactRollSpec)) fnExactRollUptoCard

/-- THE SECOND FORM's CARD OF 'laws.FnExactCut'. -/
def fnExactCutUptoCard : Claim7 := { stood := { row := fnExactCutUptoRow, standIns := [], harness := (true, "af8f4088a9e883b499f7d60cb88c1e73ade0e066f0beb1e4eeaf2089ce35f090"), looks := true }, kinds := [], alts := [], laidByText := true, laidKinds := [.handle], laidTests := true, laidLooks := .later }
def FnExactCutUptoCardSaid : Prop := Claim7.holds Tryd.pinned (.plain (OpenSpec.upto fnExactCutSpec)) fnExactCutUptoCard
end Rows
end Go.Proofs.YtknpolmenfdheacDoor
