/-
  DERIVED. GIVEN WITH THE SEED: THE CARDS: each row of YtefhpjipcdmbaaaDoorRows.lean that lists a variable, with what it lists TIED to the program's text (the seventh form; the later family's looks); each row that meets fmt, with fmt's text TOLD by the authors' own Lean function (tested against real Go, not proved from fmt's source: count such statements apart). THE CARD IS WHAT COUNTS. Prove the row's statement (the work); the ties are given (YtefhpjipcdmbaaaDoorTie.lean); close each card by the builder's one call (the guide's Derived/Test/ToyasCard.lean, 'card_holds'). Laid BY PROGRAM, IN A SANDBOX (cutbox-door.mjs). By AI agents, Wed Nov 11 2026. No macro, syntax, notation, axiom, sorry.
-/
import Derived.Test.YtefhpjipcdmbaaaDoorRows
import GoSem.ClaimSeven
namespace Go.Proofs.YtefhpjipcdmbaaaDoor
namespace Rows

/-- THE TIED CARD OF 'laws.FnExactCleanPath'. -/
def fnExactCleanPathCard : Claim7 := { stood := { row := fnExactCleanPathRow, standIns := [], harness := (true, "584bfc70d127228c265fa187432364bef63bf135c476ee02dfeb606c82ed5ca6"), looks := false }, kinds := [], alts := [], laidByText := true, laidKinds := [.data, .pinned, .pinned], laidTests := true, laidLooks := .later }
def FnExactCleanPathCardSaid : Prop := Claim7.holds Tryd.pinned (.plain (OpenSpec.ofChange fnExactCleanPathSpec)) fnExactCleanPathCard

/-- THE SECOND FORM's CARD OF 'laws.FnExactCleanPath'. -/
def fnExactCleanPathUptoCard : Claim7 := { stood := { row := fnExactCleanPathUptoRow, standIns := [], harness := (true, "584bfc70d127228c265fa187432364bef63bf135c476ee02dfeb606c82ed5ca6"), looks := false }, kinds := [], alts := [], laidByText := true, laidKinds := [.data, .pinned, .pinned], laidTests := true, laidLooks := .later }
def FnExactCleanPathUptoCardSaid : Prop := Claim7.holds Tryd.pinned (.plain (OpenSpec.upto fnExactCleanPathSpec)) fnExactCleanPathUptoCard
end Rows
end Go.Proofs.YtefhpjipcdmbaaaDoor
