/-
  DERIVED. GIVEN WITH THE SEED: THE CARDS: each row of YtffjpidjhcnnmabDoorRows.lean that lists a variable, with what it lists TIED to the program's text (the seventh form; the later family's looks); each row that meets fmt, with fmt's text TOLD by the authors' own Lean function (tested against real Go, not proved from fmt's source: count such statements apart). THE CARD IS WHAT COUNTS. Prove the row's statement (the work); the ties are given (YtffjpidjhcnnmabDoorTie.lean); close each card by the builder's one call (the guide's Derived/Test/ToyasCard.lean, 'card_holds'). Laid BY PROGRAM, IN A SANDBOX (cutbox-door.mjs). By AI agents, Wed Nov 11 2026. No macro, syntax, notation, axiom, sorry.
-/
import Derived.Test.YtffjpidjhcnnmabDoorRows
import GoSem.ClaimSeven
namespace Go.Proofs.YtffjpidjhcnnmabDoor
namespace Rows

/-- THE TIED CARD OF 'laws.FnExactGrammar'. -/
def fnExactGrammarCard : Claim7 := { stood := { row := fnExactGrammarRow, standIns := [], harness := (true, "a1e6e8df8b659ee2610fb8403af23259f62ac2665e6e8f2e318e9df4f0c98595"), looks := false }, kinds := [], alts := [], laidByText := true, laidKinds := [.data], laidTests := true, laidLooks := .later }
def FnExactGrammarCardSaid : Prop := Claim7.holds Tryd.pinned (.plain (OpenSpec.ofChange fnExactGrammarSpec)) fnExactGrammarCard

/-- THE SECOND FORM's CARD OF 'laws.FnExactGrammar'. -/
def fnExactGrammarUptoCard : Claim7 := { stood := { row := fnExactGrammarUptoRow, standIns := [], harness := (true, "a1e6e8df8b659ee2610fb8403af23259f62ac2665e6e8f2e318e9df4f0c98595"), looks := false }, kinds := [], alts := [], laidByText := true, laidKinds := [.data], laidTests := true, laidLooks := .later }
def FnExactGrammarUptoCardSaid : Prop := Claim7.holds Tryd.pinned (.plain (OpenSpec.upto fnExactGrammarSpec)) fnExactGrammarUptoCard
end Rows
end Go.Proofs.YtffjpidjhcnnmabDoor
