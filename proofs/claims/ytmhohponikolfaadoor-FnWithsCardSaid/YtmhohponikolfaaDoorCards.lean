/-
  DERIVED. GIVEN WITH THE SEED: THE CARDS: each row of YtmhohponikolfaaDoorRows.lean that lists a variable, with what it lists TIED to the program's text (the seventh form; the later family's looks); each row that meets fmt, with fmt's text TOLD by the authors' own Lean function (tested against real Go, not proved from fmt's source: count such statements apart). THE CARD IS WHAT COUNTS. Prove the row's statement (the work); the ties are given (YtmhohponikolfaaDoorTie.lean); close each card by the builder's one call (the guide's Derived/Test/ToyasCard.lean, 'card_holds'). Laid BY PROGRAM, IN A SANDBOX (cutbox-door.mjs). By AI agents, Wed Nov 11 2026. No macro, syntax, notation, axiom, sorry.
-/
import Derived.Test.YtmhohponikolfaaDoorRows
import GoSem.ClaimSeven
namespace Go.Proofs.YtmhohponikolfaaDoor
namespace Rows

/-- THE TIED CARD OF 'laws.FnWiths'. -/
def fnWithsCard : Claim7 := { stood := { row := fnWithsRow, standIns := [], harness := (true, "df31c99177e368c78b3fd46c32044464966b7afc3d2aac73cc282ba508932204"), looks := false }, kinds := [], alts := [], laidByText := true, laidKinds := [.data], laidTests := true, laidLooks := .later }
def FnWithsCardSaid : Prop := Claim7.holds Tryd.pinned (.plain (OpenSpec.ofChange fnWithsSpec)) fnWithsCard

/-- THE SECOND FORM's CARD OF 'laws.FnWiths'. -/
def fnWithsUptoCard : Claim7 := { stood := { row := fnWithsUptoRow, standIns := [], harness := (true, "df31c99177e368c78b3fd46c32044464966b7afc3d2aac73cc282ba508932204"), looks := false }, kinds := [], alts := [], laidByText := true, laidKinds := [.data], laidTests := true, laidLooks := .later }
def FnWithsUptoCardSaid : Prop := Claim7.holds Tryd.pinned (.plain (OpenSpec.upto fnWithsSpec)) fnWithsUptoCard
end Rows
end Go.Proofs.YtmhohponikolfaaDoor
