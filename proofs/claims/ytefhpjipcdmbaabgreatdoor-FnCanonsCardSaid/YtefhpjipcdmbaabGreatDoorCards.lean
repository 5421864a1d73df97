/-
  DERIVED. GIVEN WITH THE SEED: THE CARDS: each row of YtefhpjipcdmbaabGreatDoorRows.lean that lists a variable, with what it lists TIED to the program's text (the seventh form; the later family's looks); each row that meets fmt, with fmt's text TOLD by the authors' own Lean function (tested against real Go, not proved from fmt's source: count such statements apart). THE CARD IS WHAT COUNTS. Prove the row's statement (the work); the ties are given (YtefhpjipcdmbaabGreatDoorTie.lean); close each card by the builder's one call (the guide's Derived/Test/ToyasCard.lean, 'card_holds'). Laid BY PROGRAM, IN A SANDBOX (cutbox-door.mjs). By AI agents, Wed Nov 11 2026. No macro, syntax, notation, axiom, sorry.
-/
import Derived.Test.YtefhpjipcdmbaabGreatDoorRows
import GoSem.ClaimSeven
namespace Go.Proofs.YtefhpjipcdmbaabGreatDoor
namespace Rows

/-- THE TIED CARD OF 'laws.FnExactReadUrl'. -/
def fnExactReadUrlCard : Claim7 := { stood := { row := fnExactReadUrlRow, standIns := [], harness := (true, "a13370d88edc34441670da97dc203f3377e8d2ec94b53c390eb99cd169e73f8c"), looks := false }, kinds := [], alts := [], laidByText := true, laidKinds := [.data, .data, .data, .data, .pinned, .pinned], laidTests := true, laidLooks := .later }
def FnExactReadUrlCardSaid : Prop := Claim7.holds Tryz.pinned (.plain (OpenSpec.ofChange fnExactReadUrlSpec)) fnExactReadUrlCard

/-- THE TIED CARD OF 'laws.FnExactUnsurt'. -/
def fnExactUnsurtCard : Claim7 := { stood := { row := fnExactUnsurtRow, standIns := [], harness := (true, "a13370d88edc34441670da97dc203f3377e8d2ec94b53c390eb99cd169e73f8c"), looks := false }, kinds := [], alts := [], laidByText := true, laidKinds := [.data, .data, .data, .data, .pinned, .pinned], laidTests := true, laidLooks := .later }
def FnExactUnsurtCardSaid : Prop := Claim7.holds Tryz.pinned (.plain (OpenSpec.ofChange fnExactUnsurtSpec)) fnExactUnsurtCard

/-- THE TIED CARD OF 'laws.FnCleans'. -/
def fnCleansCard : Claim7 := { stood := { row := fnCleansRow, standIns := [], harness := (true, "a13370d88edc34441670da97dc203f3377e8d2ec94b53c390eb99cd169e73f8c"), looks := false }, kinds := [], alts := [], laidByText := true, laidKinds := [.data, .data, .data, .data, .pinned, .pinned], laidTests := true, laidLooks := .later }
def FnCleansCardSaid : Prop := Claim7.holds Tryz.pinned (.plain (OpenSpec.ofChange fnCleansSpec)) fnCleansCard

/-- THE TIED CARD OF 'laws.FnCanons'. -/
def fnCanonsCard : Claim7 := { stood := { row := fnCanonsRow, standIns := [], harness := (true, "a13370d88edc34441670da97dc203f3377e8d2ec94b53c390eb99cd169e73f8c"), looks := false }, kinds := [], alts := [], laidByText := true, laidKinds := [.data, .data, .data, .data, .pinned, .pinned], laidTests := true, laidLooks := .later }
def FnCanonsCardSaid : Prop := Claim7.holds Tryz.pinned (.plain (OpenSpec.ofChange fnCanonsSpec)) fnCanonsCard

/-- THE TIED CARD OF 'laws.FnUrls'. -/
def fnUrlsCard : Claim7 := { stood := { row := fnUrlsRow, standIns := [], harness := (true, "a13370d88edc34441670da97dc203f3377e8d2ec94b53c390eb99cd169e73f8c"), looks := false }, kinds := [], alts := [], laidByText := true, laidKinds := [.data, .data, .data, .data, .pinned, .pinned], laidTests := true, laidLooks := .later }
def FnUrlsCardSaid : Prop := Claim7.holds Tryz.pinned (.plain (OpenSpec.ofChange fnUrlsSpec)) fnUrlsCard

/-- THE SECOND FORM's CARD OF 'laws.FnExactReadUrl'. -/
def fnExactReadUrlUptoCard : Claim7 := { stood := { row := fnExactReadUrlUptoRow, standIns := [], harness := (true, "a13370d88edc34441670da97dc203f3377e8d2ec94b53c390eb99cd169e73f8c"), looks := false }, kinds := [], alts := [], laidByText := true, laidKinds := [.data, .data, .data, .data, .pinned, .pinned], laidTests := true, laidLooks := .later }
def FnExactReadUrlUptoCardSaid : Prop := Claim7.holds Tryz.pinned (.plain (OpenSpec.upto fnExactReadUrlSpec)) fnExactReadUrlUptoCard

/-- THE SECOND FORM's CARD OF 'laws.FnExactUnsurt'. -/
def fnExactUnsurtUptoCard : Claim7 := { stood := { row := fnExactUnsurtUptoRow, standIns := [], harness := (true, "a13370d88edc34441670da97dc203f3377e8d2ec94b53c390eb99cd169e73f8c"), looks := false }, kinds := [], alts := [], laidByText := true, laidKinds := [.data, .data, .data, .data, .pinned, .pinned], laidTests := true, laidLooks := .later }
def FnExactUnsurtUptoCardSaid : Prop := Claim7.holds Tryz.pinned (.plain (OpenSpec.upto fnExactUnsurtSpec)) fnExactUnsurtUptoCard

/-- THE SECOND FORM's CARD OF 'laws.FnCleans'. -/
def fnCleansUptoCard : Claim7 := { stood := { row := fnCleansUptoRow, standIns := [], harness := (true, "a13370d88edc34441670da97dc203f3377e8d2ec94b53c390eb99cd169e73f8c"), looks := false }, kinds := [], alts := [], laidByText := true, laidKinds := [.data, .data, .data, .data, .pinned, .pinned], laidTests := true, laidLooks := .later }
def FnCleansUptoCardSaid : Prop := Claim7.holds Tryz.pinned (.plain (OpenSpec.upto fnCleansSpec)) fnCleansUptoCard

/-- THE SECOND FORM's CARD OF 'laws.FnCanons'. -/
def fnCanonsUptoCard : Claim7 := { stood := { row := fnCanonsUptoRow, standIns := [], harness := (true, "a13370d88edc34441670da97dc203f3377e8d2ec94b53c390eb99cd169e73f8c"), looks := false }, kinds := [], alts := [], laidByText := true, laidKinds := [.data, .data, .data, .data, .pinned, .pinned], laidTests := true, laidLooks := .later }
def FnCanonsUptoCardSaid : Prop := Claim7.holds Tryz.pinned (.plain (OpenSpec.upto fnCanonsSpec)) fnCanonsUptoCard

/-- THE SECOND FORM's CARD OF 'laws.FnUrls'. -/
def fnUrlsUptoCard : Claim7 := { stood := { row := fnUrlsUptoRow, standIns := [], harness := (true, "a13370d88edc34441670da97dc203f3377e8d2ec94b53c390eb99cd169e73f8c"), looks := false }, kinds := [], alts := [], laidByText := true, laidKinds := [.data, .data, .data, .data, .pinned, .pinned], laidTests := true, laidLooks := .later }
def FnUrlsUptoCardSaid : Prop := Claim7.holds Tryz.pinned (.plain (OpenSpec.upto fnUrlsSpec)) fnUrlsUptoCard
end Rows
end Go.Proofs.YtefhpjipcdmbaabGreatDoor
