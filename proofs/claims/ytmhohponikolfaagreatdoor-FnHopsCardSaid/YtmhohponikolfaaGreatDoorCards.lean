/-
  DERIVED. GIVEN WITH THE SEED: THE CARDS: each row of YtmhohponikolfaaGreatDoorRows.lean that lists a variable, with what it lists TIED to the program's text (the seventh form; the later family's looks); each row that meets fmt, with fmt's text TOLD by the authors' own Lean function (tested against real Go, not proved from fmt's source: count such statements apart). THE CARD IS WHAT COUNTS. Prove the row's statement (the work); the ties are given (YtmhohponikolfaaGreatDoorTie.lean); close each card by the builder's one call (the guide's Derived/Test/ToyasCard.lean, 'card_holds'). Laid BY PROGRAM, IN A SANDBOX (cutbox-door.mjs). By AI agents, Wed Nov 11 2026. No macro, syntax, notation, axiom, sorry.
-/
import Derived.Test.YtmhohponikolfaaGreatDoorRows
import GoSem.ClaimSeven
namespace Go.Proofs.YtmhohponikolfaaGreatDoor
namespace Rows

/-- THE TIED CARD OF 'laws.FnHops'. -/
def fnHopsCard : Claim7 := { stood := { row := fnHopsRow, standIns := [], harness := (true, "7ffb68e5162f9d295a049a5d346cb18a3bf8ac4188488a03a7258529e0095d6c"), looks := false }, kinds := [], alts := [], laidByText := true, laidKinds := [.data], laidTests := true, laidLooks := .later }
def FnHopsCardSaid : Prop := Claim7.holds Tryz.pinned (.plain (OpenSpec.ofChange fnHopsSpec)) fnHopsCard

/-- THE TIED CARD OF 'laws.FnCanons'. -/
def fnCanonsCard : Claim7 := { stood := { row := fnCanonsRow, standIns := [], harness := (true, "7ffb68e5162f9d295a049a5d346cb18a3bf8ac4188488a03a7258529e0095d6c"), looks := false }, kinds := [], alts := [], laidByText := true, laidKinds := [.data, .data, .data, .data, .pinned, .pinned], laidTests := true, laidLooks := .later }
def FnCanonsCardSaid : Prop := Claim7.holds Tryz.pinned (.plain (OpenSpec.ofChange fnCanonsSpec)) fnCanonsCard

/-- THE TIED CARD OF 'laws.FnCleans'. -/
def fnCleansCard : Claim7 := { stood := { row := fnCleansRow, standIns := [], harness := (true, "7ffb68e5162f9d295a049a5d346cb18a3bf8ac4188488a03a7258529e0095d6c"), looks := false }, kinds := [], alts := [], laidByText := true, laidKinds := [.data, .data, .data, .data, .pinned, .pinned], laidTests := true, laidLooks := .later }
def FnCleansCardSaid : Prop := Claim7.holds Tryz.pinned (.plain (OpenSpec.ofChange fnCleansSpec)) fnCleansCard

/-- THE TIED CARD OF 'laws.FnExactReadUrl'. -/
def fnExactReadUrlCard : Claim7 := { stood := { row := fnExactReadUrlRow, standIns := [], harness := (true, "7ffb68e5162f9d295a049a5d346cb18a3bf8ac4188488a03a7258529e0095d6c"), looks := false }, kinds := [], alts := [], laidByText := true, laidKinds := [.data, .data, .data, .data, .pinned, .pinned], laidTests := true, laidLooks := .later }
def FnExactReadUrlCardSaid : Prop := Claim7.holds Tryz.pinned (.plain (OpenSpec.ofChange fnExactReadUrlSpec)) fnExactReadUrlCard

/-- THE TIED CARD OF 'laws.FnExactCanon'. -/
def fnExactCanonCard : Claim7 := { stood := { row := fnExactCanonRow, standIns := [], harness := (true, "7ffb68e5162f9d295a049a5d346cb18a3bf8ac4188488a03a7258529e0095d6c"), looks := false }, kinds := [], alts := [], laidByText := true, laidKinds := [.data, .data, .data, .data, .pinned, .pinned], laidTests := true, laidLooks := .later }
def FnExactCanonCardSaid : Prop := Claim7.holds Tryz.pinned (.plain (OpenSpec.ofChange fnExactCanonSpec)) fnExactCanonCard

/-- THE SECOND FORM's CARD OF 'laws.FnHops'. -/
def fnHopsUptoCard : Claim7 := { stood := { row := fnHopsUptoRow, standIns := [], harness := (true, "7ffb68e5162f9d295a049a5d346cb18a3bf8ac4188488a03a7258529e0095d6c"), looks := false }, kinds := [], alts := [], laidByText := true, laidKinds := [.data], laidTests := true, laidLooks := .later }
def FnHopsUptoCardSaid : Prop := Claim7.holds Tryz.pinned (.plain (OpenSpec.upto fnHopsSpec)) fnHopsUptoCard

/-- THE SECOND FORM's CARD OF 'laws.FnCanons'. -/
def fnCanonsUptoCard : Claim7 := { stood := { row := fnCanonsUptoRow, standIns := [], harness := (true, "7ffb68e5162f9d295a049a5d346cb18a3bf8ac4188488a03a7258529e0095d6c"), looks := false }, kinds := [], alts := [], laidByText := true, laidKinds := [.data, .data, .data, .data, .pinned, .pinned], laidTests := true, laidLooks := .later }
def FnCanonsUptoCardSaid : Prop := Claim7.holds Tryz.pinned (.plain (OpenSpec.upto fnCanonsSpec)) fnCanonsUptoCard

/-- THE SECOND FORM's CARD OF 'laws.FnCleans'. -/
def fnCleansUptoCard : Claim7 := { stood := { row := fnCleansUptoRow, standIns := [], harness := (true, "7ffb68e5162f9d295a049a5d346cb18a3bf8ac4188488a03a7258529e0095d6c"), looks := false }, kinds := [], alts := [], laidByText := true, laidKinds := [.data, .data, .data, .data, .pinned, .pinned], laidTests := true, laidLooks := .later }
def FnCleansUptoCardSaid : Prop := Claim7.holds Tryz.pinned (.plain (OpenSpec.upto fnCleansSpec)) fnCleansUptoCard

/-- THE SECOND FORM's CARD OF 'laws.FnExactReadUrl'. -/
def fnExactReadUrlUptoCard : Claim7 := { stood := { row := fnExactReadUrlUptoRow, standIns := [], harness := (true, "7ffb68e5162f9d295a049a5d346cb18a3bf8ac4188488a03a7258529e0095d6c"), looks := false }, kinds := [], alts := [], laidByText := true, laidKinds := [.data, .data, .data, .data, .pinned, .pinned], laidTests := true, laidLooks := .later }
def FnExactReadUrlUptoCardSaid : Prop := Claim7.holds Tryz.pinned (.plain (OpenSpec.upto fnExactReadUrlSpec)) fnExactReadUrlUptoCard

/-- THE SECOND FORM's CARD OF 'laws.FnExactCanon'. -/
def fnExactCanonUptoCard : Claim7 := { stood := { row := fnExactCanonUptoRow, standIns := [], harness := (true, "7ffb68e5162f9d295a049a5d346cb18a3bf8ac4188488a03a7258529e0095d6c"), looks := false }, kinds := [], alts := [], laidByText := true, laidKinds := [.data, .data, .data, .data, .pinned, .pinned], laidTests := true, laidLooks := .later }
def FnExactCanonUptoCardSaid : Prop := Claim7.holds Tryz.pinned (.plain (OpenSpec.upto fnExactCanonSpec)) fnExactCanonUptoCard
end Rows
end Go.Proofs.YtmhohponikolfaaGreatDoor
