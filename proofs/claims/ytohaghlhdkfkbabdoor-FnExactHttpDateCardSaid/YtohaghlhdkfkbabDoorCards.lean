/-
  DERIVED. GIVEN WITH THE SEED: THE CARDS: each row of YtohaghlhdkfkbabDoorRows.lean that lists a variable, with what it lists TIED to the program's text (the seventh form; the later family's looks); each row that meets fmt, with fmt's text TOLD by the authors' own Lean function (tested against real Go, not proved from fmt's source: count such statements apart). THE CARD IS WHAT COUNTS. Prove the row's statement (the work); the ties are given (YtohaghlhdkfkbabDoorTie.lean); close each card by the builder's one call (the guide's Derived/Test/ToyasCard.lean, 'card_holds'). Laid BY PROGRAM, IN A SANDBOX (cutbox-door.mjs). By AI agents, Wed Nov 11 2026. No macro, syntax, notation, axiom, sorry.
-/
import Derived.Test.YtohaghlhdkfkbabDoorRows
import GoSem.ClaimSeven
namespace Go.Proofs.YtohaghlhdkfkbabDoor
namespace Rows

/-- THE TIED CARD OF 'laws.FnExactSecondsOf'. -/
def fnExactSecondsOfCard : Claim7 := { stood := { row := fnExactSecondsOfRow, standIns := [], harness := (true, "8c777804a68aa69b2ae620b8c169aff2c49811e61d0675b3fa43241265f634f7"), looks := false }, kinds := [], alts := [], laidByText := true, laidKinds := [.data], laidTests := true, laidLooks := .later }
def FnExactSecondsOfCardSaid : Prop := Claim7.holds Tryd.pinned (.plain (OpenSpec.ofChange fnExactSecondsOfSpec)) fnExactSecondsOfCard

/-- THE TIED CARD OF 'laws.FnExactCivilOf'. -/
def fnExactCivilOfCard : Claim7 := { stood := { row := fnExactCivilOfRow, standIns := [], harness := (true, "8c777804a68aa69b2ae620b8c169aff2c49811e61d0675b3fa43241265f634f7"), looks := false }, kinds := [], alts := [], laidByText := true, laidKinds := [.data], laidTests := true, laidLooks := .later }
def FnExactCivilOfCardSaid : Prop := Claim7.holds Tryd.pinned (.plain (OpenSpec.ofChange fnExactCivilOfSpec)) fnExactCivilOfCard

/-- THE TIED CARD OF 'laws.FnExactHttpDate'. -/
def fnExactHttpDateCard : Claim7 := { stood := { row := fnExactHttpDateRow, standIns := [], harness := (true, "8c777804a68aa69b2ae620b8c169aff2c49811e61d0675b3fa43241265f634f7"), looks := false }, kinds := [], alts := [], laidByText := true, laidKinds := [.data, .data, .data], laidTests := true, laidLooks := .later }
def FnExactHttpDateCardSaid : Prop := Claim7.holds Tryd.pinned (.plain (OpenSpec.ofChange fnExactHttpDateSpec)) fnExactHttpDateCard

/-- THE TIED CARD OF 'laws.FnExactLongDate'. -/
def fnExactLongDateCard : Claim7 := { stood := { row := fnExactLongDateRow, standIns := [], harness := (true, "8c777804a68aa69b2ae620b8c169aff2c49811e61d0675b3fa43241265f634f7"), looks := false }, kinds := [], alts := [], laidByText := true, laidKinds := [.data, .data, .data], laidTests := true, laidLooks := .later }
def FnExactLongDateCardSaid : Prop := Claim7.holds Tryd.pinned (.plain (OpenSpec.ofChange fnExactLongDateSpec)) fnExactLongDateCard

/-- THE TIED CARD OF 'laws.FnExactLineDate'. -/
def fnExactLineDateCard : Claim7 := { stood := { row := fnExactLineDateRow, standIns := [], harness := (true, "8c777804a68aa69b2ae620b8c169aff2c49811e61d0675b3fa43241265f634f7"), looks := false }, kinds := [], alts := [], laidByText := true, laidKinds := [.data, .data, .data], laidTests := true, laidLooks := .later }
def FnExactLineDateCardSaid : Prop := Claim7.holds Tryd.pinned (.plain (OpenSpec.ofChange fnExactLineDateSpec)) fnExactLineDateCard

/-- THE SECOND FORM's CARD OF 'laws.FnExactSecondsOf'. -/
def fnExactSecondsOfUptoCard : Claim7 := { stood := { row := fnExactSecondsOfUptoRow, standIns := [], harness := (true, "8c777804a68aa69b2ae620b8c169aff2c49811e61d0675b3fa43241265f634f7"), looks := false }, kinds := [], alts := [], laidByText := true, laidKinds := [.data], laidTests := true, laidLooks := .later }
def FnExactSecondsOfUptoCardSaid : Prop := Claim7.holds Tryd.pinned (.plain (OpenSpec.upto fnExactSecondsOfSpec)) fnExactSecondsOfUptoCard

/-- THE SECOND FORM's CARD OF 'laws.FnExactCivilOf'. -/
def fnExactCivilOfUptoCard : Claim7 := { stood := { row := fnExactCivilOfUptoRow, standIns := [], harness := (true, "8c777804a68aa69b2ae620b8c169aff2c49811e61d0675b3fa43241265f634f7"), looks := false }, kinds := [], alts := [], laidByText := true, laidKinds := [.data], laidTests := true, laidLooks := .later }
def FnExactCivilOfUptoCardSaid : Prop := Claim7.holds Tryd.pinned (.plain (OpenSpec.upto fnExactCivilOfSpec)) fnExactCivilOfUptoCard

/-- THE SECOND FORM's CARD OF 'laws.FnExactHttpDate'. -/
def fnExactHttpDateUptoCard : Claim7 := { stood := { row := fnExactHttpDateUptoRow, standIns := [], harness := (true, "8c777804a68aa69b2ae620b8c169aff2c49811e61d0675b3fa43241265f634f7"), looks := false }, kinds := [], alts := [], laidByText := true, laidKinds := [.data, .data, .data], laidTests := true, laidLooks := .later }
def FnExactHttpDateUptoCardSaid : Prop := Claim7.holds Tryd.pinned (.plain (OpenSpec.upto fnExactHttpDateSpec)) fnExactHttpDateUptoCard

/-- THE SECOND FORM's CARD OF 'laws.FnExactLongDate'. -/
def fnExactLongDateUptoCard : Claim7 := { stood := { row := fnExactLongDateUptoRow, standIns := [], harness := (true, "8c777804a68aa69b2ae620b8c169aff2c49811e61d0675b3fa43241265f634f7"), looks := false }, kinds := [], alts := [], laidByText := true, laidKinds := [.data, .data, .data], laidTests := true, laidLooks := .later }
def FnExactLongDateUptoCardSaid : Prop := Claim7.holds Tryd.pinned (.plain (OpenSpec.upto fnExactLongDateSpec)) fnExactLongDateUptoCard

/-- THE SECOND FORM's CARD OF 'laws.FnExactLineDate'. -/
def fnExactLineDateUptoCard : Claim7 := { stood := { row := fnExactLineDateUptoRow, standIns := [], harness := (true, "8c777804a68aa69b2ae620b8c169aff2c49811e61d0675b3fa43241265f634f7"), looks := false }, kinds := [], alts := [], laidByText := true, laidKinds := [.data, .data, .data], laidTests := true, laidLooks := .later }
def FnExactLineDateUptoCardSaid : Prop := Claim7.holds Tryd.pinned (.plain (OpenSpec.upto fnExactLineDateSpec)) fnExactLineDateUptoCard
end Rows
end Go.Proofs.YtohaghlhdkfkbabDoor
