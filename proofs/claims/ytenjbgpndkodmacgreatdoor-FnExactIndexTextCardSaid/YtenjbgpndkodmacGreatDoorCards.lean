/-
  DERIVED. GIVEN WITH THE SEED: THE CARDS: each row of YtenjbgpndkodmacGreatDoorRows.lean that lists a variable, with what it lists TIED to the program's text (the seventh form; the later family's looks); each row that meets fmt, with fmt's text TOLD by the authors' own Lean function (tested against real Go, not proved from fmt's source: count such statements apart). THE CARD IS WHAT COUNTS. Prove the row's statement (the work); the ties are given (YtenjbgpndkodmacGreatDoorTie.lean); close each card by the builder's one call (the guide's Derived/Test/ToyasCard.lean, 'card_holds'). Laid BY PROGRAM, IN A SANDBOX (cutbox-door.mjs). By AI agents, Wed Nov 11 2026. No macro, syntax, notation, axiom, sorry.
-/
import Derived.Test.YtenjbgpndkodmacGreatDoorRows
import GoSem.ClaimSeven
namespace Go.Proofs.YtenjbgpndkodmacGreatDoor
namespace Rows

/-- THE TIED CARD OF 'laws.FnExactIndexMerge'. -/
def fnExactIndexMergeCard : Claim7 := { stood := { row := fnExactIndexMergeRow, standIns := [], harness := (true, "46306c45d5b3ca64c33472a5648a656cf2ed769b8d26f7f84436240dff350267"), looks := false }, kinds := [], alts := [], laidByText := true, laidKinds := [.data, .data, .data, .data, .pinned, .pinned], laidTests := true, laidLooks := .later }
def FnExactIndexMergeCardSaid : Prop := Claim7.holds Tryz.pinned (.plain (OpenSpec.ofChange fnExactIndexMergeSpec)) fnExactIndexMergeCard

/-- THE TIED CARD OF 'laws.FnExactIndexRange'. -/
def fnExactIndexRangeCard : Claim7 := { stood := { row := fnExactIndexRangeRow, standIns := [], harness := (true, "46306c45d5b3ca64c33472a5648a656cf2ed769b8d26f7f84436240dff350267"), looks := false }, kinds := [], alts := [], laidByText := true, laidKinds := [.data, .data, .data, .data, .pinned, .pinned], laidTests := true, laidLooks := .later }
def FnExactIndexRangeCardSaid : Prop := Claim7.holds Tryz.pinned (.plain (OpenSpec.ofChange fnExactIndexRangeSpec)) fnExactIndexRangeCard

/-- THE TIED CARD OF 'laws.FnExactClosest'. -/
def fnExactClosestCard : Claim7 := { stood := { row := fnExactClosestRow, standIns := [], harness := (true, "46306c45d5b3ca64c33472a5648a656cf2ed769b8d26f7f84436240dff350267"), looks := false }, kinds := [], alts := [], laidByText := true, laidKinds := [.data, .data, .data, .data, .pinned, .pinned], laidTests := true, laidLooks := .later }
def FnExactClosestCardSaid : Prop := Claim7.holds Tryz.pinned (.plain (OpenSpec.ofChange fnExactClosestSpec)) fnExactClosestCard

/-- THE TIED CARD OF 'laws.FnExactIndexText'. -/
def fnExactIndexTextCard : Claim7 := { stood := { row := fnExactIndexTextRow, standIns := [], harness := (true, "46306c45d5b3ca64c33472a5648a656cf2ed769b8d26f7f84436240dff350267"), looks := false }, kinds := [], alts := [], laidByText := true, laidKinds := [.data, .data, .data, .data, .data, .pinned, .pinned], laidTests := true, laidLooks := .later }
def FnExactIndexTextCardSaid : Prop := Claim7.holds Tryz.pinned (.plain (OpenSpec.ofChange fnExactIndexTextSpec)) fnExactIndexTextCard

/-- THE TIED CARD OF 'laws.FnExactReadIndex'. -/
def fnExactReadIndexCard : Claim7 := { stood := { row := fnExactReadIndexRow, standIns := [], harness := (true, "46306c45d5b3ca64c33472a5648a656cf2ed769b8d26f7f84436240dff350267"), looks := false }, kinds := [], alts := [], laidByText := true, laidKinds := [.data, .data, .data, .data, .data, .pinned, .pinned], laidTests := true, laidLooks := .later }
def FnExactReadIndexCardSaid : Prop := Claim7.holds Tryz.pinned (.plain (OpenSpec.ofChange fnExactReadIndexSpec)) fnExactReadIndexCard

/-- THE SECOND FORM's CARD OF 'laws.FnExactIndexMerge'. -/
def fnExactIndexMergeUptoCard : Claim7 := { stood := { row := fnExactIndexMergeUptoRow, standIns := [], harness := (true, "46306c45d5b3ca64c33472a5648a656cf2ed769b8d26f7f84436240dff350267"), looks := false }, kinds := [], alts := [], laidByText := true, laidKinds := [.data, .data, .data, .data, .pinned, .pinned], laidTests := true, laidLooks := .later }
def FnExactIndexMergeUptoCardSaid : Prop := Claim7.holds Tryz.pinned (.plain (OpenSpec.upto fnExactIndexMergeSpec)) fnExactIndexMergeUptoCard

/-- THE SECOND FORM's CARD OF 'laws.FnExactIndexRange'. -/
def fnExactIndexRangeUptoCard : Claim7 := { stood := { row := fnExactIndexRangeUptoRow, standIns := [], harness := (true, "46306c45d5b3ca64c33472a5648a656cf2ed769b8d26f7f84436240dff350267"), looks := false }, kinds := [], alts := [], laidByText := true, laidKinds := [.data, .data, .data, .data, .pinned, .pinned], laidTests := true, laidLooks := .later }
def FnExactIndexRangeUptoCardSaid : Prop := Claim7.holds Tryz.pinned (.plain (OpenSpec.upto fnExactIndexRangeSpec)) fnExactIndexRangeUptoCard

/-- THE SECOND FORM's CARD OF 'laws.FnExactClosest'. -/
def fnExactClosestUptoCard : Claim7 := { stood := { row := fnExactClosestUptoRow, standIns := [], harness := (true, "46306c45d5b3ca64c33472a5648a656cf2ed769b8d26f7f84436240dff350267"), looks := false }, kinds := [], alts := [], laidByText := true, laidKinds := [.data, .data, .data, .data, .pinned, .pinned], laidTests := true, laidLooks := .later }
def FnExactClosestUptoCardSaid : Prop := Claim7.holds Tryz.pinned (.plain (OpenSpec.upto fnExactClosestSpec)) fnExactClosestUptoCard

/-- THE SECOND FORM's CARD OF 'laws.FnExactIndexText'. -/
def fnExactIndexTextUptoCard : Claim7 := { stood := { row := fnExactIndexTextUptoRow, standIns := [], harness := (true, "46306c45d5b3ca64c33472a5648a656cf2ed769b8d26f7f84436240dff350267"), looks := false }, kinds := [], alts := [], laidByText := true, laidKinds := [.data, .data, .data, .data, .data, .pinned, .pinned], laidTests := true, laidLooks := .later }
def FnExactIndexTextUptoCardSaid : Prop := Claim7.holds Tryz.pinned (.plain (OpenSpec.upto fnExactIndexTextSpec)) fnExactIndexTextUptoCard

/-- THE SECOND FORM's CARD OF 'laws.FnExactReadIndex'. -/
def fnExactReadIndexUptoCard : Claim7 := { stood := { row := fnExactReadIndexUptoRow, standIns := [], harness := (true, "46306c45d5b3ca64c33472a5648a656cf2ed769b8d26f7f84436240dff350267"), looks := false }, kinds := [], alts := [], laidByText := true, laidKinds := [.data, .data, .data, .data, .data, .pinned, .pinned], laidTests := true, laidLooks := .later }
def FnExactReadIndexUptoCardSaid : Prop := Claim7.holds Tryz.pinned (.plain (OpenSpec.upto fnExactReadIndexSpec)) fnExactReadIndexUptoCard
end Rows
end Go.Proofs.YtenjbgpndkodmacGreatDoor
