/-
  DERIVED. GIVEN WITH THE SEED: THE CARDS: each row of YtenjbgpndkodmabGreatDoorRows.lean that lists a variable, with what it lists TIED to the program's text (the seventh form; the later family's looks); each row that meets fmt, with fmt's text TOLD by the authors' own Lean function (tested against real Go, not proved from fmt's source: count such statements apart). THE CARD IS WHAT COUNTS. Prove the row's statement (the work); the ties are given (YtenjbgpndkodmabGreatDoorTie.lean); close each card by the builder's one call (the guide's Derived/Test/ToyasCard.lean, 'card_holds'). Laid BY PROGRAM, IN A SANDBOX (cutbox-door.mjs). By AI agents, Wed Nov 11 2026. No macro, syntax, notation, axiom, sorry.
-/
import Derived.Test.YtenjbgpndkodmabGreatDoorRows
import GoSem.ClaimSeven
namespace Go.Proofs.YtenjbgpndkodmabGreatDoor
namespace Rows

/-- THE TIED CARD OF 'laws.FnExactLineOk'. -/
def fnExactLineOkCard : Claim7 := { stood := { row := fnExactLineOkRow, standIns := [], harness := (true, "fa9d46747fc68caa0f3230c3d81b4d34c681c454f83768e07a82adb0f4e17698"), looks := false }, kinds := [], alts := [], laidByText := true, laidKinds := [.data, .data, .data, .data, .pinned, .pinned], laidTests := true, laidLooks := .later }
def FnExactLineOkCardSaid : Prop := Claim7.holds Tryz.pinned (.plain (OpenSpec.ofChange fnExactLineOkSpec)) fnExactLineOkCard

/-- THE TIED CARD OF 'laws.FnExactLineText'. -/
def fnExactLineTextCard : Claim7 := { stood := { row := fnExactLineTextRow, standIns := [], harness := (true, "fa9d46747fc68caa0f3230c3d81b4d34c681c454f83768e07a82adb0f4e17698"), looks := false }, kinds := [], alts := [], laidByText := true, laidKinds := [.data, .data, .data, .data, .data, .pinned, .pinned], laidTests := true, laidLooks := .later }
def FnExactLineTextCardSaid : Prop := Claim7.holds Tryz.pinned (.plain (OpenSpec.ofChange fnExactLineTextSpec)) fnExactLineTextCard

/-- THE TIED CARD OF 'laws.FnExactReadLine'. -/
def fnExactReadLineCard : Claim7 := { stood := { row := fnExactReadLineRow, standIns := [], harness := (true, "fa9d46747fc68caa0f3230c3d81b4d34c681c454f83768e07a82adb0f4e17698"), looks := false }, kinds := [], alts := [], laidByText := true, laidKinds := [.data, .data, .data, .data, .data, .pinned, .pinned], laidTests := true, laidLooks := .later }
def FnExactReadLineCardSaid : Prop := Claim7.holds Tryz.pinned (.plain (OpenSpec.ofChange fnExactReadLineSpec)) fnExactReadLineCard

/-- THE TIED CARD OF 'laws.FnExactIndexOk'. -/
def fnExactIndexOkCard : Claim7 := { stood := { row := fnExactIndexOkRow, standIns := [], harness := (true, "fa9d46747fc68caa0f3230c3d81b4d34c681c454f83768e07a82adb0f4e17698"), looks := false }, kinds := [], alts := [], laidByText := true, laidKinds := [.data, .data, .data, .data, .pinned, .pinned], laidTests := true, laidLooks := .later }
def FnExactIndexOkCardSaid : Prop := Claim7.holds Tryz.pinned (.plain (OpenSpec.ofChange fnExactIndexOkSpec)) fnExactIndexOkCard

/-- THE TIED CARD OF 'laws.FnExactIndexAdd'. -/
def fnExactIndexAddCard : Claim7 := { stood := { row := fnExactIndexAddRow, standIns := [], harness := (true, "fa9d46747fc68caa0f3230c3d81b4d34c681c454f83768e07a82adb0f4e17698"), looks := false }, kinds := [], alts := [], laidByText := true, laidKinds := [.data, .data, .data, .data, .pinned, .pinned], laidTests := true, laidLooks := .later }
def FnExactIndexAddCardSaid : Prop := Claim7.holds Tryz.pinned (.plain (OpenSpec.ofChange fnExactIndexAddSpec)) fnExactIndexAddCard

/-- THE SECOND FORM's CARD OF 'laws.FnExactLineOk'. -/
def fnExactLineOkUptoCard : Claim7 := { stood := { row := fnExactLineOkUptoRow, standIns := [], harness := (true, "fa9d46747fc68caa0f3230c3d81b4d34c681c454f83768e07a82adb0f4e17698"), looks := false }, kinds := [], alts := [], laidByText := true, laidKinds := [.data, .data, .data, .data, .pinned, .pinned], laidTests := true, laidLooks := .later }
def FnExactLineOkUptoCardSaid : Prop := Claim7.holds Tryz.pinned (.plain (OpenSpec.upto fnExactLineOkSpec)) fnExactLineOkUptoCard

/-- THE SECOND FORM's CARD OF 'laws.FnExactLineText'. -/
def fnExactLineTextUptoCard : Claim7 := { stood := { row := fnExactLineTextUptoRow, standIns := [], harness := (true, "fa9d46747fc68caa0f3230c3d81b4d34c681c454f83768e07a82adb0f4e17698"), looks := false }, kinds := [], alts := [], laidByText := true, laidKinds := [.data, .data, .data, .data, .data, .pinned, .pinned], laidTests := true, laidLooks := .later }
def FnExactLineTextUptoCardSaid : Prop := Claim7.holds Tryz.pinned (.plain (OpenSpec.upto fnExactLineTextSpec)) fnExactLineTextUptoCard

/-- THE SECOND FORM's CARD OF 'laws.FnExactReadLine'. -/
def fnExactReadLineUptoCard : Claim7 := { stood := { row := fnExactReadLineUptoRow, standIns := [], harness := (true, "fa9d46747fc68caa0f3230c3d81b4d34c681c454f83768e07a82adb0f4e17698"), looks := false }, kinds := [], alts := [], laidByText := true, laidKinds := [.data, .data, .data, .data, .data, .pinned, .pinned], laidTests := true, laidLooks := .later }
def FnExactReadLineUptoCardSaid : Prop := Claim7.holds Tryz.pinned (.plain (OpenSpec.upto fnExactReadLineSpec)) fnExactReadLineUptoCard

/-- THE SECOND FORM's CARD OF 'laws.FnExactIndexOk'. -/
def fnExactIndexOkUptoCard : Claim7 := { stood := { row := fnExactIndexOkUptoRow, standIns := [], harness := (true, "fa9d46747fc68caa0f3230c3d81b4d34c681c454f83768e07a82adb0f4e17698"), looks := false }, kinds := [], alts := [], laidByText := true, laidKinds := [.data, .data, .data, .data, .pinned, .pinned], laidTests := true, laidLooks := .later }
def FnExactIndexOkUptoCardSaid : Prop := Claim7.holds Tryz.pinned (.plain (OpenSpec.upto fnExactIndexOkSpec)) fnExactIndexOkUptoCard

/-- THE SECOND FORM's CARD OF 'laws.FnExactIndexAdd'. -/
def fnExactIndexAddUptoCard : Claim7 := { stood := { row := fnExactIndexAddUptoRow, standIns := [], harness := (true, "fa9d46747fc68caa0f3230c3d81b4d34c681c454f83768e07a82adb0f4e17698"), looks := false }, kinds := [], alts := [], laidByText := true, laidKinds := [.data, .data, .data, .data, .pinned, .pinned], laidTests := true, laidLooks := .later }
def FnExactIndexAddUptoCardSaid : Prop := Claim7.holds Tryz.pinned (.plain (OpenSpec.upto fnExactIndexAddSpec)) fnExactIndexAddUptoCard
end Rows
end Go.Proofs.YtenjbgpndkodmabGreatDoor
