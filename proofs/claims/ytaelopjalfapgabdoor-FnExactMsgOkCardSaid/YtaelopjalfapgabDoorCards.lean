/-
  DERIVED. GIVEN WITH THE SEED: THE CARDS: each row of YtaelopjalfapgabDoorRows.lean that lists a variable, with what it lists TIED to the program's text (the seventh form; the later family's looks); each row that meets fmt, with fmt's text TOLD by the authors' own Lean function (tested against real Go, not proved from fmt's source: count such statements apart). THE CARD IS WHAT COUNTS. Prove the row's statement (the work); the ties are given (YtaelopjalfapgabDoorTie.lean); close each card by the builder's one call (the guide's Derived/Test/ToyasCard.lean, 'card_holds'). Laid BY PROGRAM, IN A SANDBOX (cutbox-door.mjs). By AI agents, Wed Nov 11 2026. No macro, syntax, notation, axiom, sorry.
-/
import Derived.Test.YtaelopjalfapgabDoorRows
import GoSem.ClaimSeven
namespace Go.Proofs.YtaelopjalfapgabDoor
namespace Rows

/-- THE TIED CARD OF 'laws.FnExactMsgOk'. -/
def fnExactMsgOkCard : Claim7 := { stood := { row := fnExactMsgOkRow, standIns := [], harness := (true, "769832b401ba0dc25cf5c6c9154191ad3df916b49b4a399faf3b571773084397"), looks := true }, kinds := [], alts := [], laidByText := true, laidKinds := [.data, .data, .data], laidTests := true, laidLooks := .later }
def FnExactMsgOkCardSaid : Prop := Claim7.holds Tryd.pinned (.plain (OpenSpec.ofChange fnExactMsgOkSpec)) fnExactMsgOkCard

/-- THE TIED CARD OF 'laws.FnExactWriteHead'. -/
def fnExactWriteHeadCard : Claim7 := { stood := { row := fnExactWriteHeadRow, standIns := [], harness := (true, "769832b401ba0dc25cf5c6c9154191ad3df916b49b4a399faf3b571773084397"), looks := true }, kinds := [], alts := [], laidByText := true, laidKinds := [.data, .data, .data], laidTests := true, laidLooks := .later }
def FnExactWriteHeadCardSaid : Prop := Claim7.holds Tryd.pinned (.plain (OpenSpec.ofChange fnExactWriteHeadSpec)) fnExactWriteHeadCard

/-- THE TIED CARD OF 'laws.FnExactWriteMsg'. -/
def fnExactWriteMsgCard : Claim7 := { stood := { row := fnExactWriteMsgRow, standIns := [], harness := (true, "769832b401ba0dc25cf5c6c9154191ad3df916b49b4a399faf3b571773084397"), looks := true }, kinds := [], alts := [], laidByText := true, laidKinds := [.data, .data, .data], laidTests := true, laidLooks := .later }
def FnExactWriteMsgCardSaid : Prop := Claim7.holds Tryd.pinned (.plain (OpenSpec.ofChange fnExactWriteMsgSpec)) fnExactWriteMsgCard

/-- THE TIED CARD OF 'laws.FnExactReadHead'. -/
def fnExactReadHeadCard : Claim7 := { stood := { row := fnExactReadHeadRow, standIns := [], harness := (true, "769832b401ba0dc25cf5c6c9154191ad3df916b49b4a399faf3b571773084397"), looks := true }, kinds := [], alts := [], laidByText := true, laidKinds := [.data, .pinned], laidTests := true, laidLooks := .later }
def FnExactReadHeadCardSaid : Prop := Claim7.holds Tryd.pinned (.plain (OpenSpec.ofChange fnExactReadHeadSpec)) fnExactReadHeadCard

/-- THE SECOND FORM's CARD OF 'laws.FnExactMsgOk'. -/
def fnExactMsgOkUptoCard : Claim7 := { stood := { row := fnExactMsgOkUptoRow, standIns := [], harness := (true, "769832b401ba0dc25cf5c6c9154191ad3df916b49b4a399faf3b571773084397"), looks := true }, kinds := [], alts := [], laidByText := true, laidKinds := [.data, .data, .data], laidTests := true, laidLooks := .later }
def FnExactMsgOkUptoCardSaid : Prop := Claim7.holds Tryd.pinned (.plain (OpenSpec.upto fnExactMsgOkSpec)) fnExactMsgOkUptoCard

/-- THE SECOND FORM's CARD OF 'laws.FnExactWriteHead'. -/
def fnExactWriteHeadUptoCard : Claim7 := { stood := { row := fnExactWriteHeadUptoRow, standIns := [], harness := (true, "769832b401ba0dc25cf5c6c9154191ad3df916b49b4a399faf3b571773084397"), looks := true }, kinds := [], alts := [], laidByText := true, laidKinds := [.data, .data, .data], laidTests := true, laidLooks := .later }
def FnExactWriteHeadUptoCardSaid : Prop := Claim7.holds Tryd.pinned (.plain (OpenSpec.upto fnExactWriteHeadSpec)) fnExactWriteHeadUptoCard

/-- THE SECOND FORM's CARD OF 'laws.FnExactWriteMsg'. -/
def fnExactWriteMsgUptoCard : Claim7 := { stood := { row := fnExactWriteMsgUptoRow, standIns := [], harness := (true, "769832b401ba0dc25cf5c6c9154191ad3df916b49b4a399faf3b571773084397"), looks := true }, kinds := [], alts := [], laidByText := true, laidKinds := [.data, .data, .data], laidTests := true, laidLooks := .later }
def FnExactWriteMsgUptoCardSaid : Prop := Claim7.holds Tryd.pinned (.plain (OpenSpec.upto fnExactWriteMsgSpec)) fnExactWriteMsgUptoCard

/-- THE SECOND FORM's CARD OF 'laws.FnExactReadHead'. -/
def fnExactReadHeadUptoCard : Claim7 := { stood := { row := fnExactReadHeadUptoRow, standIns := [], harness := (true, "769832b401ba0dc25cf5c6c9154191ad3df916b49b4a399faf3b571773084397"), looks := true }, kinds := [], alts := [], laidByText := true, laidKinds := [.data, .pinned], laidTests := true, laidLooks := .later }
def FnExactReadHeadUptoCardSaid : Prop := Claim7.holds Tryd.pinned (.plain (OpenSpec.upto fnExactReadHeadSpec)) fnExactReadHeadUptoCard
end Rows
end Go.Proofs.YtaelopjalfapgabDoor
