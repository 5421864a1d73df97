/-
  DERIVED. GIVEN WITH THE SEED: THE CARDS: each row of YtohaghlhdkfkbacDoorRows.lean that lists a variable, with what it lists TIED to the program's text (the seventh form; the later family's looks); each row that meets fmt, with fmt's text TOLD by the authors' own Lean function (tested against real Go, not proved from fmt's source: count such statements apart). THE CARD IS WHAT COUNTS. Prove the row's statement (the work); the ties are given (YtohaghlhdkfkbacDoorTie.lean); close each card by the builder's one call (the guide's Derived/Test/ToyasCard.lean, 'card_holds'). Laid BY PROGRAM, IN A SANDBOX (cutbox-door.mjs). By AI agents, Wed Nov 11 2026. No macro, syntax, notation, axiom, sorry.
-/
import Derived.Test.YtohaghlhdkfkbacDoorRows
import GoSem.ClaimSeven
namespace Go.Proofs.YtohaghlhdkfkbacDoor
namespace Rows

/-- THE TIED CARD OF 'laws.FnExactReadHttpDate'. -/
def fnExactReadHttpDateCard : Claim7 := { stood := { row := fnExactReadHttpDateRow, standIns := [], harness := (true, "ca37ebc7dd116707d318ae8d70ef9d9340ad52afb6966b9c2c350c0034e9d644"), looks := false }, kinds := [], alts := [], laidByText := true, laidKinds := [.data, .data, .data], laidTests := true, laidLooks := .later }
def FnExactReadHttpDateCardSaid : Prop := Claim7.holds Tryd.pinned (.plain (OpenSpec.ofChange fnExactReadHttpDateSpec)) fnExactReadHttpDateCard

/-- THE TIED CARD OF 'laws.FnExactWarcDate'. -/
def fnExactWarcDateCard : Claim7 := { stood := { row := fnExactWarcDateRow, standIns := [], harness := (true, "ca37ebc7dd116707d318ae8d70ef9d9340ad52afb6966b9c2c350c0034e9d644"), looks := false }, kinds := [], alts := [], laidByText := true, laidKinds := [.data], laidTests := true, laidLooks := .later }
def FnExactWarcDateCardSaid : Prop := Claim7.holds Tryd.pinned (.plain (OpenSpec.ofChange fnExactWarcDateSpec)) fnExactWarcDateCard

/-- THE TIED CARD OF 'laws.FnExactReadWarcDate'. -/
def fnExactReadWarcDateCard : Claim7 := { stood := { row := fnExactReadWarcDateRow, standIns := [], harness := (true, "ca37ebc7dd116707d318ae8d70ef9d9340ad52afb6966b9c2c350c0034e9d644"), looks := false }, kinds := [], alts := [], laidByText := true, laidKinds := [.data], laidTests := true, laidLooks := .later }
def FnExactReadWarcDateCardSaid : Prop := Claim7.holds Tryd.pinned (.plain (OpenSpec.ofChange fnExactReadWarcDateSpec)) fnExactReadWarcDateCard

/-- THE TIED CARD OF 'laws.FnExactStamp'. -/
def fnExactStampCard : Claim7 := { stood := { row := fnExactStampRow, standIns := [], harness := (true, "ca37ebc7dd116707d318ae8d70ef9d9340ad52afb6966b9c2c350c0034e9d644"), looks := false }, kinds := [], alts := [], laidByText := true, laidKinds := [.data], laidTests := true, laidLooks := .later }
def FnExactStampCardSaid : Prop := Claim7.holds Tryd.pinned (.plain (OpenSpec.ofChange fnExactStampSpec)) fnExactStampCard

/-- THE TIED CARD OF 'laws.FnExactReadStamp'. -/
def fnExactReadStampCard : Claim7 := { stood := { row := fnExactReadStampRow, standIns := [], harness := (true, "ca37ebc7dd116707d318ae8d70ef9d9340ad52afb6966b9c2c350c0034e9d644"), looks := false }, kinds := [], alts := [], laidByText := true, laidKinds := [.data], laidTests := true, laidLooks := .later }
def FnExactReadStampCardSaid : Prop := Claim7.holds Tryd.pinned (.plain (OpenSpec.ofChange fnExactReadStampSpec)) fnExactReadStampCard

/-- THE SECOND FORM's CARD OF 'laws.FnExactReadHttpDate'. -/
def fnExactReadHttpDateUptoCard : Claim7 := { stood := { row := fnExactReadHttpDateUptoRow, standIns := [], harness := (true, "ca37ebc7dd116707d318ae8d70ef9d9340ad52afb6966b9c2c350c0034e9d644"), looks := false }, kinds := [], alts := [], laidByText := true, laidKinds := [.data, .data, .data], laidTests := true, laidLooks := .later }
def FnExactReadHttpDateUptoCardSaid : Prop := Claim7.holds Tryd.pinned (.plain (OpenSpec.upto fnExactReadHttpDateSpec)) fnExactReadHttpDateUptoCard

/-- THE SECOND FORM's CARD OF 'laws.FnExactWarcDate'. -/
def fnExactWarcDateUptoCard : Claim7 := { stood := { row := fnExactWarcDateUptoRow, standIns := [], harness := (true, "ca37ebc7dd116707d318ae8d70ef9d9340ad52afb6966b9c2c350c0034e9d644"), looks := false }, kinds := [], alts := [], laidByText := true, laidKinds := [.data], laidTests := true, laidLooks := .later }
def FnExactWarcDateUptoCardSaid : Prop := Claim7.holds Tryd.pinned (.plain (OpenSpec.upto fnExactWarcDateSpec)) fnExactWarcDateUptoCard

/-- THE SECOND FORM's CARD OF 'laws.FnExactReadWarcDate'. -/
def fnExactReadWarcDateUptoCard : Claim7 := { stood := { row := fnExactReadWarcDateUptoRow, standIns := [], harness := (true, "ca37ebc7dd116707d318ae8d70ef9d9340ad52afb6966b9c2c350c0034e9d644"), looks := false }, kinds := [], alts := [], laidByText := true, laidKinds := [.data], laidTests := true, laidLooks := .later }
def FnExactReadWarcDateUptoCardSaid : Prop := Claim7.holds Tryd.pinned (.plain (OpenSpec.upto fnExactReadWarcDateSpec)) fnExactReadWarcDateUptoCard

/-- THE SECOND FORM's CARD OF 'laws.FnExactStamp'. -/
def fnExactStampUptoCard : Claim7 := { stood := { row := fnExactStampUptoRow, standIns := [], harness := (true, "ca37ebc7dd116707d318ae8d70ef9d9340ad52afb6966b9c2c350c0034e9d644"), looks := false }, kinds := [], alts := [], laidByText := true, laidKinds := [.data], laidTests := true, laidLooks := .later }
def FnExactStampUptoCardSaid : Prop := Claim7.holds Tryd.pinned (.plain (OpenSpec.upto fnExactStampSpec)) fnExactStampUptoCard

/-- THE SECOND FORM's CARD OF 'laws.FnExactReadStamp'. -/
def fnExactReadStampUptoCard : Claim7 := { stood := { row := fnExactReadStampUptoRow, standIns := [], harness := (true, "ca37ebc7dd116707d318ae8d70ef9d9340ad52afb6966b9c2c350c0034e9d644"), looks := false }, kinds := [], alts := [], laidByText := true, laidKinds := [.data], laidTests := true, laidLooks := .later }
def FnExactReadStampUptoCardSaid : Prop := Claim7.holds Tryd.pinned (.plain (OpenSpec.upto fnExactReadStampSpec)) fnExactReadStampUptoCard
end Rows
end Go.Proofs.YtohaghlhdkfkbacDoor
