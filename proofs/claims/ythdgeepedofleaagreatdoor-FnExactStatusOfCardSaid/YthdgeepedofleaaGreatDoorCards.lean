/-
  DERIVED. GIVEN WITH THE SEED: THE CARDS: each row of YthdgeepedofleaaGreatDoorRows.lean that lists a variable, with what it lists TIED to the program's text (the seventh form; the later family's looks); each row that meets fmt, with fmt's text TOLD by the authors' own Lean function (tested against real Go, not proved from fmt's source: count such statements apart). THE CARD IS WHAT COUNTS. Prove the row's statement (the work); the ties are given (YthdgeepedofleaaGreatDoorTie.lean); close each card by the builder's one call (the guide's Derived/Test/ToyasCard.lean, 'card_holds'). Laid BY PROGRAM, IN A SANDBOX (cutbox-door.mjs). By AI agents, Wed Nov 11 2026. No macro, syntax, notation, axiom, sorry.
-/
import Derived.Test.YthdgeepedofleaaGreatDoorRows
import GoSem.ClaimSeven
namespace Go.Proofs.YthdgeepedofleaaGreatDoor
namespace Rows

/-- THE TIED CARD OF 'laws.FnThrees'. -/
def fnThreesCard : Claim7 := { stood := { row := fnThreesRow, standIns := [], harness := (true, "de824cca6960d52520fdc22416c6cddc212bf86119cb931291ec639f906c682a"), looks := true }, kinds := [], alts := [], laidByText := true, laidKinds := [.data, .data, .data, .data, .pinned, .pinned], laidTests := true, laidLooks := .later }
def FnThreesCardSaid : Prop := Claim7.holds Tryz.pinned (.plain (OpenSpec.ofChange fnThreesSpec)) fnThreesCard

/-- THE TIED CARD OF 'laws.FnMarks'. -/
def fnMarksCard : Claim7 := { stood := { row := fnMarksRow, standIns := [], harness := (true, "de824cca6960d52520fdc22416c6cddc212bf86119cb931291ec639f906c682a"), looks := true }, kinds := [], alts := [], laidByText := true, laidKinds := [.data, .data, .data, .data, .pinned, .pinned], laidTests := true, laidLooks := .later }
def FnMarksCardSaid : Prop := Claim7.holds Tryz.pinned (.plain (OpenSpec.ofChange fnMarksSpec)) fnMarksCard

/-- THE TIED CARD OF 'laws.FnExactExchOk'. -/
def fnExactExchOkCard : Claim7 := { stood := { row := fnExactExchOkRow, standIns := [], harness := (true, "de824cca6960d52520fdc22416c6cddc212bf86119cb931291ec639f906c682a"), looks := true }, kinds := [], alts := [], laidByText := true, laidKinds := [.data, .data, .data, .data, .pinned, .pinned], laidTests := true, laidLooks := .later }
def FnExactExchOkCardSaid : Prop := Claim7.holds Tryz.pinned (.plain (OpenSpec.ofChange fnExactExchOkSpec)) fnExactExchOkCard

/-- THE TIED CARD OF 'laws.FnExactMethodOf'. -/
def fnExactMethodOfCard : Claim7 := { stood := { row := fnExactMethodOfRow, standIns := [], harness := (true, "de824cca6960d52520fdc22416c6cddc212bf86119cb931291ec639f906c682a"), looks := true }, kinds := [], alts := [], laidByText := true, laidKinds := [.data, .data, .data, .data, .pinned, .pinned], laidTests := true, laidLooks := .later }
def FnExactMethodOfCardSaid : Prop := Claim7.holds Tryz.pinned (.plain (OpenSpec.ofChange fnExactMethodOfSpec)) fnExactMethodOfCard

/-- THE TIED CARD OF 'laws.FnExactStatusOf'. -/
def fnExactStatusOfCard : Claim7 := { stood := { row := fnExactStatusOfRow, standIns := [], harness := (true, "de824cca6960d52520fdc22416c6cddc212bf86119cb931291ec639f906c682a"), looks := true }, kinds := [], alts := [], laidByText := true, laidKinds := [.data, .data, .data, .data, .pinned, .pinned], laidTests := true, laidLooks := .later }
def FnExactStatusOfCardSaid : Prop := Claim7.holds Tryz.pinned (.plain (OpenSpec.ofChange fnExactStatusOfSpec)) fnExactStatusOfCard

/-- THE TIED CARD OF 'laws.FnExactRequestOf'. -/
def fnExactRequestOfCard : Claim7 := { stood := { row := fnExactRequestOfRow, standIns := [], harness := (true, "de824cca6960d52520fdc22416c6cddc212bf86119cb931291ec639f906c682a"), looks := true }, kinds := [], alts := [], laidByText := true, laidKinds := [.data, .data, .data, .data, .pinned, .pinned], laidTests := true, laidLooks := .later }
def FnExactRequestOfCardSaid : Prop := Claim7.holds Tryz.pinned (.plain (OpenSpec.ofChange fnExactRequestOfSpec)) fnExactRequestOfCard

/-- THE SECOND FORM's CARD OF 'laws.FnThrees'. -/
def fnThreesUptoCard : Claim7 := { stood := { row := fnThreesUptoRow, standIns := [], harness := (true, "de824cca6960d52520fdc22416c6cddc212bf86119cb931291ec639f906c682a"), looks := true }, kinds := [], alts := [], laidByText := true, laidKinds := [.data, .data, .data, .data, .pinned, .pinned], laidTests := true, laidLooks := .later }
def FnThreesUptoCardSaid : Prop := Claim7.holds Tryz.pinned (.plain (OpenSpec.upto fnThreesSpec)) fnThreesUptoCard

/-- THE SECOND FORM's CARD OF 'laws.FnMarks'. -/
def fnMarksUptoCard : Claim7 := { stood := { row := fnMarksUptoRow, standIns := [], harness := (true, "de824cca6960d52520fdc22416c6cddc212bf86119cb931291ec639f906c682a"), looks := true }, kinds := [], alts := [], laidByText := true, laidKinds := [.data, .data, .data, .data, .pinned, .pinned], laidTests := true, laidLooks := .later }
def FnMarksUptoCardSaid : Prop := Claim7.holds Tryz.pinned (.plain (OpenSpec.upto fnMarksSpec)) fnMarksUptoCard

/-- THE SECOND FORM's CARD OF 'laws.FnExactExchOk'. -/
def fnExactExchOkUptoCard : Claim7 := { stood := { row := fnExactExchOkUptoRow, standIns := [], harness := (true, "de824cca6960d52520fdc22416c6cddc212bf86119cb931291ec639f906c682a"), looks := true }, kinds := [], alts := [], laidByText := true, laidKinds := [.data, .data, .data, .data, .pinned, .pinned], laidTests := true, laidLooks := .later }
def FnExactExchOkUptoCardSaid : Prop := Claim7.holds Tryz.pinned (.plain (OpenSpec.upto fnExactExchOkSpec)) fnExactExchOkUptoCard

/-- THE SECOND FORM's CARD OF 'laws.FnExactMethodOf'. -/
def fnExactMethodOfUptoCard : Claim7 := { stood := { row := fnExactMethodOfUptoRow, standIns := [], harness := (true, "de824cca6960d52520fdc22416c6cddc212bf86119cb931291ec639f906c682a"), looks := true }, kinds := [], alts := [], laidByText := true, laidKinds := [.data, .data, .data, .data, .pinned, .pinned], laidTests := true, laidLooks := .later }
def FnExactMethodOfUptoCardSaid : Prop := Claim7.holds Tryz.pinned (.plain (OpenSpec.upto fnExactMethodOfSpec)) fnExactMethodOfUptoCard

/-- THE SECOND FORM's CARD OF 'laws.FnExactStatusOf'. -/
def fnExactStatusOfUptoCard : Claim7 := { stood := { row := fnExactStatusOfUptoRow, standIns := [], harness := (true, "de824cca6960d52520fdc22416c6cddc212bf86119cb931291ec639f906c682a"), looks := true }, kinds := [], alts := [], laidByText := true, laidKinds := [.data, .data, .data, .data, .pinned, .pinned], laidTests := true, laidLooks := .later }
def FnExactStatusOfUptoCardSaid : Prop := Claim7.holds Tryz.pinned (.plain (OpenSpec.upto fnExactStatusOfSpec)) fnExactStatusOfUptoCard

/-- THE SECOND FORM's CARD OF 'laws.FnExactRequestOf'. -/
def fnExactRequestOfUptoCard : Claim7 := { stood := { row := fnExactRequestOfUptoRow, standIns := [], harness := (true, "de824cca6960d52520fdc22416c6cddc212bf86119cb931291ec639f906c682a"), looks := true }, kinds := [], alts := [], laidByText := true, laidKinds := [.data, .data, .data, .data, .pinned, .pinned], laidTests := true, laidLooks := .later }
def FnExactRequestOfUptoCardSaid : Prop := Claim7.holds Tryz.pinned (.plain (OpenSpec.upto fnExactRequestOfSpec)) fnExactRequestOfUptoCard
end Rows
end Go.Proofs.YthdgeepedofleaaGreatDoor
