/-
  DERIVED. GIVEN WITH THE SEED: THE CARDS: each row of YtbdggopdhnlbfaaDoorRows.lean that lists a variable, with what it lists TIED to the program's text (the seventh form; the later family's looks); each row that meets fmt, with fmt's text TOLD by the authors' own Lean function (tested against real Go, not proved from fmt's source: count such statements apart). THE CARD IS WHAT COUNTS. Prove the row's statement (the work); the ties are given (YtbdggopdhnlbfaaDoorTie.lean); close each card by the builder's one call (the guide's Derived/Test/ToyasCard.lean, 'card_holds'). Laid BY PROGRAM, IN A SANDBOX (cutbox-door.mjs). By AI agents, Wed Nov 11 2026. No macro, syntax, notation, axiom, sorry.
-/
import Derived.Test.YtbdggopdhnlbfaaDoorRows
import GoSem.ClaimSeven
namespace Go.Proofs.YtbdggopdhnlbfaaDoor
namespace Rows

/-- THE TIED CARD OF 'laws.FnAppends'. -/
def fnAppendsCard : Claim7 := { stood := { row := fnAppendsRow, standIns := [], harness := (true, "b878e3371994f45a00128221fc6dafd8b56fc37097d4628f486188b5e3b15f59"), looks := true }, kinds := [], alts := [], laidByText := true, laidKinds := [.handle], laidTests := true, laidLooks := .later }
def FnAppendsCardSaid : Prop := Claim7.holds Tryd.pinned (.plain (OpenSpec.ofChange fnAppendsSpec)) fnAppendsCard

/-- THE TIED CARD OF 'laws.FnCrashes'. -/
def fnCrashesCard : Claim7 := { stood := { row := fnCrashesRow, standIns := [], harness := (true, "b878e3371994f45a00128221fc6dafd8b56fc37097d4628f486188b5e3b15f59"), looks := true }, kinds := [], alts := [], laidByText := true, laidKinds := [.handle], laidTests := true, laidLooks := .later }
def FnCrashesCardSaid : Prop := Claim7.holds Tryd.pinned (.plain (OpenSpec.ofChange fnCrashesSpec)) fnCrashesCard

/-- THE TIED CARD OF 'laws.FnRolls'. -/
def fnRollsCard : Claim7 := { stood := { row := fnRollsRow, standIns := [], harness := (true, "b878e3371994f45a00128221fc6dafd8b56fc37097d4628f486188b5e3b15f59"), looks := true }, kinds := [], alts := [], laidByText := true, laidKinds := [.handle], laidTests := true, laidLooks := .later }
def FnRollsCardSaid : Prop := Claim7.holds Tryd.pinned (.plain (OpenSpec.ofChange fnRollsSpec)) fnRollsCard

/-- THE TIED CARD OF 'laws.FnFieldLines'. -/
def fnFieldLinesCard : Claim7 := { stood := { row := fnFieldLinesRow, standIns := [], harness := (true, "b878e3371994f45a00128221fc6dafd8b56fc37097d4628f486188b5e3b15f59"), looks := true }, kinds := [], alts := [], laidByText := true, laidKinds := [.data], laidTests := true, laidLooks := .later }
def FnFieldLinesCardSaid : Prop := Claim7.holds Tryd.pinned (.plain (OpenSpec.ofChange fnFieldLinesSpec)) fnFieldLinesCard

/-- THE TIED CARD OF 'laws.FnWiths'. -/
def fnWithsCard : Claim7 := { stood := { row := fnWithsRow, standIns := [], harness := (true, "b878e3371994f45a00128221fc6dafd8b56fc37097d4628f486188b5e3b15f59"), looks := true }, kinds := [], alts := [], laidByText := true, laidKinds := [.data], laidTests := true, laidLooks := .later }
def FnWithsCardSaid : Prop := Claim7.holds Tryd.pinned (.plain (OpenSpec.ofChange fnWithsSpec)) fnWithsCard

/-- THE SECOND FORM's CARD OF 'laws.FnAppends'. -/
def fnAppendsUptoCard : Claim7 := { stood := { row := fnAppendsUptoRow, standIns := [], harness := (true, "b878e3371994f45a00128221fc6dafd8b56fc37097d4628f486188b5e3b15f59"), looks := true }, kinds := [], alts := [], laidByText := true, laidKinds := [.handle], laidTests := true, laidLooks := .later }
def FnAppendsUptoCardSaid : Prop := Claim7.holds Tryd.pinned (.plain (OpenSpec.upto fnAppendsSpec)) fnAppendsUptoCard

/-- THE SECOND FORM's CARD OF 'laws.FnCrashes'. -/
def fnCrashesUptoCard : Claim7 := { stood := { row := fnCrashesUptoRow, standIns := [], harness := (true, "b878e3371994f45a00128221fc6dafd8b56fc37097d4628f486188b5e3b15f59"), looks := true }, kinds := [], alts := [], laidByText := true, laidKinds := [.handle], laidTests := true, laidLooks := .later }
def FnCrashesUptoCardSaid : Prop := Claim7.holds Tryd.pinned (.plain (OpenSpec.upto fnCrashesSpec)) fnCrashesUptoCard

/-- THE SECOND FORM's CARD OF 'laws.FnRolls'. -/
def fnRollsUptoCard : Claim7 := { stood := { row := fnRollsUptoRow, standIns := [], harness := (true, "b878e3371994f45a00128221fc6dafd8b56fc37097d4628f486188b5e3b15f59"), looks := true }, kinds := [], alts := [], laidByText := true, laidKinds := [.handle], laidTests := true, laidLooks := .later }
def FnRollsUptoCardSaid : Prop := Claim7.holds Tryd.pinned (.plain (OpenSpec.upto fnRollsSpec)) fnRollsUptoCard

/-- THE SECOND FORM's CARD OF 'laws.FnFieldLines'. -/
def fnFieldLinesUptoCard : Claim7 := { stood := { row := fnFieldLinesUptoRow, standIns := [], harness := (true, "b878e3371994f45a00128221fc6dafd8b56fc37097d4628f486188b5e3b15f59"), looks := true }, kinds := [], alts := [], laidByText := true, laidKinds := [.data], laidTests := true, laidLooks := .later }
def FnFieldLinesUptoCardSaid : Prop := Claim7.holds Tryd.pinned (.plain (OpenSpec.upto fnFieldLinesSpec)) fnFieldLinesUptoCard

/-- THE SECOND FORM's CARD OF 'laws.FnWiths'. -/
def fnWithsUptoCard : Claim7 := { stood := { row := fnWithsUptoRow, standIns := [], harness := (true, "b878e3371994f45a00128221fc6dafd8b56fc37097d4628f486188b5e3b15f59"), looks := true }, kinds := [], alts := [], laidByText := true, laidKinds := [.data], laidTests := true, laidLooks := .later }
def FnWithsUptoCardSaid : Prop := Claim7.holds Tryd.pinned (.plain (OpenSpec.upto fnWithsSpec)) fnWithsUptoCard
end Rows
end Go.Proofs.YtbdggopdhnlbfaaDoor
