/-
  DERIVED. GIVEN WITH THE SEED: THE CARDS: each row of YtknpolmenfdheaaDoorRows.lean that lists a variable, with what it lists TIED to the program's text (the seventh form; the later family's looks); each row that meets fmt, with fmt's text TOLD by the authors' own Lean function (tested against real Go, not proved from fmt's source: count such statements apart). THE CARD IS WHAT COUNTS. Prove the row's statement (the work); the ties are given (YtknpolmenfdheaaDoorTie.lean); close each card by the builder's one call (the guide's Derived/Test/ToyasCard.lean, 'card_holds'). Laid BY PROGRAM, IN A SANDBOX (cutbox-door.mjs). By AI agents, Wed Nov 11 2026. No macro, syntax, notation, axiom, sorry.
-/
import Derived.Test.YtknpolmenfdheaaDoorRows
import GoSem.ClaimSeven
namespace Go.Proofs.YtknpolmenfdheaaDoor
namespace Rows

/-- THE TIED CARD OF 'laws.FnAppends'. -/
def fnAppendsCard : Claim7 := { stood := { row := fnAppendsRow, standIns := [], harness := (true, "0f7af4fc17f162a7354c30615f2bfc8ac3c87b5f729e7f6eec1c41bedda9d1ce"), looks := true }, kinds := [], alts := [], laidByText := true, laidKinds := [.handle], laidTests := true, laidLooks := .later }
def FnAppendsCardSaid : Prop := Claim7.holds Tryd.pinned (.plain (OpenSpec.ofChange fnAppendsSpec)) fnAppendsCard

/-- THE TIED CARD OF 'laws.FnCrashes'. -/
def fnCrashesCard : Claim7 := { stood := { row := fnCrashesRow, standIns := [], harness := (true, "0f7af4fc17f162a7354c30615f2bfc8ac3c87b5f729e7f6eec1c41bedda9d1ce"), looks := true }, kinds := [], alts := [], laidByText := true, laidKinds := [.handle], laidTests := true, laidLooks := .later }
def FnCrashesCardSaid : Prop := Claim7.holds Tryd.pinned (.plain (OpenSpec.ofChange fnCrashesSpec)) fnCrashesCard

/-- THE TIED CARD OF 'laws.FnRolls'. -/
def fnRollsCard : Claim7 := { stood := { row := fnRollsRow, standIns := [], harness := (true, "0f7af4fc17f162a7354c30615f2bfc8ac3c87b5f729e7f6eec1c41bedda9d1ce"), looks := true }, kinds := [], alts := [], laidByText := true, laidKinds := [.handle], laidTests := true, laidLooks := .later }
def FnRollsCardSaid : Prop := Claim7.holds Tryd.pinned (.plain (OpenSpec.ofChange fnRollsSpec)) fnRollsCard

/-- THE TIED CARD OF 'laws.FnCuts'. -/
def fnCutsCard : Claim7 := { stood := { row := fnCutsRow, standIns := [], harness := (true, "0f7af4fc17f162a7354c30615f2bfc8ac3c87b5f729e7f6eec1c41bedda9d1ce"), looks := true }, kinds := [], alts := [], laidByText := true, laidKinds := [.handle], laidTests := true, laidLooks := .later }
def FnCutsCardSaid : Prop := Claim7.holds Tryd.pinned (.plain (OpenSpec.ofChange fnCutsSpec)) fnCutsCard

/-- THE SECOND FORM's CARD OF 'laws.FnAppends'. -/
def fnAppendsUptoCard : Claim7 := { stood := { row := fnAppendsUptoRow, standIns := [], harness := (true, "0f7af4fc17f162a7354c30615f2bfc8ac3c87b5f729e7f6eec1c41bedda9d1ce"), looks := true }, kinds := [], alts := [], laidByText := true, laidKinds := [.handle], laidTests := true, laidLooks := .later }
def FnAppendsUptoCardSaid : Prop := Claim7.holds Tryd.pinned (.plain (OpenSpec.upto fnAppendsSpec)) fnAppendsUptoCard

/-- THE SECOND FORM's CARD OF 'laws.FnCrashes'. -/
def fnCrashesUptoCard : Claim7 := { stood := { row := fnCrashesUptoRow, standIns := [], harness := (true, "0f7af4fc17f162a7354c30615f2bfc8ac3c87b5f729e7f6eec1c41bedda9d1ce"), looks := true }, kinds := [], alts := [], laidByText := true, laidKinds := [.handle], laidTests := true, laidLooks := .later }
def FnCrashesUptoCardSaid : Prop := Claim7.holds Tryd.pinned (.plain (OpenSpec.upto fnCrashesSpec)) fnCrashesUptoCard

/-- THE SECOND FORM's CARD OF 'laws.FnRolls'. -/
def fnRollsUptoCard : Claim7 := { stood := { row := fnRollsUptoRow, standIns := [], harness := (true, "0f7af4fc17f162a7354c30615f2bfc8ac3c87b5f729e7f6eec1c41bedda9d1ce"), looks := true }, kinds := [], alts := [], laidByText := true, laidKinds := [.handle], laidTests := true, laidLooks := .later }
def FnRollsUptoCardSaid : Prop := Claim7.holds Tryd.pinned (.plain (OpenSpec.upto fnRollsSpec)) fnRollsUptoCard

/-- THE SECOND FORM's CARD OF 'laws.FnCuts'. -/
def fnCutsUptoCard : Claim7 := { stood := { row := fnCutsUptoRow, standIns := [], harness := (true, "0f7af4fc17f162a7354c30615f2bfc8ac3c87b5f729e7f6eec1c41bedda9d1ce"), looks := true }, kinds := [], alts := [], laidByText := true, laidKinds := [.handle], laidTests := true, laidLooks := .later }
def FnCutsUptoCardSaid : Prop := Claim7.holds Tryd.pinned (.plain (OpenSpec.upto fnCutsSpec)) fnCutsUptoCard
end Rows
end Go.Proofs.YtknpolmenfdheaaDoor
