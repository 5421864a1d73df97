/-
  DERIVED. GIVEN WITH THE SEED: THE CARDS: each row of YtpjjgdhcidngfaaDoorRows.lean that lists a variable, with what it lists TIED to the program's text (the seventh form; the later family's looks); each row that meets fmt, with fmt's text TOLD by the authors' own Lean function (tested against real Go, not proved from fmt's source: count such statements apart). THE CARD IS WHAT COUNTS. Prove the row's statement (the work); the ties are given (YtpjjgdhcidngfaaDoorTie.lean); close each card by the builder's one call (the guide's Derived/Test/ToyasCard.lean, 'card_holds'). Laid BY PROGRAM, IN A SANDBOX (cutbox-door.mjs). By AI agents, Wed Nov 11 2026. No macro, syntax, notation, axiom, sorry.
-/
import Derived.Test.YtpjjgdhcidngfaaDoorRows
import GoSem.ClaimSeven
namespace Go.Proofs.YtpjjgdhcidngfaaDoor
namespace Rows

/-- THE TIED CARD OF 'laws.FnDecs'. -/
def fnDecsCard : Claim7 := { stood := { row := fnDecsRow, standIns := [], harness := (true, "dfcf58c0fcbf50e54aa8488cc5e6a5e8e59c4e50295a15487cd1d9e113d9793b"), looks := false }, kinds := [], alts := [], laidByText := true, laidKinds := [.data, .data, .data], laidTests := true, laidLooks := .later }
def FnDecsCardSaid : Prop := Claim7.holds Tryd.pinned (.plain (OpenSpec.ofChange fnDecsSpec)) fnDecsCard

/-- THE TIED CARD OF 'laws.FnHexes'. -/
def fnHexesCard : Claim7 := { stood := { row := fnHexesRow, standIns := [], harness := (true, "dfcf58c0fcbf50e54aa8488cc5e6a5e8e59c4e50295a15487cd1d9e113d9793b"), looks := false }, kinds := [], alts := [], laidByText := true, laidKinds := [.data, .data, .data], laidTests := true, laidLooks := .later }
def FnHexesCardSaid : Prop := Claim7.holds Tryd.pinned (.plain (OpenSpec.ofChange fnHexesSpec)) fnHexesCard

/-- THE SECOND FORM's CARD OF 'laws.FnDecs'. -/
def fnDecsUptoCard : Claim7 := { stood := { row := fnDecsUptoRow, standIns := [], harness := (true, "dfcf58c0fcbf50e54aa8488cc5e6a5e8e59c4e50295a15487cd1d9e113d9793b"), looks := false }, kinds := [], alts := [], laidByText := true, laidKinds := [.data, .data, .data], laidTests := true, laidLooks := .later }
def FnDecsUptoCardSaid : Prop := Claim7.holds Tryd.pinned (.plain (OpenSpec.upto fnDecsSpec)) fnDecsUptoCard

/-- THE SECOND FORM's CARD OF 'laws.FnHexes'. -/
def fnHexesUptoCard : Claim7 := { stood := { row := fnHexesUptoRow, standIns := [], harness := (true, "dfcf58c0fcbf50e54aa8488cc5e6a5e8e59c4e50295a15487cd1d9e113d9793b"), looks := false }, kinds := [], alts := [], laidByText := true, laidKinds := [.data, .data, .data], laidTests := true, laidLooks := .later }
def FnHexesUptoCardSaid : Prop := Claim7.holds Tryd.pinned (.plain (OpenSpec.upto fnHexesSpec)) fnHexesUptoCard
end Rows
end Go.Proofs.YtpjjgdhcidngfaaDoor
