/-
  The walks over the drawing functions of chapter 1.
-/
import Derived.Test.YtefhpjipcdmbaabGreatDoorWD3
import Derived.Test.YtefhpjipcdmbaabGreatDoorW1b
namespace Go.Proofs.YtefhpjipcdmbaabGreatDoor
set_option linter.unusedVariables false
set_option linter.unusedSimpArgs false
open Go.RowKit

/-- What the laws tell of their code. -/
structure Code (w : World) (a : Option Addr) (len : Nat) : Prop where
  row : CodeRow w w.heap.size a len
  max : len ≤ maxLen
theorem Code.later {w w' : World} {a : Option Addr} {len : Nat} (h : Code w a len) (hb : Below w.heap.size w w') : Code w' a len := ⟨h.row.later hb, h.max⟩

end Go.Proofs.YtefhpjipcdmbaabGreatDoor
