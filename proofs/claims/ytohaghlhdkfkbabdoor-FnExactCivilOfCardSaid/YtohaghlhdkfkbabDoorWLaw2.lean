/-
  laws.eqCivil, at two that are the same.
-/
import Derived.Test.YtohaghlhdkfkbabDoorWC2
namespace Go.Proofs.YtohaghlhdkfkbabDoor
set_option linter.unusedVariables false
set_option linter.unusedSimpArgs false
open Go.RowKit
set_option maxHeartbeats 2000000 in
theorem eqCivil_same (y m d h i s : Int) (w : World) :
    Calls Tryd.prog 13 #[civ y m d h i s, civ y m d h i s] w fun e w' => e = .returned (.bool true) ∧ Below w.heap.size w w' := by
  go_enter Tryd.func13, Tryd.ntmps13
  go_wp2
  go_ret
  exact ⟨rfl, below_a2 _ _ _⟩
end Go.Proofs.YtohaghlhdkfkbabDoor
