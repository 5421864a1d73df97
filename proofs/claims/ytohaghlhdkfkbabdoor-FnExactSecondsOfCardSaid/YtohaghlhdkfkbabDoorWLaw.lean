/-
  laws.toCivil.
-/
import Derived.Test.YtohaghlhdkfkbabDoorWC2
namespace Go.Proofs.YtohaghlhdkfkbabDoor
set_option linter.unusedVariables false
set_option linter.unusedSimpArgs false
open Go.RowKit
set_option maxHeartbeats 2000000 in
theorem toCivil_any (y m d h i s : Int) (w : World) :
    Calls Tryd.prog 9 #[civ y m d h i s] w fun e w' => e = .returned (civ y m d h i s) ∧ Below w.heap.size w w' := by
  go_enter Tryd.func9, Tryd.ntmps9
  go_wp2
  refine bodyPost_ret (v := civ y m d h i s) (by simp [results, Tryd.results9, go_sem]) rfl ⟨rfl, ?_⟩
  exact below_a3 _ _ _ _
end Go.Proofs.YtohaghlhdkfkbabDoor
