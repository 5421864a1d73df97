/-
  The row of FnExactStatusOf.
-/
import Derived.Test.YthdgeepedofleaaGreatDoorRows
import Derived.Test.YthdgeepedofleaaGreatDoorTie
import Derived.Test.YthdgeepedofleaaGreatDoorCards
import Derived.Test.YthdgeepedofleaaGreatDoorJ14
import Derived.Test.YthdgeepedofleaaGreatDoorJ9
import Derived.Test.YthdgeepedofleaaGreatDoorJ15
import Derived.LaidMore
import Derived.Lay
import Derived.LaidLaws
import Derived.SevenTiedAt
import Derived.Stop.Joined
import Derived.Test.YthdgeepedofleaaGreatDoorXStatusOfL
import Derived.Test.YthdgeepedofleaaGreatDoorXStatusOfA
import Derived.Test.YthdgeepedofleaaGreatDoorXStatusOfB
namespace Go.Proofs.YthdgeepedofleaaGreatDoor
open Go.ChangeShapes Go.WideShapes Go.ChangeAt Go.RowKit
open Go.ChangeMaps (open_string shut_string)
theorem fnExactStatusOf_row : Rows.FnExactStatusOfSaid :=
  OpenClaim.holds_of_wide 7 Tryz.f7 rfl rfl rfl rfl rfl rfl rfl ⟨rfl, rfl, rfl, rfl, rfl⟩ rfl rfl rfl rfl rfl fnExactStatusOf_named Tryz.func7 fnExactStatusOf_closed
    (of_decide_eq_true (by kernel_rfl)) (by unfold Func.isWrapper; first | (rw [if_pos (by decide +kernel)]; kernel_rfl) | (rw [if_neg (by decide +kernel)]; exact ⟨rfl, rfl⟩))
    (fun os started H enc _ => fnExactStatusOf_lifted os started H enc)
end Go.Proofs.YthdgeepedofleaaGreatDoor
