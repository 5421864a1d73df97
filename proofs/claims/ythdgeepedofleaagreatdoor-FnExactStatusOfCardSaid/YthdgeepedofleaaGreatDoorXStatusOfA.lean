/-
  A closed fact of FnExactStatusOf's row.
-/
import Derived.Test.YthdgeepedofleaaGreatDoorRows
import Derived.Test.YthdgeepedofleaaGreatDoorTie
import Derived.Test.YthdgeepedofleaaGreatDoorCards
import Derived.LaidMore
import Derived.Lay
import Derived.LaidLaws
import Derived.SevenTiedAt
import Derived.Stop.Joined
namespace Go.Proofs.YthdgeepedofleaaGreatDoor
theorem fnExactStatusOf_closed : joinedFacts Tryz.checked.prog 7 Tryz.f7 Rows.fnExactStatusOfSpec Rows.fnExactStatusOfRow = true := by kernel_rfl
end Go.Proofs.YthdgeepedofleaaGreatDoor
