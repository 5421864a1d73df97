/-
  A closed fact of FnExactRequestOf's row.
-/
import Derived.Test.YthdgeepedofleaaGreatDoorRows
import Derived.Test.YthdgeepedofleaaGreatDoorTie
import Derived.Test.YthdgeepedofleaaGreatDoorCards
import Derived.LaidMore
import Derived.Lay
import Derived.LaidLaws
import Derived.SevenTiedAt
import Derived.Stop.Joined
namespace Go.Proofs.YthdgeepedofleaaGreatDoor
theorem fnExactRequestOf_closed : joinedFacts Tryz.checked.prog 8 Tryz.f8 Rows.fnExactRequestOfSpec Rows.fnExactRequestOfRow = true := by kernel_rfl
end Go.Proofs.YthdgeepedofleaaGreatDoor
