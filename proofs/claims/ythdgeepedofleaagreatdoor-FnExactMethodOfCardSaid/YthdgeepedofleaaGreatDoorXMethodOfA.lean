/-
  A closed fact of FnExactMethodOf's row.
-/
import Derived.Test.YthdgeepedofleaaGreatDoorRows
import Derived.Test.YthdgeepedofleaaGreatDoorTie
import Derived.Test.YthdgeepedofleaaGreatDoorCards
import Derived.LaidMore
import Derived.Lay
import Derived.LaidLaws
import Derived.SevenTiedAt
import Derived.Stop.Joined
namespace Go.Proofs.YthdgeepedofleaaGreatDoor
theorem fnExactMethodOf_closed : joinedFacts Tryz.checked.prog 6 Tryz.f6 Rows.fnExactMethodOfSpec Rows.fnExactMethodOfRow = true := by kernel_rfl
end Go.Proofs.YthdgeepedofleaaGreatDoor
