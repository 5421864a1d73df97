/-
  A closed fact of FnExactStatusOf's card.
-/
import Derived.Test.YthdgeepedofleaaGreatDoorRows
import Derived.Test.YthdgeepedofleaaGreatDoorTie
import Derived.Test.YthdgeepedofleaaGreatDoorCards
import Derived.LaidMore
import Derived.Lay
import Derived.LaidLaws
import Derived.SevenTiedAt
import Derived.Stop.Joined
namespace Go.Proofs.YthdgeepedofleaaGreatDoor
theorem fnExactStatusOf_wf : Rows.fnExactStatusOfRow.wfByText (OpenSpec.ofChange Rows.fnExactStatusOfSpec) = true := by kernel_rfl
end Go.Proofs.YthdgeepedofleaaGreatDoor
