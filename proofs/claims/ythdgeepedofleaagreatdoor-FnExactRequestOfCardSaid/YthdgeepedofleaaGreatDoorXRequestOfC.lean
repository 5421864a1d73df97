/-
  A closed fact of FnExactRequestOf's card.
-/
import Derived.Test.YthdgeepedofleaaGreatDoorRows
import Derived.Test.YthdgeepedofleaaGreatDoorTie
import Derived.Test.YthdgeepedofleaaGreatDoorCards
import Derived.LaidMore
import Derived.Lay
import Derived.LaidLaws
import Derived.SevenTiedAt
import Derived.Stop.Joined
namespace Go.Proofs.YthdgeepedofleaaGreatDoor
theorem fnExactRequestOf_wf : Rows.fnExactRequestOfRow.wfByText (OpenSpec.ofChange Rows.fnExactRequestOfSpec) = true := by kernel_rfl
end Go.Proofs.YthdgeepedofleaaGreatDoor
