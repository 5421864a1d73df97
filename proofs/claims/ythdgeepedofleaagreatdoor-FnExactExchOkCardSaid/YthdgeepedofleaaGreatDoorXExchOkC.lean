/-
  A closed fact of FnExactExchOk's card.
-/
import Derived.Test.YthdgeepedofleaaGreatDoorRows
import Derived.Test.YthdgeepedofleaaGreatDoorTie
import Derived.Test.YthdgeepedofleaaGreatDoorCards
import Derived.LaidMore
import Derived.Lay
import Derived.LaidLaws
import Derived.SevenTiedAt
import Derived.Stop.Joined
namespace Go.Proofs.YthdgeepedofleaaGreatDoor
theorem fnExactExchOk_wf : Rows.fnExactExchOkRow.wfByText (OpenSpec.ofChange Rows.fnExactExchOkSpec) = true := by kernel_rfl
end Go.Proofs.YthdgeepedofleaaGreatDoor
