/-
  A closed fact of FnExactStatusOf's card.
-/
import Derived.Test.YthdgeepedofleaaGreatDoorRows
import Derived.Test.YthdgeepedofleaaGreatDoorTie
import Derived.Test.YthdgeepedofleaaGreatDoorCards
import Derived.LaidMore
import Derived.Lay
import Derived.LaidLaws
import Derived.SevenTiedAt
import Derived.Stop.Joined
namespace Go.Proofs.YthdgeepedofleaaGreatDoor
theorem fnExactStatusOf_looks : true = Tryz.checked.prog.looks [] := by kernel_rfl
end Go.Proofs.YthdgeepedofleaaGreatDoor
