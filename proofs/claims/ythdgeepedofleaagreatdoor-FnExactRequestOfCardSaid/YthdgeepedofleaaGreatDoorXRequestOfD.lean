/-
  A closed fact of FnExactRequestOf's card.
-/
import Derived.Test.YthdgeepedofleaaGreatDoorRows
import Derived.Test.YthdgeepedofleaaGreatDoorTie
import Derived.Test.YthdgeepedofleaaGreatDoorCards
import Derived.LaidMore
import Derived.Lay
import Derived.LaidLaws
import Derived.SevenTiedAt
import Derived.Stop.Joined
namespace Go.Proofs.YthdgeepedofleaaGreatDoor
theorem fnExactRequestOf_main : Tryz.checked.prog.mainIs = some (true, "de824cca6960d52520fdc22416c6cddc212bf86119cb931291ec639f906c682a".toList) := by kernel_rfl
end Go.Proofs.YthdgeepedofleaaGreatDoor
