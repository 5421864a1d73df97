/-
  FnExactMethodOf: at every argument impl.MethodOf answers as spec.MethodOf, and writes into no argument. The condition: the listed tables hold what the program's text lays (the card ties them); what is greater than 2^20 is passed by the law itself.
-/
import Derived.Test.YthdgeepedofleaaGreatDoorRows
import Derived.Test.YthdgeepedofleaaGreatDoorTie
import Derived.Test.YthdgeepedofleaaGreatDoorCards
import Derived.Test.YthdgeepedofleaaGreatDoorJ14
import Derived.Test.YthdgeepedofleaaGreatDoorJ9
import Derived.Test.YthdgeepedofleaaGreatDoorJ15
import Derived.LaidMore
import Derived.Lay
import Derived.LaidLaws
import Derived.SevenTiedAt
import Derived.Stop.Joined
import Derived.Test.YthdgeepedofleaaGreatDoorXMethodOfR
import Derived.Test.YthdgeepedofleaaGreatDoorXMethodOfC
import Derived.Test.YthdgeepedofleaaGreatDoorXMethodOfD
import Derived.Test.YthdgeepedofleaaGreatDoorXMethodOfE
namespace Go.Proofs.YthdgeepedofleaaGreatDoor
open Go.ChangeShapes Go.WideShapes Go.ChangeAt Go.RowKit
open Go.ChangeMaps (open_string shut_string)
/-- THE STATEMENT: the card. -/
theorem fnExactMethodOf_holds : Rows.FnExactMethodOfCardSaid :=
  Claim7.holds_tied_plain_at .later [] [.data, .data, .data, .data, .pinned, .pinned] true (true, "de824cca6960d52520fdc22416c6cddc212bf86119cb931291ec639f906c682a") true
    fnExactMethodOf_row (fun _ h => by cases h) fnExactMethodOf_wf (fun _ h => by cases h) fnExactMethodOf_row_tie rfl ⟨rfl, rfl⟩ fnExactMethodOf_main rfl
    (fun f fn hf hfn => by
      obtain rfl : f = 6 := Option.some.inj ((show _ = some 6 from fnExactMethodOf_named).symm.trans hf) |>.symm
      obtain rfl : fn = Tryz.f6 := (Option.some.inj (Tryz.func6.symm.trans hfn)).symm
      exact ⟨fnExactMethodOf_looks, fun j t ht => by
        rw [Tryz.params6] at ht
        rcases j with _ | j
        · have h3 : t = 42 := by simpa using ht.symm
          subst h3
          exact (show Tryz.prog.wantsStandIn 42 = false by kernel_rfl)
        · simp at ht⟩)
    (by kernel_rfl)
#print axioms fnExactMethodOf_holds
end Go.Proofs.YthdgeepedofleaaGreatDoor
