/-
  What a reader of dates hands back. No Go in sight.
-/
import Derived.Test.YtffjpidjhcnnmabDoorMR
namespace Go.Proofs.YtffjpidjhcnnmabDoor
set_option linter.unusedVariables false
set_option linter.unusedSimpArgs false
/-- What is read, where what is written again is x. -/
def rdT (a x : ByteArray) (t : Int) : Int := if eqB a x = true then t else 0
end Go.Proofs.YtffjpidjhcnnmabDoor
