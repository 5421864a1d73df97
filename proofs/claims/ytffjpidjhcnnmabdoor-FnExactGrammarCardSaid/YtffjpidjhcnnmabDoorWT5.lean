/-
  The walks over chapter 2: spec.LineDate.
-/
import Derived.Test.YtffjpidjhcnnmabDoorWT4
namespace Go.Proofs.YtffjpidjhcnnmabDoor
set_option linter.unusedVariables false
set_option linter.unusedSimpArgs false
open Go.RowKit
end Go.Proofs.YtffjpidjhcnnmabDoor
