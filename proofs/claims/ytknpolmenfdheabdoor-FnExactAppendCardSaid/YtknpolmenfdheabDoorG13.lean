/-
  Chapter 4: Sync, Append, Crash, Cut, Roll (the specification's side).
-/
import Derived.Test.YtknpolmenfdheabDoorG12
import Derived.Test.YtknpolmenfdheabDoorG9
import Derived.Test.YtknpolmenfdheabDoorG10
import Derived.Test.YtknpolmenfdheabDoorG11
namespace Go.Proofs.YtknpolmenfdheabDoor
set_option linter.unusedVariables false
set_option linter.unusedSimpArgs false
open Go.RowKit
end Go.Proofs.YtknpolmenfdheabDoor
