/-
  Chapter 4: Roll (the specification's side).
-/
import Derived.Test.YtknpolmenfdheabDoorG13
namespace Go.Proofs.YtknpolmenfdheabDoor
set_option linter.unusedVariables false
set_option linter.unusedSimpArgs false
open Go.RowKit
end Go.Proofs.YtknpolmenfdheabDoor
