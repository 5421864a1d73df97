/-
  Chapter 4: AllBytes, Used, Loose, StoreNew, ReadAt (the specification's side).
-/
import Derived.Test.YtknpolmenfdheacDoorG3
import Derived.Test.YtknpolmenfdheacDoorG5
namespace Go.Proofs.YtknpolmenfdheacDoor
set_option linter.unusedVariables false
set_option linter.unusedSimpArgs false
open Go.RowKit
end Go.Proofs.YtknpolmenfdheacDoor
