/-
  Chapter 4: Sync, Append, Crash, Cut, Roll (the specification's side).
-/
import Derived.Test.YtknpolmenfdheabG12
import Derived.Test.YtknpolmenfdheabG9
import Derived.Test.YtknpolmenfdheabG10
import Derived.Test.YtknpolmenfdheabG11
namespace Go.Proofs.Ytknpolmenfdheab
set_option linter.unusedVariables false
set_option linter.unusedSimpArgs false
open Go.RowKit
end Go.Proofs.Ytknpolmenfdheab
