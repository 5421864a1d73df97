/-
  Chapter 4: Roll (the specification's side).
-/
import Derived.Test.YtknpolmenfdheabG13
namespace Go.Proofs.Ytknpolmenfdheab
set_option linter.unusedVariables false
set_option linter.unusedSimpArgs false
open Go.RowKit
end Go.Proofs.Ytknpolmenfdheab
