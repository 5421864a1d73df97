/-
  Chapter 4: Roll (the specification's side).
-/
import Derived.Test.YtknpolmenfdheacG13
namespace Go.Proofs.Ytknpolmenfdheac
set_option linter.unusedVariables false
set_option linter.unusedSimpArgs false
open Go.RowKit
end Go.Proofs.Ytknpolmenfdheac
