/-
  Chapter 4: Crash, Append (the program's side).
-/
import Derived.Test.YtknpolmenfdheabG8
namespace Go.Proofs.Ytknpolmenfdheab
set_option linter.unusedVariables false
set_option linter.unusedSimpArgs false
open Go.RowKit
end Go.Proofs.Ytknpolmenfdheab
