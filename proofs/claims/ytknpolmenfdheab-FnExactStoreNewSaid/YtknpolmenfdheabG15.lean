/-
  Chapter 4: Append, Cut, Crash, Roll (the specification's side). Written by mkspecstore.py.
-/
import Derived.Test.YtknpolmenfdheabG13
import Derived.Test.YtknpolmenfdheabG14
namespace Go.Proofs.Ytknpolmenfdheab
set_option linter.unusedVariables false
set_option linter.unusedSimpArgs false
open Go.RowKit
end Go.Proofs.Ytknpolmenfdheab
