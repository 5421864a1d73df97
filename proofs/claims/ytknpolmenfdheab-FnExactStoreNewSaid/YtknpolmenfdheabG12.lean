/-
  Chapter 4: copies of stores (the specification's side).
-/
import Derived.Test.YtknpolmenfdheabG3
import Derived.Test.YtknpolmenfdheabG8
import Derived.Deep.RegionLawGrows
namespace Go.Proofs.Ytknpolmenfdheab
set_option linter.unusedVariables false
set_option linter.unusedSimpArgs false
open Go.RowKit
end Go.Proofs.Ytknpolmenfdheab
