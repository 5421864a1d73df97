/-
  The walks over chapter 2: spec.CivilOk.
-/
import Derived.Test.YtohaghlhdkfkbabWC2
namespace Go.Proofs.Ytohaghlhdkfkbab
set_option linter.unusedVariables false
set_option linter.unusedSimpArgs false
open Go.RowKit

end Go.Proofs.Ytohaghlhdkfkbab
