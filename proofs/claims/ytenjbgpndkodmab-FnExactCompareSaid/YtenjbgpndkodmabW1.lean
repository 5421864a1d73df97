/-
  The walks over chapter 1's small functions.
-/
import Derived.Test.YtenjbgpndkodmabProg
import Derived.Test.YtenjbgpndkodmabM1
import Derived.Lib.ConvBytes
import Derived.Laws.IdiomStrings
import Derived.Laws.BytesArg
namespace Go.Proofs.Ytenjbgpndkodmab
set_option linter.unusedVariables false
set_option linter.unusedSimpArgs false
open Go.RowKit

end Go.Proofs.Ytenjbgpndkodmab
