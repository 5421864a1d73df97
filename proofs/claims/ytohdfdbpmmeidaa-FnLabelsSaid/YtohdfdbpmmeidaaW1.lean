/-
  The walks over chapter 1's small functions.
-/
import Derived.Test.YtohdfdbpmmeidaaProg
import Derived.Test.YtohdfdbpmmeidaaM1
import Derived.Lib.ConvBytes
import Derived.Laws.IdiomStrings
import Derived.Laws.BytesArg
namespace Go.Proofs.Ytohdfdbpmmeidaa
set_option linter.unusedVariables false
set_option linter.unusedSimpArgs false
open Go.RowKit

end Go.Proofs.Ytohdfdbpmmeidaa
