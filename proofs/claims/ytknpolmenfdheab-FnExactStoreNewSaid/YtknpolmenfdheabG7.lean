/-
  Chapter 4: ownStore, storeCode: a store of the call's own; what refuses.
-/
import Derived.Test.YtknpolmenfdheabG5
import Derived.Test.YtknpolmenfdheabG6
import Derived.BigRegion
import Derived.Deep.RegionWith
namespace Go.Proofs.Ytknpolmenfdheab
set_option linter.unusedVariables false
set_option linter.unusedSimpArgs false
open Go.RowKit
/-- No store: the zero value. -/
def noStore : Value := .agg #[.slice none 0 0, .int .i64 0]
end Go.Proofs.Ytknpolmenfdheab
