/-
  errors.As at a target of type *storeError: nil, and an error that is a storeError (after the kit's worked text on errors.As).
-/
import Derived.Test.YtknpolmenfdheabBK
import Derived.WalkKit
import Derived.LaidEql
import Derived.Stop.Asserts
import Derived.RowKitTokens
namespace Go.Proofs.Ytknpolmenfdheab
set_option linter.unusedVariables false
set_option linter.unusedSimpArgs false
open Go.RowKit Go.Extern.Stop Go.Stop Go.Extern
end Go.Proofs.Ytknpolmenfdheab
