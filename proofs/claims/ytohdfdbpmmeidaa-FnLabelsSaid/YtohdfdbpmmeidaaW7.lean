/-
  The walks over chapter 1: Quote.
-/
import Derived.Test.YtohdfdbpmmeidaaA8
import Derived.Test.YtohdfdbpmmeidaaM7
namespace Go.Proofs.Ytohdfdbpmmeidaa
set_option linter.unusedVariables false
set_option linter.unusedSimpArgs false
open Go.RowKit

theorem ret_sb {s t : ByteArray} {a b : Bool} (h : t = s) (h' : b = a) : Ending.returned (.tuple #[.string s, .bool a]) = .returned (.tuple #[.string t, .bool b]) := by rw [h, h']
end Go.Proofs.Ytohdfdbpmmeidaa
