/-
  Chapter 5: may they all stand in a head? A field as a line. Both sides.
-/
import Derived.Test.YtaelopjalfapgacF2
import Derived.Lib.AppendStr
import Derived.Lib.SmallJoins
namespace Go.Proofs.Ytaelopjalfapgac
set_option linter.unusedVariables false
set_option linter.unusedSimpArgs false
open Go.RowKit
/-- A field as a line. -/
def lineF (x : Fd) : ByteArray := ⟨(x.1.data.toList ++ [58, 32] ++ x.2.data.toList).toArray⟩
def ftextB (x : Fd) : ByteArray := if fieldQ x = true then lineF x else ⟨#[]⟩
theorem lineF_eq1 (d s : ByteArray) : d ++ ⟨#[58]⟩ ++ ⟨#[32]⟩ ++ s = lineF (d, s) := by
  apply bytes_ext
  simp [lineF, Go.Joins.data_append]
theorem lineF_eq2 (d s : ByteArray) : d ++ ⟨#[58, 32]⟩ ++ s = lineF (d, s) := by
  apply bytes_ext
  simp [lineF, Go.Joins.data_append]
end Go.Proofs.Ytaelopjalfapgac
