/-
  The walks over chapter 1: ReadDec.
-/
import Derived.Test.YtffjpidjhcnnmaaW4
namespace Go.Proofs.Ytffjpidjhcnnmaa
set_option linter.unusedVariables false
set_option linter.unusedSimpArgs false
open Go.RowKit

def rdecN (s : ByteArray) : Int := ((rdec s).getD 0 : Nat)
def rdecOk (s : ByteArray) : Bool := (rdec s).isSome
theorem rdec_none {s : ByteArray} (h : rdec s = none) : rdecN s = 0 ∧ rdecOk s = false := by simp [rdecN, rdecOk, h]
theorem rdec_some {s : ByteArray} {u : Nat} (h : rdec s = some u) : rdecN s = (u : Int) ∧ rdecOk s = true := by simp [rdecN, rdecOk, h]
theorem ret_ib {k : IntKind} {n m : Int} {a b : Bool} (h : m = n) (h' : b = a) : Ending.returned (.tuple #[.int k n, .bool a]) = .returned (.tuple #[.int k m, .bool b]) := by rw [h, h']

end Go.Proofs.Ytffjpidjhcnnmaa
