/-
  The walks over chapter 2: impl's SecondsOf, CivilOf, Weekday.
-/
import Derived.Test.YtaelopjalfapgacDoorWC2
namespace Go.Proofs.YtaelopjalfapgacDoor
set_option linter.unusedVariables false
set_option linter.unusedSimpArgs false
open Go.RowKit

def timeB (t : Int) : Bool := withinB t 0 253402300799
theorem timeB_iff {t : Int} : timeB t = true ↔ 0 ≤ t ∧ t ≤ 253402300799 := within_iff
theorem timeB_no {t : Int} (h : ¬ (0 ≤ t ∧ t ≤ 253402300799)) : timeB t = false := Bool.eq_false_iff.2 fun hh => h (timeB_iff.1 hh)
def lya (y : Int) : Int := (y - 1) / 4 - (y - 1) / 100 + (y - 1) / 400
theorem lya_1970 : lya 1970 = 477 := by decide
theorem lya_bd (y : Int) (h0 : 1 ≤ y) (h1 : y ≤ 20000) : 0 ≤ lya y ∧ lya y ≤ 20000 := by unfold lya; omega
theorem dby_lya (y : Int) : dby y = 365 * (y - 1970) + lya y - 477 := by unfold dby lya; omega
theorem dby_le (y : Int) (h : 1970 ≤ y) : dby y ≤ 366 * (y - 1970) := by unfold dby; omega
theorem ret_civ {a b c d e f a' b' c' d' e' f' : Int} (h0 : a = a') (h1 : b = b') (h2 : c = c') (h3 : d = d') (h4 : e = e') (h5 : f = f') (r : Bool) :
    Ending.returned (.tuple #[civ a b c d e f, .bool r]) = .returned (.tuple #[civ a' b' c' d' e' f', .bool r]) := by rw [h0, h1, h2, h3, h4, h5]
theorem ret_ib2 {k : IntKind} {n m : Int} {a b : Bool} (h : m = n) (h' : b = a) : Ending.returned (.tuple #[.int k n, .bool a]) = .returned (.tuple #[.int k m, .bool b]) := by rw [h, h']
/-- The day of the week, 0 for Monday. -/
def wdN (t : Int) : Nat := ((3 + t / 86400) % 7).toNat
theorem wdN_lt (t : Int) : wdN t < 7 := by unfold wdN; omega
theorem wdN_eq (t : Int) : ((wdN t : Nat) : Int) = (3 + t / 86400) % 7 := by unfold wdN; omega

end Go.Proofs.YtaelopjalfapgacDoor
