/-
  The walks over chapter 1: gaps, digits, Trim.
-/
import Derived.Test.YtffjpidjhcnnmaaW1
import Derived.Test.YtffjpidjhcnnmaaM2
namespace Go.Proofs.Ytffjpidjhcnnmaa
set_option linter.unusedVariables false
set_option linter.unusedSimpArgs false
open Go.RowKit

theorem gapP_yes1 {n : Int} (h : (n == 32) = true) : gapP n = true := by simp [gapP, h]
theorem gapP_no1 {n : Int} (h : (n == 32) = false) : gapP n = (n == 9) := by simp [gapP, h]
theorem digP_no1 {n : Int} (h : ¬ 48 ≤ n) : digP n = false := by simp [digP, h]
theorem digP_yes1 {n : Int} (h : 48 ≤ n) : digP n = decide (n ≤ 57) := by simp [digP, h]

end Go.Proofs.Ytffjpidjhcnnmaa
