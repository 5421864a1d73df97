/-
  The walks over chapter 2: CivilOk.
-/
import Derived.Test.YtaelopjalfapgacDoorWC1
namespace Go.Proofs.YtaelopjalfapgacDoor
set_option linter.unusedVariables false
set_option linter.unusedSimpArgs false
open Go.RowKit

/-- A day and hour as the program holds it. -/
abbrev civ (y m d h i s : Int) : Value := .agg #[.int .i64 y, .int .i64 m, .int .i64 d, .int .i64 h, .int .i64 i, .int .i64 s]
theorem vldB_eq (y m d h i s : Int) : vldB y m d h i s = (withinB y 1970 9999 && withinB m 1 12 && withinB h 0 23 && withinB i 0 59 && withinB s 0 59 && withinB d 1 (dim y m)) := by
  unfold vldB withinB
  rw [Bool.eq_iff_iff]
  simp only [decide_eq_true_eq, Bool.and_eq_true]
  omega
theorem within_iff {n a b : Int} : withinB n a b = true ↔ a ≤ n ∧ n ≤ b := by unfold withinB; simp

end Go.Proofs.YtaelopjalfapgacDoor
