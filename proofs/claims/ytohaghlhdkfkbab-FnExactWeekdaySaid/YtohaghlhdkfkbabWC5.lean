/-
  The walks over chapter 2: spec's SecondsOf, CivilOf, Weekday.
-/
import Derived.Test.YtohaghlhdkfkbabWC3
import Derived.Test.YtohaghlhdkfkbabWC4
namespace Go.Proofs.Ytohaghlhdkfkbab
set_option linter.unusedVariables false
set_option linter.unusedSimpArgs false
open Go.RowKit

set_option maxHeartbeats 400000 in
theorem l2time_any (t : Int) (w : World) :
    Calls Try.prog 6 #[.int .i64 t] w fun e w' => e = .returned (.bool (timeB t)) ∧ w' = w := by
  by_cases h : 0 ≤ t
  · by_cases h' : t ≤ 253402300799
    · rw [show timeB t = true from timeB_iff.2 ⟨h, h'⟩]
      go_enter Try.func6, Try.ntmps6
      go_wp2
      go_ret
      exact ⟨rfl, rfl⟩
    · rw [show timeB t = false from timeB_no (by omega)]
      go_enter Try.func6, Try.ntmps6
      go_wp2
      go_ret
      exact ⟨rfl, rfl⟩
  · rw [show timeB t = false from timeB_no (by omega)]
    go_enter Try.func6, Try.ntmps6
    go_wp2
    go_ret
    exact ⟨rfl, rfl⟩
set_option maxHeartbeats 400000 in
theorem sWeekday_yes (t : Int) (w : World) (h0 : 0 ≤ t) (h1 : t ≤ 253402300799) :
    Calls Try.prog 4 #[.int .i64 t] w fun e w' => e = .returned (.int .i64 ((wdN t : Nat) : Int)) ∧ w' = w := by
  have ht : timeB t = true := timeB_iff.2 ⟨h0, h1⟩
  have hw : Hid (((wdN t : Nat) : Int) = (3 + t / 86400) % 7) := wdN_eq t
  go_enter Try.func4, Try.ntmps4
  go_wp2_with (go_at_call 6; refine (l2time_any _ _).mono ?_; rintro e w' ⟨rfl, rfl⟩)
  go_ret
  exact ⟨ret_int (by rw [hw.out]; congr 1; omega), rfl⟩
set_option maxHeartbeats 400000 in
theorem sWeekday_no (t : Int) (w : World) (h : ¬ (0 ≤ t ∧ t ≤ 253402300799)) :
    Calls Try.prog 4 #[.int .i64 t] w fun e w' => e = .returned (.int .i64 (-1)) ∧ w' = w := by
  have ht : timeB t = false := timeB_no h
  clear h
  go_enter Try.func4, Try.ntmps4
  go_wp2_with (go_at_call 6; refine (l2time_any _ _).mono ?_; rintro e w' ⟨rfl, rfl⟩)
  go_ret
  exact ⟨rfl, rfl⟩
end Go.Proofs.Ytohaghlhdkfkbab
