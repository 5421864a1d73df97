/-
  The walks over chapter 1: ReadHex.
-/
import Derived.Test.YtffjpidjhcnnmabDoorW2
import Derived.Test.YtffjpidjhcnnmabDoorM6
namespace Go.Proofs.YtffjpidjhcnnmabDoor
set_option linter.unusedVariables false
set_option linter.unusedSimpArgs false
open Go.RowKit

theorem ret_ib6 {k : IntKind} {n m : Int} {a b : Bool} (h : m = n) (h' : b = a) : Ending.returned (.tuple #[.int k n, .bool a]) = .returned (.tuple #[.int k m, .bool b]) := by rw [h, h']
theorem hexV_neg {n : Int} (h : hexV n < 0) : digP n = false ∧ (lowI n < 97 ∨ 102 < lowI n) := by
  unfold hexV at h
  split at h
  · rename_i hd; rw [digP_iff] at hd; omega
  · rename_i hd
    split at h
    · omega
    · exact ⟨by simpa using hd, by omega⟩
theorem hexV_pos {n : Int} (h : 0 ≤ hexV n) : (digP n = true ∧ hexV n = n - 48) ∨ (digP n = false ∧ 97 ≤ lowI n ∧ lowI n ≤ 102 ∧ hexV n = lowI n - 87) := by
  cases hd : digP n
  · right
    by_cases hl : 97 ≤ lowI n ∧ lowI n ≤ 102
    · exact ⟨rfl, hl.1, hl.2, hexV_let hd hl.1 hl.2⟩
    · rw [hexV_no hd (by omega)] at h; omega
  · left; exact ⟨rfl, hexV_dig hd⟩
end Go.Proofs.YtffjpidjhcnnmabDoor
