/-
  The walks over chapter 1: Quote.
-/
import Derived.Test.YtffjpidjhcnnmabDoorA8
import Derived.Test.YtffjpidjhcnnmabDoorM7
namespace Go.Proofs.YtffjpidjhcnnmabDoor
set_option linter.unusedVariables false
set_option linter.unusedSimpArgs false
open Go.RowKit

theorem ret_sb {s t : ByteArray} {a b : Bool} (h : t = s) (h' : b = a) : Ending.returned (.tuple #[.string s, .bool a]) = .returned (.tuple #[.string t, .bool b]) := by rw [h, h']
set_option maxHeartbeats 400000 in
theorem plainByte_any (n : Int) (w : World) :
    Calls Tryd.prog 64 #[.int .u8 n] w fun e w' => e = .returned (.bool (plainP n)) ∧ w' = w := by
  cases h : (n == 9)
  · by_cases h2 : 32 ≤ n
    · rw [plainP_hi h h2]
      go_enter Tryd.func64, Tryd.ntmps64
      go_wp2
      go_ret
      exact ⟨rfl, rfl⟩
    · rw [plainP_lo h h2]
      have h3 : decide (32 ≤ n) = false := by simpa using h2
      go_enter Tryd.func64, Tryd.ntmps64
      go_wp2
      go_ret
      exact ⟨rfl, rfl⟩
  · rw [plainP_yes h]
    go_enter Tryd.func64, Tryd.ntmps64
    go_wp2
    go_ret
    exact ⟨rfl, rfl⟩
set_option maxHeartbeats 400000 in
theorem l1plain_any (n : Int) (w : World) :
    Calls Tryd.prog 25 #[.int .u8 n] w fun e w' => e = .returned (.bool (plainP n)) ∧ w' = w := by
  cases h : (n == 9)
  · by_cases h2 : 32 ≤ n
    · rw [plainP_hi h h2]
      go_enter Tryd.func25, Tryd.ntmps25
      go_wp2
      go_ret
      exact ⟨rfl, rfl⟩
    · rw [plainP_lo h h2]
      have h3 : decide (32 ≤ n) = false := by simpa using h2
      go_enter Tryd.func25, Tryd.ntmps25
      go_wp2
      go_ret
      exact ⟨rfl, rfl⟩
  · rw [plainP_yes h]
    go_enter Tryd.func25, Tryd.ntmps25
    go_wp2
    go_ret
    exact ⟨rfl, rfl⟩
end Go.Proofs.YtffjpidjhcnnmabDoor
