/-
  The walks over chapter 1: cursors.
-/
import Derived.Test.YtffjpidjhcnnmabDoorProg
import Derived.Test.YtffjpidjhcnnmabDoorM9
namespace Go.Proofs.YtffjpidjhcnnmabDoor
set_option linter.unusedVariables false
set_option linter.unusedSimpArgs false
open Go.RowKit

theorem keep2 {W w1 : World} (hb : Below W.heap.size W w1) {b : Nat} {x y : Value} (h0 : W.cell? ⟨b, 0, none⟩ = some x) (h1 : W.cell? ⟨b, 1, none⟩ = some y) :
    w1.cell? ⟨b, 0, none⟩ = some x ∧ w1.cell? ⟨b, 1, none⟩ = some y ∧ b < w1.heap.size :=
  ⟨cell_later hb h0, cell_later hb h1, Nat.lt_of_lt_of_le (World.block_lt_of_cell? _ _ h0) hb.size⟩
set_option maxHeartbeats 400000 in
theorem inside_any (s : ByteArray) (n : Int) (w : World) :
    Calls Tryd.prog 32 #[.agg #[.string s, .int .i64 n]] w fun e w' => e = .returned (.bool (curOk s n)) ∧ w' = w.alloc (.cells #[.string s, .int .i64 n] 25) := by
  by_cases h : 0 ≤ n
  · rw [curOk_pos h]
    go_enter Tryd.func32, Tryd.ntmps32
    go_wp2
    go_ret
    exact ⟨rfl, rfl⟩
  · rw [curOk_neg h]
    have h' : decide (0 ≤ n) = false := by simpa using h
    go_enter Tryd.func32, Tryd.ntmps32
    go_wp2
    go_ret
    exact ⟨rfl, rfl⟩
set_option maxHeartbeats 400000 in
theorem sCurOk_any (s : ByteArray) (n : Int) (w : World) :
    Calls Tryd.prog 22 #[.agg #[.string s, .int .i64 n]] w fun e w' => e = .returned (.bool (curOk s n)) ∧ w' = w.alloc (.cells #[.string s, .int .i64 n] 25) := by
  by_cases h : 0 ≤ n
  · rw [curOk_pos h]
    go_enter Tryd.func22, Tryd.ntmps22
    go_wp2
    go_ret
    exact ⟨rfl, rfl⟩
  · rw [curOk_neg h]
    have h' : decide (0 ≤ n) = false := by simpa using h
    go_enter Tryd.func22, Tryd.ntmps22
    go_wp2
    go_ret
    exact ⟨rfl, rfl⟩
end Go.Proofs.YtffjpidjhcnnmabDoor
