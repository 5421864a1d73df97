/-
  All bytes of a text are of a kind; a target. No Go in sight.
-/
import Derived.Test.YtefhpjipcdmbaabGreatDoorM2
namespace Go.Proofs.YtefhpjipcdmbaabGreatDoor
set_option linter.unusedVariables false
set_option linter.unusedSimpArgs false
open Go.RowKit
/-- All bytes are of a kind. -/
def allB (p : UInt8 → Bool) (s : ByteArray) : Bool := s.data.toList.all p
theorem allB_no {p : UInt8 → Bool} {s : ByteArray} {k : Nat} (hk : k < s.size) (h : p (at8 s k) = false) : allB p s = false := by
  unfold allB
  have hl : k < s.data.toList.length := by simpa using hk
  rw [List.all_eq_false]
  refine ⟨s.data.toList[k], List.getElem_mem hl, ?_⟩
  simp [at8, List.getD, List.getElem?_eq_getElem hl] at h
  simp [h]
theorem allB_yes {p : UInt8 → Bool} {s : ByteArray} (h : ∀ j, j < s.size → p (at8 s j) = true) : allB p s = true := by
  unfold allB
  rw [List.all_eq_true]
  intro x hx
  obtain ⟨j, hj, rfl⟩ := List.mem_iff_getElem.1 hx
  have := h j (by simpa using hj)
  simpa [at8, List.getD, List.getElem?_eq_getElem hj] using this
/-- A byte that may stand in a target. -/
def visP (n : Int) : Bool := decide (33 ≤ n) && decide (n ≤ 126)
def vis8 (b : UInt8) : Bool := visP (b.toNat : Int)
def targQ (s : ByteArray) : Bool := decide (1 ≤ (s.size : Int)) && decide ((s.size : Int) ≤ 200) && allB vis8 s
theorem targQ_iff {s : ByteArray} : targQ s = true ↔ 1 ≤ s.size ∧ s.size ≤ 200 ∧ allB vis8 s = true := by
  unfold targQ; rw [Bool.and_eq_true, Bool.and_eq_true, decide_eq_true_eq, decide_eq_true_eq, and_assoc]
  constructor
  · rintro ⟨a, b, c⟩; exact ⟨by omega, by omega, c⟩
  · rintro ⟨a, b, c⟩; exact ⟨by omega, by omega, c⟩
end Go.Proofs.YtefhpjipcdmbaabGreatDoor
