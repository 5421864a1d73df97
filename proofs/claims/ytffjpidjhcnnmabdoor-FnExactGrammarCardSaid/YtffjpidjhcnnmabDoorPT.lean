/-
  Pairs of texts; plain texts. No Go in sight.
-/
import Derived.Test.YtffjpidjhcnnmabDoorM2
import Derived.Test.YtffjpidjhcnnmabDoorM7
namespace Go.Proofs.YtffjpidjhcnnmabDoor
set_option linter.unusedVariables false
set_option linter.unusedSimpArgs false
open Go.RowKit
/-- A field: its name and its value. -/
abbrev Fd := ByteArray × ByteArray
def fd0 : Fd := (⟨#[]⟩, ⟨#[]⟩)
/-- Number j, or the empty one. -/
def fdAt (l : List Fd) (j : Nat) : Fd := l.getD j fd0
theorem fdAt_get {l : List Fd} {j : Nat} (h : j < l.length) : fdAt l j = l[j] := by
  unfold fdAt; rw [List.getD, List.getElem?_eq_getElem h]; rfl
/-- All bytes are plain. -/
def plnB (s : ByteArray) : Bool := s.data.toList.all plain8
theorem plnB_no {s : ByteArray} {k : Nat} (hk : k < s.size) (h : plain8 (at8 s k) = false) : plnB s = false := by
  unfold plnB
  have hl : k < s.data.toList.length := by simpa using hk
  rw [List.all_eq_false]
  refine ⟨s.data.toList[k], List.getElem_mem hl, ?_⟩
  simp [at8, List.getD, List.getElem?_eq_getElem hl] at h
  simp [h]
theorem plnB_yes {s : ByteArray} (h : ∀ j, j < s.size → plain8 (at8 s j) = true) : plnB s = true := by
  unfold plnB
  rw [List.all_eq_true]
  intro x hx
  obtain ⟨j, hj, rfl⟩ := List.mem_iff_getElem.1 hx
  have := h j (by simpa using hj)
  simpa [at8, List.getD, List.getElem?_eq_getElem hj] using this
/-- The cells of a row of fields. -/
def cellsF (l : List Fd) : List Value := l.flatMap fun s => [.string s.1, .string s.2]
theorem cellsF_app (a b : List Fd) : cellsF (a ++ b) = cellsF a ++ cellsF b := by simp [cellsF]
theorem cellsF_cons (s : Fd) (l : List Fd) : cellsF (s :: l) = .string s.1 :: .string s.2 :: cellsF l := rfl
theorem cellsF_len (l : List Fd) : (cellsF l).length = l.length * 2 := by
  induction l with
  | nil => rfl
  | cons s l ih => rw [cellsF_cons, List.length_cons, List.length_cons, ih, List.length_cons]; omega
theorem cellsF_at (l : List Fd) : ∀ j, j < l.length → (cellsF l)[j * 2]? = some (.string (fdAt l j).1) ∧ (cellsF l)[j * 2 + 1]? = some (.string (fdAt l j).2) := by
  induction l with
  | nil => intro j h; simp at h
  | cons s l ih =>
    intro j h
    cases j with
    | zero => rw [cellsF_cons]; exact ⟨rfl, rfl⟩
    | succ j =>
      rw [cellsF_cons, show fdAt (s :: l) (j + 1) = fdAt l j from rfl, show (j + 1) * 2 = j * 2 + 1 + 1 by omega]
      exact ih j (by simpa using h)
theorem cellsF_one (l : List Fd) : ∀ u ∈ cellsF l, u.oneCell' = true := by
  intro u hu
  simp only [cellsF, List.mem_flatMap] at hu
  obtain ⟨s, _, hs⟩ := hu
  simp at hs
  rcases hs with rfl | rfl <;> rfl
end Go.Proofs.YtffjpidjhcnnmabDoor
