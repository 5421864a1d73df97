/-
  What the exact laws do with fields: marks, and whether they are held.
-/
import Derived.Test.YtbdggopdhnlbfaaDoorF1
import Derived.Test.YtbdggopdhnlbfaaDoorMK
namespace Go.Proofs.YtbdggopdhnlbfaaDoor
set_option linter.unusedVariables false
set_option linter.unusedSimpArgs false
open Go.RowKit
/-- The marks of n fields. -/
def marksF (n : Nat) : List Fd := (List.range n).map fun i => (mtB (2 * i + 1), mtB (2 * i + 2))
theorem marksF_len (n : Nat) : (marksF n).length = n := by simp [marksF]
theorem marksF_at (n j : Nat) (h : j < n) : fdAt (marksF n) j = (mtB (2 * j + 1), mtB (2 * j + 2)) := by
  rw [fdAt_get (by rw [marksF_len]; exact h)]; simp [marksF]
theorem marksF_next (l : List Fd) (k : Nat) (h : k < l.length) : (marksF k ++ l.drop k).set k (mtB (2 * k + 1), mtB (2 * k + 2)) = marksF (k + 1) ++ l.drop (k + 1) := by
  rw [List.set_append_right _ _ (by rw [marksF_len]; exact Nat.le_refl _), marksF_len, Nat.sub_self, List.drop_eq_getElem_cons h, List.set_cons_zero]
  simp [marksF, List.range_succ]
theorem fdAt_set (l : List Fd) (k : Nat) (x : Fd) (h : k < l.length) : fdAt (l.set k x) k = x := by
  rw [fdAt_get (by rw [List.length_set]; exact h), List.getElem_set]; simp
theorem fdAt_set_ne (l : List Fd) (k j : Nat) (x : Fd) (h : j < l.length) (hne : j ≠ k) : fdAt (l.set k x) j = fdAt l j := by
  rw [fdAt_get (by rw [List.length_set]; exact h), List.getElem_set, if_neg (Ne.symm hne), fdAt_get h]
/-- Number k gets a new name. -/
theorem RowF.setN {w : World} {b : Nat} {l : List Fd} (h : RowF w b l) (k : Nat) (d : ByteArray) (hk : k < l.length) : RowF (w.setCell ⟨b, k * 2, none⟩ (.string d)) b (l.set k (d, (fdAt l k).2)) := by
  refine ⟨fun j hj => ?_, fun j hj => ?_, fun j => ?_, by simpa [World.setCell] using h.lt⟩
  · rw [List.length_set] at hj
    by_cases e : j = k
    · subst e
      rw [fdAt_set l j _ hj, World.cell?_setCell_same _ _ _ (h.dat j hj)]
    · rw [fdAt_set_ne l k j _ hj e, World.cell?_setCell_other _ _ _ _ (by intro hh; injection hh with _ h2; omega), h.dat j hj]
  · rw [List.length_set] at hj
    rw [World.cell?_setCell_other _ _ _ _ (by intro hh; injection hh with _ h2; omega), h.saf j hj]
    by_cases e : j = k
    · subst e
      rw [fdAt_set l j _ hj]
    · rw [fdAt_set_ne l k j _ hj e]
  · rw [World.frozen?_setCell]
    exact h.free j
/-- Number k gets a new value. -/
theorem RowF.setV {w : World} {b : Nat} {l : List Fd} (h : RowF w b l) (k : Nat) (d : ByteArray) (hk : k < l.length) : RowF (w.setCell ⟨b, k * 2 + 1, none⟩ (.string d)) b (l.set k ((fdAt l k).1, d)) := by
  refine ⟨fun j hj => ?_, fun j hj => ?_, fun j => ?_, by simpa [World.setCell] using h.lt⟩
  · rw [List.length_set] at hj
    rw [World.cell?_setCell_other _ _ _ _ (by intro hh; injection hh with _ h2; omega), h.dat j hj]
    by_cases e : j = k
    · subst e
      rw [fdAt_set l j _ hj]
    · rw [fdAt_set_ne l k j _ hj e]
  · rw [List.length_set] at hj
    by_cases e : j = k
    · subst e
      rw [fdAt_set l j _ hj, World.cell?_setCell_same _ _ _ (h.saf j hj)]
    · rw [fdAt_set_ne l k j _ hj e, World.cell?_setCell_other _ _ _ _ (by intro hh; injection hh with _ h2; omega), h.saf j hj]
  · rw [World.frozen?_setCell]
    exact h.free j
theorem SlF.own_lt {w : World} {s : Value} {l : List Fd} (h : SlF w s l) {g : Nat} (hg : s.ownBlock = some g) : g < w.heap.size := by
  rcases h with ⟨rfl, _⟩ | ⟨b, cap, rfl, hr⟩
  · cases hg
  · injection hg with hg; subst hg; exact hr.lt
theorem RowF.gb {w w' : World} {b : Nat} {l : List Fd} {r : Option Nat} (h : RowF w b l) (k : w.grownBy w' r) (hne : r ≠ some b) : RowF w' b l := by
  have hb : w'.heap[b]? = w.heap[b]? := k.block b h.lt (fun e => hne e.symm)
  refine ⟨fun j hj => ?_, fun j hj => ?_, fun j => ?_, Nat.lt_of_lt_of_le h.lt k.size⟩
  · exact (World.cell?_of_block (w := w) hb).trans (h.dat j hj)
  · exact (World.cell?_of_block (w := w) hb).trans (h.saf j hj)
  · have hf := h.free j
    unfold World.frozen? at *
    rw [hb]; exact hf
theorem SlF.gb {w w' : World} {s : Value} {l : List Fd} {r : Option Nat} (h : SlF w s l) (k : w.grownBy w' r) (hne : ∀ g, s.ownBlock = some g → r ≠ some g) : SlF w' s l := by
  rcases h with h | ⟨b, cap, rfl, hr⟩
  · exact .inl h
  · exact .inr ⟨b, cap, rfl, hr.gb k (hne b rfl)⟩
end Go.Proofs.YtbdggopdhnlbfaaDoor
