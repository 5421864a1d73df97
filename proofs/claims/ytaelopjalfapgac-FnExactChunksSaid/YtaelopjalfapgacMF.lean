/-
  Chapter 6: names that speak of a body's bounds. No Go in sight.
-/
import Derived.Test.YtaelopjalfapgacMM
namespace Go.Proofs.Ytaelopjalfapgac
set_option linter.unusedVariables false
set_option linter.unusedSimpArgs false
open Go.RowKit
theorem frmL_yes {l : List Fd} {k : Nat} (hk : k < l.length) (h : frmN (fdAt l k).1 = true) : frmL l = true := by
  unfold frmL
  rw [List.any_eq_true]
  rw [fdAt_get hk] at h
  exact ⟨l[k], List.getElem_mem hk, h⟩
theorem frmL_no {l : List Fd} (h : ∀ j, j < l.length → frmN (fdAt l j).1 = false) : frmL l = false := by
  unfold frmL
  rw [List.any_eq_false]
  intro x hx
  obtain ⟨j, hj, rfl⟩ := List.mem_iff_getElem.1 hx
  have := h j hj
  rw [fdAt_get hj] at this
  simp [this]
end Go.Proofs.Ytaelopjalfapgac
