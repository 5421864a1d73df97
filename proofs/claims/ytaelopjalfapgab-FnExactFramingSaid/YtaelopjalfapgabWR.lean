/-
  A row of texts, as a reader wants it.
-/
import Derived.Test.YtaelopjalfapgabAS
namespace Go.Proofs.Ytaelopjalfapgab
set_option linter.unusedVariables false
set_option linter.unusedSimpArgs false
open Go.RowKit

/-- A row of texts, as a reader wants it. -/
def RowS (w : World) (a : Option Addr) (l : List ByteArray) : Prop := l = [] ∨ ∃ g, a = some ⟨g, 0, none⟩ ∧ ∀ j, j < l.length → w.cell? ⟨g, j, none⟩ = some (.string (l.getD j ⟨#[]⟩))
theorem BufS.rows {w0 w : World} {v : Value} {l : List ByteArray} (h : BufS w0 w v l) : ∃ a c, v = .slice a l.length c ∧ RowS w a l := by
  rcases Nat.eq_zero_or_pos l.length with h0 | h0
  · obtain ⟨a, c, rfl⟩ := h.form
    exact ⟨a, c, rfl, Or.inl (List.eq_nil_of_length_eq_zero h0)⟩
  · obtain ⟨g, cap, rfl, _, _, hc⟩ := h.cells h0
    exact ⟨_, _, rfl, Or.inr ⟨g, rfl, hc⟩⟩
theorem RowS.later {w w' : World} {a : Option Addr} {l : List ByteArray} (h : RowS w a l) (hb : Below w.heap.size w w') : RowS w' a l := by
  rcases h with h | ⟨g, rfl, hc⟩
  · exact Or.inl h
  · refine Or.inr ⟨g, rfl, fun j hj => ?_⟩
    have hlt := World.block_lt_of_cell? _ _ (hc j hj)
    exact (hb.cell hlt).trans (hc j hj)
theorem RowS.at {w : World} {a : Option Addr} {l : List ByteArray} (h : RowS w a l) (hl : 0 < l.length) : ∃ g, a = some ⟨g, 0, none⟩ ∧ ∀ j, j < l.length → w.cell? ⟨g, j, none⟩ = some (.string (l.getD j ⟨#[]⟩)) := by
  rcases h with rfl | h
  · simp at hl
  · exact h
theorem Below.drewNs {B : Nat} {a w : World} (h : Below B a w) (n : Nat) : Below B a (w.drewN n) := ⟨h.os, h.tape, h.output, h.size, h.block⟩
theorem neT_self (t : ByteArray) : (t.toList != t.toList) = false := by simp
end Go.Proofs.Ytaelopjalfapgab
