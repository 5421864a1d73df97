/-
  Rows of texts that are written to: marks; what the exact laws do with them.
-/
import Derived.Test.YtaelopjalfapgabWM2
namespace Go.Proofs.Ytaelopjalfapgab
set_option linter.unusedVariables false
set_option linter.unusedSimpArgs false
open Go.RowKit
def txAt (l : List ByteArray) (j : Nat) : ByteArray := l.getD j ⟨#[]⟩
theorem txAt_get {l : List ByteArray} {j : Nat} (h : j < l.length) : txAt l j = l[j] := by
  unfold txAt; rw [List.getD, List.getElem?_eq_getElem h]; rfl
/-- A row of texts in block b. -/
structure RowT (w : World) (b : Nat) (l : List ByteArray) : Prop where
  cell : ∀ j, j < l.length → w.cell? ⟨b, j, none⟩ = some (.string (txAt l j))
  free : ∀ j, w.frozen? ⟨b, j, none⟩ = false
  lt : b < w.heap.size
theorem RowT.keep {w w' : World} {b : Nat} {l : List ByteArray} (h : RowT w b l) (k : Below w.heap.size w w') : RowT w' b l :=
  ⟨fun j hj => by rw [k.cell (p := ⟨b, j, none⟩) h.lt]; exact h.cell j hj, fun j => by rw [k.frozen (p := ⟨b, j, none⟩) h.lt]; exact h.free j, Nat.lt_of_lt_of_le h.lt k.size⟩
theorem RowT.set {w : World} {b : Nat} {l : List ByteArray} (h : RowT w b l) (k : Nat) (d : ByteArray) (hk : k < l.length) : RowT (w.setCell ⟨b, k, none⟩ (.string d)) b (l.set k d) := by
  refine ⟨fun j hj => ?_, fun j => ?_, by simpa [World.setCell] using h.lt⟩
  · rw [List.length_set] at hj
    rw [txAt_get (by rw [List.length_set]; exact hj), List.getElem_set]
    by_cases e : k = j
    · subst e
      rw [World.cell?_setCell_same _ _ _ (h.cell k hj), if_pos rfl]
    · rw [World.cell?_setCell_other _ _ _ _ (by intro hh; injection hh with _ h2; exact e h2), h.cell j hj, if_neg e, txAt_get hj]
  · rw [World.frozen?_setCell]
    exact h.free j
theorem RowT.gb {w w' : World} {b : Nat} {l : List ByteArray} {r : Option Nat} (h : RowT w b l) (k : w.grownBy w' r) (hne : r ≠ some b) : RowT w' b l := by
  have hb : w'.heap[b]? = w.heap[b]? := k.block b h.lt (fun e => hne e.symm)
  refine ⟨fun j hj => (World.cell?_of_block (w := w) hb).trans (h.cell j hj), fun j => ?_, Nat.lt_of_lt_of_le h.lt k.size⟩
  have hf := h.free j
  unfold World.frozen? at *
  rw [hb]; exact hf
/-- A slice of texts: nil, or a row. -/
def SlT (w : World) (v : Value) (l : List ByteArray) : Prop := (v = .slice none 0 0 ∧ l = []) ∨ ∃ b cap, v = .slice (some ⟨b, 0, none⟩) l.length cap ∧ RowT w b l
theorem SlT.later {w w' : World} {v : Value} {l : List ByteArray} (h : SlT w v l) (k : Below w.heap.size w w') : SlT w' v l := by
  rcases h with h | ⟨b, cap, e, hr⟩
  · exact .inl h
  · exact .inr ⟨b, cap, e, hr.keep k⟩
theorem SlT.form {w : World} {v : Value} {l : List ByteArray} (h : SlT w v l) : ∃ a c, v = .slice a l.length c := by
  rcases h with ⟨rfl, rfl⟩ | ⟨b, cap, rfl, _⟩
  · exact ⟨none, 0, rfl⟩
  · exact ⟨_, _, rfl⟩
theorem SlT.row {w : World} {a : Option Addr} {n c : Nat} {l : List ByteArray} (h : SlT w (.slice a n c) l) (hl : 0 < l.length) : ∃ b, a = some ⟨b, 0, none⟩ ∧ RowT w b l := by
  rcases h with ⟨_, rfl⟩ | ⟨b, cap, e, hr⟩
  · simp at hl
  · injection e with e1; exact ⟨b, e1, hr⟩
theorem SlT.rows {w : World} {a : Option Addr} {n c : Nat} {l : List ByteArray} (h : SlT w (.slice a n c) l) : RowS w a l := by
  rcases Nat.eq_zero_or_pos l.length with h0 | h0
  · exact .inl (List.eq_nil_of_length_eq_zero h0)
  · obtain ⟨b, rfl, hr⟩ := h.row h0
    exact .inr ⟨b, rfl, hr.cell⟩
theorem SlT.gb {w w' : World} {s : Value} {l : List ByteArray} {r : Option Nat} (h : SlT w s l) (k : w.grownBy w' r) (hne : ∀ g, s.ownBlock = some g → r ≠ some g) : SlT w' s l := by
  rcases h with h | ⟨b, cap, rfl, hr⟩
  · exact .inl h
  · exact .inr ⟨b, cap, rfl, hr.gb k (hne b rfl)⟩
theorem SlT.own_lt {w : World} {s : Value} {l : List ByteArray} (h : SlT w s l) {g : Nat} (hg : s.ownBlock = some g) : g < w.heap.size := by
  rcases h with ⟨rfl, _⟩ | ⟨b, cap, rfl, hr⟩
  · cases hg
  · injection hg with hg; subst hg; exact hr.lt
/-- What is handed back: a slice of texts, its memory new. -/
def AnsT (w0 w' : World) (s : Value) (L : List ByteArray) : Prop := SlT w' s L ∧ (∀ g, s.ownBlock = some g → w0.heap.size ≤ g) ∧ Below w0.heap.size w0 w'
theorem BufS.ans {w0 w : World} {v : Value} {l : List ByteArray} (h : BufS w0 w v l) : AnsT w0 w v l := by
  rcases h.own.2 with ⟨h1, h2⟩ | ⟨g, cap, cur, h1, hg, hh, _⟩
  · refine ⟨.inl ⟨h1, List.eq_nil_of_length_eq_zero h2⟩, fun g hg => ?_, h.below⟩
    rw [h1] at hg; cases hg
  · have hlt := (h.own.lt g (by rw [h1]; rfl)).2
    refine ⟨.inr ⟨g, cap, h1, ⟨fun j hj => ?_, fun j => ?_, hlt⟩⟩, fun g' hg' => ?_, h.below⟩
    · have := h.own.cells (g := g) (by rw [h1]; rfl) j (.string l[j]) (by simp [List.getElem?_eq_getElem hj])
      rw [Addr.add_lit, Nat.zero_add] at this
      rw [this, txAt_get hj]
    · have ho := h.own
      rw [h1] at ho
      exact ho.frozenAt j
    · rw [h1] at hg'
      injection hg' with hg'
      subst hg'; exact hg
/-- Its memory is none of an elder world's. -/
theorem BufS.base {w0 w1 w : World} {v : Value} {l : List ByteArray} (h : BufS w0 w v l) (hb : Below w1.heap.size w1 w0) : BufS w1 w v l := by
  refine ⟨hb.trans (h.below.mono hb.size), h.own.1, ?_⟩
  rcases h.own.2 with h2 | ⟨g, cap, cur, h1, hg, r⟩
  · exact .inl h2
  · exact .inr ⟨g, cap, cur, h1, Nat.le_trans hb.size hg, r⟩
theorem eqT_same {w : World} {l : List ByteArray} {va vb : Value} (ha : SlT w va l) (hb : SlT w vb l) (hl : l.length ≤ 1000000) :
    ∃ a b c d, va = .slice a l.length c ∧ vb = .slice b l.length d ∧ RowS w a l ∧ RowS w b l := by
  obtain ⟨a, c, rfl⟩ := ha.form
  obtain ⟨b, d, rfl⟩ := hb.form
  exact ⟨a, b, c, d, rfl, rfl, ha.rows, hb.rows⟩
end Go.Proofs.Ytaelopjalfapgab
