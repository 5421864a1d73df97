/-
  What the exact laws do with fields: marks, and whether they are held. · The exact laws' marks over rows of texts. · Rows of texts that are written to: marks; what the exact laws do with them. · Chapter 5: rows of fields of the call's own; counts by name in a map. The program's side of Without. · Chapter 5: those that do not have a name; one put in. Both sides. · Plain functions of chapter 1: the elements of a list. No Go in sight. And: a scope with several labels. · Chapter 5: the names that speak of this connection, on lists. No Go in sight. · Contracts of the library's functions at this program, laid off the kit's shelf in plain words. · The walks over chapter 1: withPiece, Elements. · The walks over chapter 1: impl.Elements, a machine of three labels. · Chapter 5: the values of a name as one text, and its words. Both sides. · Contracts of the library's functions at this program, laid off the kit's shelf in plain words.
-/
import Derived.Test.YtmhohponikolfaaDoorJ0
import Derived.Test.YtmhohponikolfaaDoorJ1
import Derived.Deep.RegionWith
import Derived.Deep.QuietTactic
import Derived.BigQuiet
import Derived.Maps.OwnOps
import Derived.Maps.OwnSet
import Derived.Deep.AppendLies
import Derived.Deep.DeepCutAuto
import Derived.Scope
import Derived.ScopeJumps
import Derived.Sort.KeysCollected
import Derived.Shelf.Strings.OnBuilder
import Derived.Test.YtmhohponikolfaaDoorProg
import Derived.Shelf.SlIter.Nil
import Derived.Shelf.SortM.Plain
import Derived.Shelf.SortM.SortNone
namespace Go.Proofs.YtmhohponikolfaaDoor
set_option linter.unusedVariables false
set_option linter.unusedSimpArgs false
open Go.RowKit
/-- The marks of n fields. -/
def marksF (n : Nat) : List Fd := (List.range n).map fun i => (mtB (2 * i + 1), mtB (2 * i + 2))
theorem marksF_len (n : Nat) : (marksF n).length = n := by simp [marksF]
theorem marksF_at (n j : Nat) (h : j < n) : fdAt (marksF n) j = (mtB (2 * j + 1), mtB (2 * j + 2)) := by
  rw [fdAt_get (by rw [marksF_len]; exact h)]; simp [marksF]
theorem marksF_next (l : List Fd) (k : Nat) (h : k < l.length) : (marksF k ++ l.drop k).set k (mtB (2 * k + 1), mtB (2 * k + 2)) = marksF (k + 1) ++ l.drop (k + 1) := by
  rw [List.set_append_right _ _ (by rw [marksF_len]; exact Nat.le_refl _), marksF_len, Nat.sub_self, List.drop_eq_getElem_cons h, List.set_cons_zero]
  simp [marksF, List.range_succ]
theorem fdAt_set (l : List Fd) (k : Nat) (x : Fd) (h : k < l.length) : fdAt (l.set k x) k = x := by
  rw [fdAt_get (by rw [List.length_set]; exact h), List.getElem_set]; simp
theorem fdAt_set_ne (l : List Fd) (k j : Nat) (x : Fd) (h : j < l.length) (hne : j ≠ k) : fdAt (l.set k x) j = fdAt l j := by
  rw [fdAt_get (by rw [List.length_set]; exact h), List.getElem_set, if_neg (Ne.symm hne), fdAt_get h]
/-- Number k gets a new name. -/
theorem RowF.setN {w : World} {b : Nat} {l : List Fd} (h : RowF w b l) (k : Nat) (d : ByteArray) (hk : k < l.length) : RowF (w.setCell ⟨b, k * 2, none⟩ (.string d)) b (l.set k (d, (fdAt l k).2)) := by
  refine ⟨fun j hj => ?_, fun j hj => ?_, fun j => ?_, by simpa [World.setCell] using h.lt⟩
  · rw [List.length_set] at hj
    by_cases e : j = k
    · subst e
      rw [fdAt_set l j _ hj, World.cell?_setCell_same _ _ _ (h.dat j hj)]
    · rw [fdAt_set_ne l k j _ hj e, World.cell?_setCell_other _ _ _ _ (by intro hh; injection hh with _ h2; omega), h.dat j hj]
  · rw [List.length_set] at hj
    rw [World.cell?_setCell_other _ _ _ _ (by intro hh; injection hh with _ h2; omega), h.saf j hj]
    by_cases e : j = k
    · subst e
      rw [fdAt_set l j _ hj]
    · rw [fdAt_set_ne l k j _ hj e]
  · rw [World.frozen?_setCell]
    exact h.free j
/-- Number k gets a new value. -/
theorem RowF.setV {w : World} {b : Nat} {l : List Fd} (h : RowF w b l) (k : Nat) (d : ByteArray) (hk : k < l.length) : RowF (w.setCell ⟨b, k * 2 + 1, none⟩ (.string d)) b (l.set k ((fdAt l k).1, d)) := by
  refine ⟨fun j hj => ?_, fun j hj => ?_, fun j => ?_, by simpa [World.setCell] using h.lt⟩
  · rw [List.length_set] at hj
    rw [World.cell?_setCell_other _ _ _ _ (by intro hh; injection hh with _ h2; omega), h.dat j hj]
    by_cases e : j = k
    · subst e
      rw [fdAt_set l j _ hj]
    · rw [fdAt_set_ne l k j _ hj e]
  · rw [List.length_set] at hj
    by_cases e : j = k
    · subst e
      rw [fdAt_set l j _ hj, World.cell?_setCell_same _ _ _ (h.saf j hj)]
    · rw [fdAt_set_ne l k j _ hj e, World.cell?_setCell_other _ _ _ _ (by intro hh; injection hh with _ h2; omega), h.saf j hj]
  · rw [World.frozen?_setCell]
    exact h.free j
theorem SlF.own_lt {w : World} {s : Value} {l : List Fd} (h : SlF w s l) {g : Nat} (hg : s.ownBlock = some g) : g < w.heap.size := by
  rcases h with ⟨rfl, _⟩ | ⟨b, cap, rfl, hr⟩
  · cases hg
  · injection hg with hg; subst hg; exact hr.lt
theorem RowF.gb {w w' : World} {b : Nat} {l : List Fd} {r : Option Nat} (h : RowF w b l) (k : w.grownBy w' r) (hne : r ≠ some b) : RowF w' b l := by
  have hb : w'.heap[b]? = w.heap[b]? := k.block b h.lt (fun e => hne e.symm)
  refine ⟨fun j hj => ?_, fun j hj => ?_, fun j => ?_, Nat.lt_of_lt_of_le h.lt k.size⟩
  · exact (World.cell?_of_block (w := w) hb).trans (h.dat j hj)
  · exact (World.cell?_of_block (w := w) hb).trans (h.saf j hj)
  · have hf := h.free j
    unfold World.frozen? at *
    rw [hb]; exact hf
theorem SlF.gb {w w' : World} {s : Value} {l : List Fd} {r : Option Nat} (h : SlF w s l) (k : w.grownBy w' r) (hne : ∀ g, s.ownBlock = some g → r ≠ some g) : SlF w' s l := by
  rcases h with h | ⟨b, cap, rfl, hr⟩
  · exact .inl h
  · exact .inr ⟨b, cap, rfl, hr.gb k (hne b rfl)⟩
end Go.Proofs.YtmhohponikolfaaDoor
namespace Go.Proofs.YtmhohponikolfaaDoor
set_option linter.unusedVariables false
set_option linter.unusedSimpArgs false
open Go.RowKit
def marks (n : Nat) : List ByteArray := (List.range n).map fun j => mtB (j + 1)
theorem marks_len (n : Nat) : (marks n).length = n := by simp [marks]
theorem marks_at {n j : Nat} (h : j < n) : (marks n).getD j ⟨#[]⟩ = mtB (j + 1) := by simp [marks, List.getD, h]
theorem bcellM {W w1 : World} (hb : Below W.heap.size W w1) : (∀ b o, b < W.heap.size → w1.cell? ⟨b, o, none⟩ = W.cell? ⟨b, o, none⟩) ∧ (∀ b o, b < W.heap.size → w1.frozen? ⟨b, o, none⟩ = W.frozen? ⟨b, o, none⟩) :=
  ⟨fun b o h => hb.cell (p := ⟨b, o, none⟩) h, fun b o h => hb.frozen (p := ⟨b, o, none⟩) h⟩
theorem BufS.spot {w0 w : World} {g n cap : Nat} {l : List ByteArray} (h : BufS w0 w (.slice (some ⟨g, 0, none⟩) n cap) l) {j : Nat} (hj : j < l.length) : w.cell? ⟨g, j, none⟩ = some (.string (l.getD j ⟨#[]⟩)) ∧ w.frozen? ⟨g, j, none⟩ = false ∧ w0.heap.size ≤ g := by
  obtain ⟨g', cap', he, hg, _, hc⟩ := h.cells (by omega)
  injection he with e1 e2 e3
  injection e1 with e1
  injection e1 with e1
  subst e1; subst e2
  exact ⟨hc j hj, h.own.frozenAt j, hg⟩
theorem BufS.stored {w0 w : World} {g cap : Nat} {l : List ByteArray} (h : BufS w0 w (.slice (some ⟨g, 0, none⟩) l.length cap) l) {j : Nat} (hg : w0.heap.size ≤ g) (y : ByteArray) : BufS w0 (w.setCell ⟨g, j, none⟩ (.string y)) (.slice (some ⟨g, 0, none⟩) l.length cap) (l.set j y) := by
  refine ⟨h.below.setCell (p := ⟨g, j, none⟩) hg _, ?_⟩
  rw [List.length_set, List.map_set]
  exact (h.own.stored j (.string y)).1
theorem marks_set (l : List ByteArray) (j : Nat) (hj : j < l.length) : (marks j ++ l.drop j).set j (mtB (j + 1)) = marks (j + 1) ++ l.drop (j + 1) := by
  rw [List.set_append_right _ _ (by rw [marks_len]; exact Nat.le_refl _), marks_len, Nat.sub_self, List.drop_eq_getElem_cons hj, List.set_cons_zero]
  simp [marks, List.range_succ]
theorem marks_part (l : List ByteArray) (j : Nat) (hj : j ≤ l.length) : (marks j ++ l.drop j).length = l.length := by
  rw [List.length_append, marks_len, List.length_drop]; omega
end Go.Proofs.YtmhohponikolfaaDoor
namespace Go.Proofs.YtmhohponikolfaaDoor
set_option linter.unusedVariables false
set_option linter.unusedSimpArgs false
open Go.RowKit
def txAt (l : List ByteArray) (j : Nat) : ByteArray := l.getD j ⟨#[]⟩
theorem txAt_get {l : List ByteArray} {j : Nat} (h : j < l.length) : txAt l j = l[j] := by
  unfold txAt; rw [List.getD, List.getElem?_eq_getElem h]; rfl
/-- A row of texts in block b. -/
structure RowT (w : World) (b : Nat) (l : List ByteArray) : Prop where
  cell : ∀ j, j < l.length → w.cell? ⟨b, j, none⟩ = some (.string (txAt l j))
  free : ∀ j, w.frozen? ⟨b, j, none⟩ = false
  lt : b < w.heap.size
theorem RowT.keep {w w' : World} {b : Nat} {l : List ByteArray} (h : RowT w b l) (k : Below w.heap.size w w') : RowT w' b l :=
  ⟨fun j hj => by rw [k.cell (p := ⟨b, j, none⟩) h.lt]; exact h.cell j hj, fun j => by rw [k.frozen (p := ⟨b, j, none⟩) h.lt]; exact h.free j, Nat.lt_of_lt_of_le h.lt k.size⟩
theorem RowT.set {w : World} {b : Nat} {l : List ByteArray} (h : RowT w b l) (k : Nat) (d : ByteArray) (hk : k < l.length) : RowT (w.setCell ⟨b, k, none⟩ (.string d)) b (l.set k d) := by
  refine ⟨fun j hj => ?_, fun j => ?_, by simpa [World.setCell] using h.lt⟩
  · rw [List.length_set] at hj
    rw [txAt_get (by rw [List.length_set]; exact hj), List.getElem_set]
    by_cases e : k = j
    · subst e
      rw [World.cell?_setCell_same _ _ _ (h.cell k hj), if_pos rfl]
    · rw [World.cell?_setCell_other _ _ _ _ (by intro hh; injection hh with _ h2; exact e h2), h.cell j hj, if_neg e, txAt_get hj]
  · rw [World.frozen?_setCell]
    exact h.free j
theorem RowT.gb {w w' : World} {b : Nat} {l : List ByteArray} {r : Option Nat} (h : RowT w b l) (k : w.grownBy w' r) (hne : r ≠ some b) : RowT w' b l := by
  have hb : w'.heap[b]? = w.heap[b]? := k.block b h.lt (fun e => hne e.symm)
  refine ⟨fun j hj => (World.cell?_of_block (w := w) hb).trans (h.cell j hj), fun j => ?_, Nat.lt_of_lt_of_le h.lt k.size⟩
  have hf := h.free j
  unfold World.frozen? at *
  rw [hb]; exact hf
/-- A slice of texts: nil, or a row. -/
def SlT (w : World) (v : Value) (l : List ByteArray) : Prop := (v = .slice none 0 0 ∧ l = []) ∨ ∃ b cap, v = .slice (some ⟨b, 0, none⟩) l.length cap ∧ RowT w b l
theorem SlT.later {w w' : World} {v : Value} {l : List ByteArray} (h : SlT w v l) (k : Below w.heap.size w w') : SlT w' v l := by
  rcases h with h | ⟨b, cap, e, hr⟩
  · exact .inl h
  · exact .inr ⟨b, cap, e, hr.keep k⟩
theorem SlT.form {w : World} {v : Value} {l : List ByteArray} (h : SlT w v l) : ∃ a c, v = .slice a l.length c := by
  rcases h with ⟨rfl, rfl⟩ | ⟨b, cap, rfl, _⟩
  · exact ⟨none, 0, rfl⟩
  · exact ⟨_, _, rfl⟩
theorem SlT.row {w : World} {a : Option Addr} {n c : Nat} {l : List ByteArray} (h : SlT w (.slice a n c) l) (hl : 0 < l.length) : ∃ b, a = some ⟨b, 0, none⟩ ∧ RowT w b l := by
  rcases h with ⟨_, rfl⟩ | ⟨b, cap, e, hr⟩
  · simp at hl
  · injection e with e1; exact ⟨b, e1, hr⟩
theorem SlT.rows {w : World} {a : Option Addr} {n c : Nat} {l : List ByteArray} (h : SlT w (.slice a n c) l) : RowS w a l := by
  rcases Nat.eq_zero_or_pos l.length with h0 | h0
  · exact .inl (List.eq_nil_of_length_eq_zero h0)
  · obtain ⟨b, rfl, hr⟩ := h.row h0
    exact .inr ⟨b, rfl, hr.cell⟩
theorem SlT.gb {w w' : World} {s : Value} {l : List ByteArray} {r : Option Nat} (h : SlT w s l) (k : w.grownBy w' r) (hne : ∀ g, s.ownBlock = some g → r ≠ some g) : SlT w' s l := by
  rcases h with h | ⟨b, cap, rfl, hr⟩
  · exact .inl h
  · exact .inr ⟨b, cap, rfl, hr.gb k (hne b rfl)⟩
theorem SlT.own_lt {w : World} {s : Value} {l : List ByteArray} (h : SlT w s l) {g : Nat} (hg : s.ownBlock = some g) : g < w.heap.size := by
  rcases h with ⟨rfl, _⟩ | ⟨b, cap, rfl, hr⟩
  · cases hg
  · injection hg with hg; subst hg; exact hr.lt
/-- What is handed back: a slice of texts, its memory new. -/
def AnsT (w0 w' : World) (s : Value) (L : List ByteArray) : Prop := SlT w' s L ∧ (∀ g, s.ownBlock = some g → w0.heap.size ≤ g) ∧ Below w0.heap.size w0 w'
theorem BufS.ans {w0 w : World} {v : Value} {l : List ByteArray} (h : BufS w0 w v l) : AnsT w0 w v l := by
  rcases h.own.2 with ⟨h1, h2⟩ | ⟨g, cap, cur, h1, hg, hh, _⟩
  · refine ⟨.inl ⟨h1, List.eq_nil_of_length_eq_zero h2⟩, fun g hg => ?_, h.below⟩
    rw [h1] at hg; cases hg
  · have hlt := (h.own.lt g (by rw [h1]; rfl)).2
    refine ⟨.inr ⟨g, cap, h1, ⟨fun j hj => ?_, fun j => ?_, hlt⟩⟩, fun g' hg' => ?_, h.below⟩
    · have := h.own.cells (g := g) (by rw [h1]; rfl) j (.string l[j]) (by simp [List.getElem?_eq_getElem hj])
      rw [Addr.add_lit, Nat.zero_add] at this
      rw [this, txAt_get hj]
    · have ho := h.own
      rw [h1] at ho
      exact ho.frozenAt j
    · rw [h1] at hg'
      injection hg' with hg'
      subst hg'; exact hg
/-- Its memory is none of an elder world's. -/
theorem BufS.base {w0 w1 w : World} {v : Value} {l : List ByteArray} (h : BufS w0 w v l) (hb : Below w1.heap.size w1 w0) : BufS w1 w v l := by
  refine ⟨hb.trans (h.below.mono hb.size), h.own.1, ?_⟩
  rcases h.own.2 with h2 | ⟨g, cap, cur, h1, hg, r⟩
  · exact .inl h2
  · exact .inr ⟨g, cap, cur, h1, Nat.le_trans hb.size hg, r⟩
theorem eqT_same {w : World} {l : List ByteArray} {va vb : Value} (ha : SlT w va l) (hb : SlT w vb l) (hl : l.length ≤ 1000000) :
    ∃ a b c d, va = .slice a l.length c ∧ vb = .slice b l.length d ∧ RowS w a l ∧ RowS w b l := by
  obtain ⟨a, c, rfl⟩ := ha.form
  obtain ⟨b, d, rfl⟩ := hb.form
  exact ⟨a, b, c, d, rfl, rfl, ha.rows, hb.rows⟩
end Go.Proofs.YtmhohponikolfaaDoor
namespace Go.Proofs.YtmhohponikolfaaDoor
set_option linter.unusedVariables false
set_option linter.unusedSimpArgs false
open Go.RowKit Go.Maps
/-- The value v is a slice of the call's own that holds the fields l; nothing that was there in w0 has turned. -/
structure BufF (w0 w : World) (v : Value) (l : List Fd) : Prop where
  below : Below w0.heap.size w0 w
  own : w.ownsRow w0.heap.size 25 2 v l.length (cellsF l)
theorem BufF.start (w : World) : BufF w w (.slice none 0 0) [] := ⟨Below.refl _ _, World.ownsRow_nil _ _ _ _⟩
theorem BufF.alloc {w0 w : World} {v : Value} {l : List Fd} (h : BufF w0 w v l) (o : Obj) : BufF w0 (w.alloc o) v l := ⟨h.below.alloc h.below.size o, h.own.alloc o⟩
theorem BufF.form {w0 w : World} {v : Value} {l : List Fd} (h : BufF w0 w v l) : ∃ (a : Option Addr) (c : Nat), v = .slice a l.length c := by
  rcases h.own.2 with ⟨h1, h2⟩ | ⟨g, cap, cur, h1, _⟩
  · exact ⟨none, 0, by rw [h1, h2]⟩
  · exact ⟨_, _, h1⟩
theorem BufF.later {w0 w w' : World} {v : Value} {l : List Fd} (h : BufF w0 w v l) (hb : Below w.heap.size w w') : BufF w0 w' v l := by
  refine ⟨h.below.trans (hb.mono h.below.size), ?_⟩
  exact h.own.kept (row := none) ⟨hb.os, hb.tape, hb.output, hb.size, fun k hk _ => hb.block k hk⟩ (by
    cases hv : v.ownBlock with
    | none => exact Or.inl rfl
    | some g => exact Or.inr (by intro e; cases e))
/-- Its memory is none of an elder world's. -/
theorem BufF.base {w0 w1 w : World} {v : Value} {l : List Fd} (h : BufF w0 w v l) (hb : Below w1.heap.size w1 w0) : BufF w1 w v l := by
  refine ⟨below_then hb h.below, h.own.1, ?_⟩
  rcases h.own.2 with h2 | ⟨g, cap, cur, h1, hg, r⟩
  · exact .inl h2
  · exact .inr ⟨g, cap, cur, h1, Nat.le_trans hb.size hg, r⟩
/-- What is handed back: a slice of fields, its memory new. -/
def AnsF (w0 w' : World) (s : Value) (L : List Fd) : Prop := SlF w' s L ∧ (∀ g, s.ownBlock = some g → w0.heap.size ≤ g) ∧ Below w0.heap.size w0 w'
theorem BufF.ans {w0 w : World} {v : Value} {l : List Fd} (h : BufF w0 w v l) : AnsF w0 w v l := by
  have ho := h.own
  rcases h.own.2 with ⟨h1, h2⟩ | ⟨g, cap, cur, h1, hg, hh, _⟩
  · refine ⟨.inl ⟨h1, List.eq_nil_of_length_eq_zero h2⟩, fun g hg => ?_, h.below⟩
    rw [h1] at hg; cases hg
  · have hlt := (h.own.lt g (by rw [h1]; rfl)).2
    rw [h1] at ho
    refine ⟨.inr ⟨g, cap, h1, ⟨fun j hj => ?_, fun j hj => ?_, fun j => ho.frozenAt j, hlt⟩⟩, fun g' hg' => ?_, h.below⟩
    · rw [ho.cellAt (j * 2) (by omega)]; exact (cellsF_at l j hj).1
    · rw [ho.cellAt (j * 2 + 1) (by omega)]; exact (cellsF_at l j hj).2
    · rw [h1] at hg'
      injection hg' with hg'
      subst hg'; exact hg
theorem wp_fapp {ops : Array Oper} {rest : List Oper} {o : Oper} {a : Act} {Q : Exit → Act → World → Prop} {w0 W : World} (hgd : o.guard = none) (s x : Operand)
    (ho : o.op = .call { callee := .builtin .append, args := #[s, x], argTypes := #[23, 23] }) (v : Value) (l : List Fd) (hs : a.eval s = v) (hbuf : BufF w0 W v l)
    (d t : ByteArray) (hx : a.eval x = .slice (some ⟨W.heap.size, 0, none⟩) 1 1) (hlen : l.length ≤ 1048576)
    (h : ∀ v' W', BufF w0 W' v' (l ++ [(d, t)]) → W.grownBy W' v.ownBlock → wpList Tryd.prog ops Q rest (a.put o.dst v') W') :
    wpList Tryd.prog ops Q (o :: rest) a (W.alloc (.cells #[.string d, .string t] 25)) := by
  obtain ⟨i0, hi, hz0, hz1, hz2⟩ := info_parts Tryd.infoF
  refine wpList_append_own _ hgd s x 23 ho w0.heap.size 25 i0 _ 2 32 Tryd.underlying23 hi hz0 hz1 hz2 rfl (by decide) v l.length (cellsF l) hs (hbuf.own.alloc _) ⟨W.heap.size, 0, none⟩ 1 1 (cellsF [(d, t)]) hx (by rw [cellsF_len]; rfl) ?_ (cellsF_one _) (by unfold maxLen; omega) (by omega) (by have := hbuf.below.size; simp; omega) ?_
  · intro j u hu
    have hj : j < 2 := by have := (List.getElem?_eq_some_iff.1 hu).1; rwa [cellsF_len] at this
    rw [Addr.add_lit, Nat.zero_add, (Blk.new W _ _).cell j, ← hu]
    rcases j with _ | _ | j
    · rfl
    · rfl
    · omega
  intro v' W' hown hgrow _
  refine h v' W' ⟨?_, ?_⟩ ((World.grownBy_alloc W _ _).trans hgrow)
  · refine (hbuf.alloc _).below.grown hgrow (by have := hbuf.below.size; simp; omega) ?_
    intro k hk
    exact (hbuf.own.lt k hk).1
  · rw [List.length_append, List.length_singleton, cellsF_app]
    exact hown
/-- A block that is a map is none of a row. -/
theorem own_ne_map {w : World} {base : Nat} {e : TypeId} {size : Nat} {v : Value} {n : Nat} {xs : List Value} (h : w.ownsRow base e size v n xs) {b : Nat} {es : Array MapEntry} {c : Nat} (hb : w.heap[b]? = some (.map es c)) : some b ≠ v.ownBlock := by
  intro hh
  rcases h.2 with ⟨h1, _⟩ | ⟨g, cap, cur, h1, _, hg, _⟩
  · rw [h1] at hh; cases hh
  · rw [h1] at hh
    injection hh with hh
    subst hh
    rw [hb] at hg
    cases hg
theorem below_gb {w w' : World} (h : Below w.heap.size w w') (r : Option Nat) : w.grownBy w' r := ⟨h.os, h.tape, h.output, h.size, fun k hk _ => h.block k hk⟩
theorem Tryd.keyS : Keyed Tryd.prog 9 := string_keyed Tryd.underlying9
theorem Tryd.zeroI (w : World) : (zeroValue 3).run Tryd.prog w = .ok (.int .i64 0) w := by kernel_rfl
/-- Block b is a map that counts: a key has more than nought just where p holds of it. -/
def CntD (D : DataW Unit) (n : Nat) (p : List UInt8 → Bool) : Prop := ∀ s : List UInt8, ∃ c : Int, D.atKey (.string s) (.lit (.int .i64 0)) = .lit (.int .i64 c) ∧ 0 ≤ c ∧ c ≤ n ∧ (0 < c ↔ p s = true)
def Cnt (w : World) (b n : Nat) (p : List UInt8 → Bool) : Prop := ∃ D : DataW Unit, w.ownsMap Tryd.prog 9 (plainElem Tryd.prog 3) b n D ∧ CntD D n p
theorem CntD.at {D : DataW Unit} {n : Nat} {p : List UInt8 → Bool} (h : CntD D n p) {s : List UInt8} {c : Int} (hc : D.atKey (.string s) (.lit (.int .i64 0)) = .lit (.int .i64 c)) : 0 ≤ c ∧ c ≤ n ∧ (0 < c ↔ p s = true) := by
  obtain ⟨c', h1, h2, h3, h4⟩ := h s
  rw [hc] at h1
  injection h1 with h1
  injection h1 with _ h1
  subst h1
  exact ⟨h2, h3, h4⟩
theorem CntD.none (p : List UInt8 → Bool) (hp : ∀ s, p s = false) : CntD (.map []) 0 p := fun s => ⟨0, rfl, by omega, by omega, by rw [hp]; simp⟩
theorem CntD.put {D : DataW Unit} {n : Nat} {p q : List UInt8 → Bool} (h : CntD D n p) (hm : IsMap D) {s : List UInt8} {c : Int} (hc : D.atKey (.string s) (.lit (.int .i64 0)) = .lit (.int .i64 c)) (hq : ∀ t, q t = (p t || t == s)) : CntD (D.put (.string s) (.lit (.int .i64 (c + 1)))) (n + 1) q := by
  obtain ⟨h0, h1, _⟩ := h.at hc
  intro t
  by_cases e : t = s
  · subst e
    refine ⟨c + 1, atKey_put_same hm (show WideAt.IsKeyLit (.string t) from trivial) _ _, by omega, by omega, ?_⟩
    rw [hq]; simp; omega
  · obtain ⟨c', g1, g2, g3, g4⟩ := h t
    refine ⟨c', by rw [atKey_put_other (by intro hh; injection hh with hh; exact e hh)]; exact g1, g2, by omega, ?_⟩
    rw [g4, hq]
    have : (t == s) = false := by simpa using e
    rw [this, Bool.or_false]
theorem CntD.del {D : DataW Unit} {n : Nat} {p q : List UInt8 → Bool} (h : CntD D n p) {s : List UInt8} (hq : ∀ t, q t = (p t && !(t == s))) : CntD (D.del (.string s)) n q := by
  intro t
  by_cases e : t = s
  · subst e
    refine ⟨0, atKey_del_same _, by omega, by omega, ?_⟩
    rw [hq]; simp
  · obtain ⟨c', g1, g2, g3, g4⟩ := h t
    refine ⟨c', by rw [atKey_del_other (by intro hh; injection hh with hh; exact e hh)]; exact g1, g2, g3, ?_⟩
    rw [g4, hq]
    have : (t == s) = false := by simpa using e
    rw [this]; simp
theorem Cnt.kept {w w' : World} {b n : Nat} {p : List UInt8 → Bool} {r : Option Nat} (h : Cnt w b n p) (hg : w.grownBy w' r) (hne : some b ≠ r) : Cnt w' b n p := by
  obtain ⟨D, h1, h2⟩ := h
  exact ⟨D, h1.kept hg hne, h2⟩
theorem Cnt.later {w w' : World} {b n : Nat} {p : List UInt8 → Bool} (h : Cnt w b n p) (hb : Below w.heap.size w w') : Cnt w' b n p := h.kept (below_gb hb none) (by simp)
theorem Cnt.ne {w : World} {base : Nat} {e : TypeId} {size : Nat} {v : Value} {k : Nat} {xs : List Value} {b n : Nat} {p : List UInt8 → Bool} (h : Cnt w b n p) (ho : w.ownsRow base e size v k xs) : some b ≠ v.ownBlock := by
  obtain ⟨D, ⟨es, c, hb, _⟩, _⟩ := h
  exact own_ne_map ho hb
/-- Is it the folded name of one of them? -/
def hasNm (l : List Fd) (s : List UInt8) : Bool := l.any fun x => s == (foldB x.1).data.toList
theorem hasNm_next (l : List Fd) (k : Nat) (h : k < l.length) (s : List UInt8) : hasNm (l.take (k + 1)) s = (hasNm (l.take k) s || s == (foldB (fdAt l k).1).data.toList) := by
  unfold hasNm
  rw [takeF_next l k h, List.any_append]; simp
theorem hasNm_mem {l : List Fd} {x : Fd} (h : x ∈ l) : hasNm l (foldB x.1).data.toList = true := by
  unfold hasNm
  rw [List.any_eq_true]
  exact ⟨x, h, by simp⟩
set_option maxHeartbeats 2000000 in
theorem nameCounts_any (v : Value) (l : List Fd) (w : World) (hv : SlF w v l) (hl : l.length ≤ 20) (hn : ∀ j, j < l.length → (fdAt l j).1.size ≤ 40) :
    Calls Tryd.prog 44 #[v] w fun e w' => e = .returned (.map (some w.heap.size)) ∧ Cnt w' w.heap.size l.length (hasNm l) ∧ Below w.heap.size w w' := by
  obtain ⟨a, c0, rfl⟩ := hv.form
  have HV := hideB2 hv
  have HNM := hideB2 hn
  have hmm := @run_makeMap Tryd.prog
  clear hv hn
  generalize hm : l.length = m at *
  have HM := hideB2 hm
  clear hm
  go_enter Tryd.func44, Tryd.ntmps44
  go_wp2
  go_loopw [9] (fun i wr => ∃ k : Nat, k ≤ m ∧ i = .int .i64 k ∧ Cnt wr w.heap.size k (hasNm (l.take k)) ∧ Below w.heap.size w wr) (fun i _ => m - (intOf i).toNat)
  case atStart => exact ⟨0, Nat.zero_le _, rfl, ⟨_, World.ownsMap_made _ _ _ _, CntD.none _ (fun s => by simp [hasNm])⟩, (Below.refl _ _).alloc (Nat.le_refl _) _⟩
  case round =>
    obtain ⟨k, hk, rfl, hc, hb⟩ := hrel
    clear hmm
    by_cases hlt : k < m
    · have hklt : k < l.length := by rw [HM.out]; exact hlt
      obtain ⟨b, rfl, hr⟩ := HV.out.row (by omega)
      have p0 := (hr.keep hb).dat k hklt
      have p1 := (hr.keep hb).saf k hklt
      have hsz := HNM.out k hlt
      have HNX := hideB2 (hasNm_next l k hklt)
      have HBW := hideB2 hb
      have HC := hideB2 hc
      clear hr hb hc
      generalize hx : fdAt l k = x at *
      clear hx
      obtain ⟨d, s⟩ := x
      simp only at p0 p1 hsz HNX
      have hd : d.size ≤ maxLen := by unfold maxLen; omega
      have hfs : (foldB d).size ≤ maxLen := by rw [foldB_size]; exact hd
      have hkey : keyOf Tryd.prog 9 (.string (foldB d)) = some (.string (foldB d).data.toList) := WideMaps.keyOf_string_mk Tryd.underlying9 hfs
      clear hsz hklt hfs
      go_wp2_with (first
        | (go_at_call 27; refine (Fold_any d _ hd).mono ?_; rintro e w3 ⟨rfl, hb3⟩; obtain ⟨D, hown, hD⟩ := (HC.out.later (below_a1 wr (.cells #[.string d, .string s] 25))).later hb3; generalize foldB d = fd at *)
        | (at_lookup; refine wpList_lookup_own_int _ rfl _ _ 61 rfl 9 3 .i64 Tryd.keyS Tryd.underlying61 Tryd.underlying3 (Tryd.zeroI _) w.heap.size k D rfl hown _ _ rfl hkey ?_; intro c hat hwc; obtain ⟨hc0, hc1, _⟩ := hD.at hat)
        | (at_mapUpdate; refine wpList_mapUpdate_own _ rfl _ _ _ 61 rfl 9 3 Tryd.keyS Tryd.underlying61 _ w.heap.size k D rfl hown (by unfold maxLen; omega) _ _ _ rfl rfl hkey _ [] (plainElem_int Tryd.underlying3 (WalkArith.wf_i64 (by omega))) ?_; intro w4 hown4 hgrow4))
      refine ⟨⟨k + 1, by omega, by go_num, ⟨_, hown4, hD.put hown.isMap hat HNX.out⟩, ?_⟩, by simp [intOf]; omega⟩
      exact (below_then HBW.out (below_then (below_a1 wr _) hb3)).grown hgrow4 (below_then HBW.out (below_then (below_a1 wr _) hb3)).size (fun j hj => by cases hj; exact Nat.le_refl _)
    · obtain rfl : k = m := by omega
      have HE := hideB2 (show l.take k = l from List.take_of_length_le (by rw [HM.out]; exact Nat.le_refl _))
      rw [HE.out] at hc
      go_wp2
      go_ret
      exact ⟨rfl, hc, hb⟩
end Go.Proofs.YtmhohponikolfaaDoor
namespace Go.Proofs.YtmhohponikolfaaDoor
set_option linter.unusedVariables false
set_option linter.unusedSimpArgs false
open Go.RowKit Go.Maps
/-- Is the text among these? -/
def inNl (ns : List ByteArray) (s : ByteArray) : Bool := ns.any fun t => s.data.toList == t.data.toList
def elseL (l : List Fd) (ns : List ByteArray) : List Fd := l.filter fun x => !inNl ns (foldB x.1)
theorem elseL_one (l : List Fd) (n : ByteArray) : elseL l [foldB n] = l.filter fun x => !nameIs n x := by
  unfold elseL
  congr 1
  funext x
  simp [inNl, nameIs, eqB, ByteArray.toList_eq]
theorem withoutL_yes {l : List Fd} {n : ByteArray} (h : fieldsQ l = true) : withoutL l n = elseL l [foldB n] := by unfold withoutL; rw [if_pos h, elseL_one]
theorem withoutL_no {l : List Fd} {n : ByteArray} (h : fieldsQ l = false) : withoutL l n = [] := by unfold withoutL; rw [h]; rfl
theorem elseL_next (l : List Fd) (ns : List ByteArray) (k : Nat) (h : k < l.length) : elseL (l.take (k + 1)) ns = elseL (l.take k) ns ++ (if inNl ns (foldB (fdAt l k).1) = true then [] else [fdAt l k]) := by
  unfold elseL
  rw [keepF_next l _ k h]
  cases inNl ns (foldB (fdAt l k).1) <;> simp
theorem elseL_len (l : List Fd) (ns : List ByteArray) : (elseL l ns).length ≤ l.length := List.length_filter_le _ _
def leftP (l : List Fd) (ns : List ByteArray) (s : List UInt8) : Bool := hasNm l s && !(ns.any fun t => s == t.data.toList)
theorem leftP_next (l : List Fd) (ns : List ByteArray) (k : Nat) (h : k < ns.length) (s : List UInt8) : leftP l (ns.take (k + 1)) s = (leftP l (ns.take k) s && !(s == (txAt ns k).data.toList)) := by
  unfold leftP
  rw [List.take_succ_eq_append_getElem h, List.any_append, txAt_get h]
  simp only [List.any_cons, List.any_nil, Bool.or_false, Bool.not_or, Bool.and_assoc]
theorem leftP_at {l : List Fd} {ns : List ByteArray} {x : Fd} (h : x ∈ l) : leftP l ns (foldB x.1).data.toList = !inNl ns (foldB x.1) := by
  unfold leftP inNl
  rw [hasNm_mem h, Bool.true_and]
theorem fdAt_mem {l : List Fd} {k : Nat} (h : k < l.length) : fdAt l k ∈ l := by rw [fdAt_get h]; exact List.getElem_mem h
set_option maxHeartbeats 4000000 in
theorem namedElse_any (v u : Value) (l : List Fd) (ns : List ByteArray) (w : World) (hv : SlF w v l) (hu : SlT w u ns) (hl : l.length ≤ 20) (hn : ∀ j, j < l.length → (fdAt l j).1.size ≤ 40) (hns : ∀ j, j < ns.length → (txAt ns j).size ≤ maxLen) (hnl : ns.length ≤ 1000000) :
    Calls Tryd.prog 26 #[v, u] w fun e w' => ∃ v', e = .returned v' ∧ BufF w w' v' (elseL l ns) := by
  have HNC := hideB2 (nameCounts_any v l w hv hl hn)
  obtain ⟨a, c0, rfl⟩ := hv.form
  obtain ⟨a1, c1, rfl⟩ := hu.form
  have HV := hideB2 hv
  have HU := hideB2 hu
  have HNM := hideB2 hn
  have HNS := hideB2 hns
  clear hv hn hu hns
  generalize hm : l.length = m at *
  have HM := hideB2 hm
  generalize hq : ns.length = q at *
  have HQ := hideB2 hq
  clear hm hq
  go_enter Tryd.func26, Tryd.ntmps26
  go_wp2_with fail
  refine HNC.out.mono ?_
  rintro e w1 ⟨rfl, hc1, hb1⟩
  clear HNC
  generalize hB : w.heap.size = B at *
  have HB := hideB2 hB
  clear hB
  have HC1 := hideB2 hc1
  have HB1 := hideB2 hb1
  clear hc1 hb1
  go_wp2
  go_loopw [15] (fun i wr => ∃ k : Nat, k ≤ q ∧ i = .int .i64 k ∧ Cnt wr B m (leftP l (ns.take k)) ∧ Below B w wr) (fun i _ => q - (intOf i).toNat)
  case atStart => exact ⟨0, Nat.zero_le _, rfl, by
      obtain ⟨D, h1, h2⟩ := HC1.out
      refine ⟨D, h1, fun s => ?_⟩
      obtain ⟨c, g1, g2, g3, g4⟩ := h2 s
      exact ⟨c, g1, g2, g3, by rw [g4]; simp [leftP]⟩, HB1.out⟩
  case round =>
    obtain ⟨k, hk, rfl, hc, hb⟩ := hrel
    clear HC1 HB1
    by_cases hlt : k < q
    · have hklt : k < ns.length := by rw [HQ.out]; exact hlt
      obtain ⟨b, rfl, hr⟩ := HU.out.row (by omega)
      have p0 := (hr.keep (by rw [HB.out]; exact hb)).cell k hklt
      have hsz := HNS.out k hlt
      have HNX := hideB2 (leftP_next l ns k hklt)
      have HBW := hideB2 hb
      obtain ⟨D, hown, hD⟩ := hc
      clear hr hb
      generalize txAt ns k = x at *
      have hkey : keyOf Tryd.prog 9 (.string x) = some (.string x.data.toList) := WideMaps.keyOf_string_mk Tryd.underlying9 hsz
      clear hklt
      go_wp2_with (first
        | (at_delete; refine wpList_delete_own _ rfl _ _ 61 9 rfl 3 Tryd.keyS Tryd.underlying61 _ B m D rfl hown _ _ rfl hkey ?_; intro w4 hown4 hturn4))
      refine ⟨⟨k + 1, by omega, by go_num, ⟨_, hown4, hD.del HNX.out⟩, ?_⟩, by simp [intOf]; omega⟩
      exact HBW.out.grown hturn4.grown (by rw [← HB.out]; exact HBW.out.size) (fun j hj => by cases hj; exact Nat.le_refl _)
    · obtain rfl : k = q := by omega
      have HE := hideB2 (show ns.take k = ns from List.take_of_length_le (by rw [HQ.out]; exact Nat.le_refl _))
      rw [HE.out] at hc
      have HC2 := hideB2 hc
      have HB2 := hideB2 hb
      clear hc hb HE
      go_wp2
      go_loopw [8, 24] (fun o i wq => ∃ k : Nat, k ≤ m ∧ i = .int .i64 k ∧ Cnt wq B m (leftP l ns) ∧ BufF w wq o (elseL (l.take k) ns)) (fun _ i _ => m - (intOf i).toNat)
      case atStart => exact ⟨0, Nat.zero_le _, rfl, HC2.out, (BufF.start w).later (by rw [HB.out]; exact HB2.out)⟩
      case round =>
        obtain ⟨i, hi, rfl, hc, hbuf⟩ := hrel
        clear HC2 HB2
        by_cases hlt2 : i < m
        · have hilt : i < l.length := by rw [HM.out]; exact hlt2
          obtain ⟨b, rfl, hr⟩ := HV.out.row (by omega)
          have p0 := (hr.later hbuf.below hr.lt).dat i hilt
          have p1 := (hr.later hbuf.below hr.lt).saf i hilt
          have hsz := HNM.out i hlt2
          have HNX := hideB2 (elseL_next l ns i hilt)
          have HLP := hideB2 (leftP_at (ns := ns) (fdAt_mem hilt))
          have hvl : (elseL (l.take i) ns).length ≤ 20 := by
            have := elseL_len (l.take i) ns
            rw [List.length_take] at this; omega
          have HVL := hideB2 hvl
          have HC := hideB2 (hc.later (below_a1 _ (.cells #[.string (fdAt l i).1, .string (fdAt l i).2] 25)))
          have A1 := hideB2 (Blk.new wr #[.string (fdAt l i).1, .string (fdAt l i).2] 25)
          have Bf := hideB2 (hbuf.alloc (.cells #[.string (fdAt l i).1, .string (fdAt l i).2] 25))
          clear hr hvl hc
          generalize hx : fdAt l i = x at *
          clear hx
          obtain ⟨d, s⟩ := x
          simp only at p0 p1 hsz HLP HC A1 Bf
          have hd : d.size ≤ maxLen := by unfold maxLen; omega
          have hfs : (foldB d).size ≤ maxLen := by rw [foldB_size]; exact hd
          have hkey : keyOf Tryd.prog 9 (.string (foldB d)) = some (.string (foldB d).data.toList) := WideMaps.keyOf_string_mk Tryd.underlying9 hfs
          clear hsz hilt hfs
          cases hin : inNl ns (foldB d)
          · rw [hin] at HNX HLP
            clear hin
            go_wp2_with (first
              | (go_at_call 27; refine (Fold_any d _ hd).mono ?_; rintro e w3 ⟨rfl, hb3⟩; have HC3 := HC.out.later hb3; obtain ⟨D, hown, hD⟩ := HC3; have hbuf3 := Bf.out.later hb3; obtain ⟨q0, q1⟩ := (A1.out.later hb3).c2; generalize foldB d = fd at *)
              | (at_lookup; refine wpList_lookup_own_int _ rfl _ _ 61 rfl 9 3 .i64 Tryd.keyS Tryd.underlying61 Tryd.underlying3 (Tryd.zeroI _) B m D rfl hown _ _ rfl hkey ?_; intro c hat hwc; have hpos : (0 : Int) < c := (hD.at hat).2.2.2 HLP.out)
              | (at_builtin; refine wp_fapp rfl (.tmp 34) (.tmp 36) rfl _ _ rfl hbuf3 d s rfl (by have := HVL.out; omega) ?_; intro v4 W4 hbuf4 hgrow4))
            refine ⟨⟨i + 1, by omega, by go_num, (Cnt.kept (⟨D, hown, hD⟩ : Cnt _ B m (leftP l ns)) hgrow4 (Cnt.ne (⟨D, hown, hD⟩ : Cnt _ B m (leftP l ns)) hbuf3.own)), ?_⟩, by simp [intOf]; omega⟩
            rw [HNX.out]
            exact hbuf4
          · rw [hin] at HNX HLP
            clear hin
            go_wp2_with (first
              | (go_at_call 27; refine (Fold_any d _ hd).mono ?_; rintro e w3 ⟨rfl, hb3⟩; have HC3 := HC.out.later hb3; obtain ⟨D, hown, hD⟩ := HC3; have hbuf3 := Bf.out.later hb3; generalize foldB d = fd at *)
              | (at_lookup; refine wpList_lookup_own_int _ rfl _ _ 61 rfl 9 3 .i64 Tryd.keyS Tryd.underlying61 Tryd.underlying3 (Tryd.zeroI _) B m D rfl hown _ _ rfl hkey ?_; intro c hat hwc; have hpos : ¬ (0 : Int) < c := fun hh => by have := (hD.at hat).2.2.1 hh; rw [HLP.out] at this; cases this))
            refine ⟨⟨i + 1, by omega, by go_num, ⟨D, hown, hD⟩, ?_⟩, by simp [intOf]; omega⟩
            rw [HNX.out]
            simpa using hbuf3
        · obtain rfl : i = m := by omega
          have HE2 := hideB2 (show l.take i = l from List.take_of_length_le (by rw [HM.out]; exact Nat.le_refl _))
          rw [HE2.out] at hbuf
          go_wp2
          go_ret
          exact ⟨_, rfl, hbuf⟩
set_option maxHeartbeats 1000000 in
theorem Without_any (v : Value) (l : List Fd) (n : ByteArray) (w : World) (hv : SlF w v l) (hl : l.length ≤ 1048576) (ht : totF l ≤ 1099511627776) (hn : n.size ≤ maxLen) :
    Calls Tryd.prog 12 #[v, .string n] w fun e w' => ∃ v', e = .returned v' ∧ BufF w w' v' (withoutL l n) := by
  cases hq : fieldsQ l
  · have HF := hideB2 (withoutL_no (n := n) hq)
    have HQ := hideB2 hq
    obtain ⟨a, c0, rfl⟩ := hv.form
    clear hq
    go_enter Tryd.func12, Tryd.ntmps12
    go_wp2_with (go_at_call 14; refine (FieldsOk_any _ l _ hv hl ht).mono ?_; rintro e w2 ⟨rfl, hb2⟩; rw [HQ.out])
    go_ret
    exact ⟨_, rfl, by rw [HF.out]; exact (BufF.start w).later hb2⟩
  · have HF := hideB2 (withoutL_yes (n := n) hq)
    have HQ := hideB2 hq
    have hl20 := (fieldsQ_iff.1 hq).1
    have HFQ := hideB2 (fun j (hj : j < l.length) => (fieldQ_sizes (fieldsQ_at hq hj)).1)
    have HV := hideB2 hv
    obtain ⟨a, c0, rfl⟩ := hv.form
    have hfs : (foldB n).size ≤ maxLen := by rw [foldB_size]; exact hn
    clear hq hv
    go_enter Tryd.func12, Tryd.ntmps12
    go_wp2_with (first | (go_at_call 14; refine (FieldsOk_any _ l _ HV.out hl ht).mono ?_; rintro e w2 ⟨rfl, hb2⟩; rw [HQ.out]) | (go_at_call 27; refine (Fold_any n _ hn).mono ?_; rintro e w3 ⟨rfl, hb3⟩) | fail)
    have hbw := below_then hb2 hb3
    have hw4 := below_a1 w3 (.cells #[.string (foldB n)] 9)
    have N4 := Blk.new w3 #[.string (foldB n)] 9
    refine (namedElse_any _ _ l [foldB n] _ ((HV.out.later hbw).later hw4) (.inr ⟨w3.heap.size, 1, rfl, ⟨fun j hj => by obtain rfl : j = 0 := by simpa using hj
                                                                                                                        exact N4.cell 0, fun j => N4.free j, N4.lt⟩⟩) hl20 HFQ.out (fun j hj => by obtain rfl : j = 0 := by simpa using hj
                                                                                                                                                                                                   exact hfs) (by simp)).mono ?_
    rintro e w5 ⟨v5, rfl, hbuf⟩
    have hres := hbuf.base (below_then hbw hw4)
    rw [← HF.out] at hres
    have HR := hideB2 hres
    clear hres hbuf N4 hw4 hbw hb2 hb3
    go_wp2
    go_ret
    exact ⟨_, rfl, HR.out⟩
end Go.Proofs.YtmhohponikolfaaDoor
namespace Go.Proofs.YtmhohponikolfaaDoor
set_option linter.unusedVariables false
set_option linter.unusedSimpArgs false
open Go.RowKit

/-- The pieces of a list, cut at commas outside quotes: state 0 outside, 1 inside, 2 behind a backslash inside. -/
def elG : Nat → List UInt8 → List UInt8 → List (List UInt8)
  | _, cur, [] => [cur]
  | 0, cur, b :: r => if b = 44 then cur :: elG 0 [] r else elG (if b = 34 then 1 else 0) (cur ++ [b]) r
  | 1, cur, b :: r => elG (if b = 34 then 0 else if b = 92 then 2 else 1) (cur ++ [b]) r
  | _, cur, b :: r => elG 1 (cur ++ [b]) r
def keepP (p : List UInt8) : List ByteArray := if trimL p = [] then [] else [⟨(trimL p).toArray⟩]
def cleanP (ps : List (List UInt8)) : List ByteArray := ps.flatMap keepP
def elsB (s : ByteArray) : List ByteArray := if s.size ≤ 4000 then cleanP (elG 0 [] s.data.toList) else []

theorem elG_nil (q : Nat) (cur : List UInt8) : elG q cur [] = [cur] := by
  match q with
  | 0 => rfl
  | 1 => rfl
  | n + 2 => rfl
def ERel (L : List UInt8) (q fr k : Nat) (P : List (List UInt8)) : Prop := fr ≤ k ∧ k ≤ L.length ∧ elG 0 [] L = P ++ elG q ((L.take k).drop fr) (L.drop k)
theorem erel_start (L : List UInt8) : ERel L 0 0 0 [] := ⟨Nat.le_refl _, Nat.zero_le _, by simp⟩
theorem dropAt (L : List UInt8) (p : Nat) (h : p < L.length) : L.drop p = L.getD p 0 :: L.drop (p + 1) := by
  rw [List.drop_eq_getElem_cons h]
  simp [List.getD, List.getElem?_eq_getElem h]
theorem takeAt (L : List UInt8) (fr k : Nat) (hf : fr ≤ k) (h : k < L.length) : (L.take (k + 1)).drop fr = (L.take k).drop fr ++ [L.getD k 0] := by
  rw [List.take_succ_eq_append_getElem h, List.drop_append_of_le_length (by simp; omega)]
  simp [List.getD, List.getElem?_eq_getElem h]
theorem erel_end {L : List UInt8} {q fr : Nat} {P : List (List UInt8)} (h : ERel L q fr L.length P) : elG 0 [] L = P ++ [L.drop fr] := by
  rw [h.2.2, List.drop_eq_nil_of_le (Nat.le_refl _), elG_nil, List.take_of_length_le (Nat.le_refl _)]
theorem erel_comma {L : List UInt8} {fr k : Nat} {P : List (List UInt8)} (h : ERel L 0 fr k P) (hk : k < L.length) (hb : L.getD k 0 = 44) : ERel L 0 (k + 1) (k + 1) (P ++ [(L.take k).drop fr]) := by
  refine ⟨Nat.le_refl _, hk, ?_⟩
  rw [h.2.2, dropAt L k hk, elG, if_pos hb]
  have : (L.take (k + 1)).drop (k + 1) = [] := List.drop_eq_nil_of_le (by simp; omega)
  rw [this]; simp
theorem erel_out {L : List UInt8} {fr k : Nat} {P : List (List UInt8)} (h : ERel L 0 fr k P) (hk : k < L.length) (hb : L.getD k 0 ≠ 44) : ERel L (if L.getD k 0 = 34 then 1 else 0) fr (k + 1) P := by
  refine ⟨by have := h.1; omega, hk, ?_⟩
  rw [h.2.2, dropAt L k hk, elG, if_neg hb, takeAt L fr k h.1 hk]
theorem erel_in {L : List UInt8} {fr k : Nat} {P : List (List UInt8)} (h : ERel L 1 fr k P) (hk : k < L.length) : ERel L (if L.getD k 0 = 34 then 0 else if L.getD k 0 = 92 then 2 else 1) fr (k + 1) P := by
  refine ⟨by have := h.1; omega, hk, ?_⟩
  rw [h.2.2, dropAt L k hk, elG, takeAt L fr k h.1 hk]
theorem erel_behind {L : List UInt8} {fr k : Nat} {P : List (List UInt8)} (h : ERel L 2 fr k P) (hk : k < L.length) : ERel L 1 fr (k + 1) P := by
  refine ⟨by have := h.1; omega, hk, ?_⟩
  rw [h.2.2, dropAt L k hk, elG, takeAt L fr k h.1 hk]
  · intro hh; cases hh
  · intro hh; cases hh
theorem erel_behind_end {L : List UInt8} {fr : Nat} {P : List (List UInt8)} (h : ERel L 2 fr L.length P) : ERel L 1 fr L.length P := by
  refine ⟨h.1, h.2.1, ?_⟩
  rw [h.2.2, List.drop_eq_nil_of_le (Nat.le_refl _), elG_nil, elG_nil]
theorem cleanP_snoc (P : List (List UInt8)) (p : List UInt8) : cleanP (P ++ [p]) = cleanP P ++ keepP p := by simp [cleanP]
theorem keepP_len (p : List UInt8) : (keepP p).length ≤ 1 := by unfold keepP; split <;> simp
theorem els_big {s : ByteArray} (h : 4000 < s.size) : elsB s = [] := by unfold elsB; rw [if_neg (by omega)]
theorem els_small {s : ByteArray} (h : s.size ≤ 4000) : elsB s = cleanP (elG 0 [] s.data.toList) := by unfold elsB; rw [if_pos h]
/-- How many pieces there can be. -/
theorem cleanP_len (P : List (List UInt8)) : (cleanP P).length ≤ P.length := by
  induction P with
  | nil => simp [cleanP]
  | cons p P ih =>
    have e : cleanP (p :: P) = keepP p ++ cleanP P := by simp [cleanP]
    rw [e, List.length_append, List.length_cons]
    have := keepP_len p
    omega

/-! A scope in which the run jumps to one of several labels. -/
/-- As Q; by a goto to label l: J l. -/
def jumpsTo (J : Nat → Act → World → Prop) (Q : Exit → Act → World → Prop) : Exit → Act → World → Prop
  | .goto l, a, w => J l a w
  | e, a, w => Q e a w
theorem wp_labels {P : Program} {a : Act} {w : World} {Q : Exit → Act → World → Prop} {c : Code} (rest : Nat → Code) (J : Nat → Act → World → Prop) (μ : Nat → Act → World → Nat)
    (hf : ∀ l a w, J l a w → findLabel c l = some (rest l)) (first : c.wp P (jumpsTo J Q) a w)
    (pass : ∀ l a w, J l a w → (rest l).wp P (jumpsTo (fun l' a' w' => J l' a' w' ∧ μ l' a' w' < μ l a w) Q) a w) : (Code.scope c).wp P Q a w := by
  intro b k cs
  have key : ∀ n l a w, μ l a w = n → J l a w → ∃ e a' w', Q e a' w' ∧ Arrives P (lone (b.at a (.code (rest l) :: .inScope c :: k)) cs w) b k cs e a' w' := by
    intro n
    induction n using Nat.strongRecOn with
    | _ n ih =>
      intro l a w hn hJ
      obtain ⟨e, a₁, w₁, hq, harr⟩ := pass l a w hJ b (.inScope c :: k) cs
      cases e with
      | normal => exact ⟨.normal, a₁, w₁, hq, Steps.trans harr (.one step_inScope)⟩
      | exit id => exact ⟨.exit id, a₁, w₁, hq, fun k' hk => harr k' (by simp [exitTo, hk])⟩
      | goto l' =>
        obtain ⟨hJ', hlt⟩ := hq
        have hg : gotoIn l' (.inScope c :: k) = some (.code (rest l') :: .inScope c :: k) := by simp [gotoIn, hf l' a₁ w₁ hJ']
        obtain ⟨e₂, a₂, w₂, hq₂, harr₂⟩ := ih _ (by omega) l' a₁ w₁ rfl hJ'
        exact ⟨e₂, a₂, w₂, hq₂, .of_steps (harr _ hg) harr₂⟩
      | ret => exact ⟨_, a₁, w₁, hq, harr⟩
      | panic ch => exact ⟨_, a₁, w₁, hq, harr⟩
      | outgrown => exact ⟨_, a₁, w₁, hq, harr⟩
  obtain ⟨e, a₁, w₁, hq, harr⟩ := first b (.inScope c :: k) cs
  cases e with
  | normal => exact ⟨.normal, a₁, w₁, hq, .head step_scope (Steps.trans harr (.one step_inScope))⟩
  | exit id => exact ⟨.exit id, a₁, w₁, hq, fun k' hk => .head step_scope (harr k' (by simp [exitTo, hk]))⟩
  | goto l' =>
    have hJ' : J l' a₁ w₁ := hq
    have hg : gotoIn l' (.inScope c :: k) = some (.code (rest l') :: .inScope c :: k) := by simp [gotoIn, hf l' a₁ w₁ hJ']
    obtain ⟨e₂, a₂, w₂, hq₂, harr₂⟩ := key _ l' a₁ w₁ rfl hJ'
    exact ⟨e₂, a₂, w₂, hq₂, .of_steps (.head step_scope (harr _ hg)) harr₂⟩
  | ret => exact ⟨_, a₁, w₁, hq, .of_steps (.one step_scope) harr⟩
  | panic ch => exact ⟨_, a₁, w₁, hq, .of_steps (.one step_scope) harr⟩
  | outgrown => exact ⟨_, a₁, w₁, hq, .of_steps (.one step_scope) harr⟩
end Go.Proofs.YtmhohponikolfaaDoor
namespace Go.Proofs.YtmhohponikolfaaDoor
set_option linter.unusedVariables false
set_option linter.unusedSimpArgs false
open Go.RowKit
theorem bl_lt : ∀ x y : List UInt8, Op.bytesLess x y = decide (x < y)
  | [], [] => by simp [Op.bytesLess]
  | [], _ :: _ => by simp [Op.bytesLess]
  | _ :: _, [] => by simp [Op.bytesLess]
  | a :: x, b :: y => by
    have ih := bl_lt x y
    show (decide (a < b) || (a == b && Op.bytesLess x y)) = _
    rw [ih]
    by_cases h1 : a < b
    · simp [h1, List.cons_lt_cons_iff]
    · by_cases h2 : a = b
      · subst h2; simp [h1, List.cons_lt_cons_iff]
      · simp [h1, h2, List.cons_lt_cons_iff]
/-- A text put into a list at its place. -/
def insM (s : ByteArray) : List ByteArray → List ByteArray
  | [] => [s]
  | x :: r => if Op.bytesLess s.toList x.toList = true then s :: x :: r else x :: insM s r
def putM (M : List ByteArray) (s : ByteArray) : List ByteArray := if inNl M s = true then M else insM s M
theorem insM_past (s : ByteArray) (a b : List ByteArray) (h : ∀ x ∈ a, Op.bytesLess s.toList x.toList = false) : insM s (a ++ b) = a ++ insM s b := by
  induction a with
  | nil => rfl
  | cons x a ih =>
    rw [List.cons_append, insM, if_neg (by rw [h x (by simp)]; simp), ih (fun y hy => h y (by simp [hy]))]; rfl
theorem insM_done (s : ByteArray) (a b : List ByteArray) (h : ∃ x ∈ a, Op.bytesLess s.toList x.toList = true) : insM s (a ++ b) = insM s a ++ b := by
  induction a with
  | nil => obtain ⟨x, hx, _⟩ := h; simp at hx
  | cons x a ih =>
    rw [List.cons_append, insM, insM]
    by_cases hx : Op.bytesLess s.toList x.toList = true
    · rw [if_pos hx, if_pos hx]; rfl
    · rw [if_neg hx, if_neg hx, ih (by
        obtain ⟨y, hy, hl⟩ := h
        rcases List.mem_cons.1 hy with rfl | hy
        · exact absurd hl hx
        · exact ⟨y, hy, hl⟩)]; rfl
theorem mem_insM (s t : ByteArray) (M : List ByteArray) : t ∈ insM s M ↔ t = s ∨ t ∈ M := by
  induction M with
  | nil => simp [insM]
  | cons x r ih =>
    rw [insM]
    split
    · simp
    · rw [List.mem_cons, ih, List.mem_cons]
      constructor
      · rintro (h | h | h)
        · exact .inr (.inl h)
        · exact .inl h
        · exact .inr (.inr h)
      · rintro (h | h | h)
        · exact .inr (.inl h)
        · exact .inl h
        · exact .inr (.inr h)
/-- Ascending, each once. -/
def Asc (M : List ByteArray) : Prop := M.Pairwise fun a b => a.data.toList < b.data.toList
theorem inNl_iff {M : List ByteArray} {s : ByteArray} : inNl M s = true ↔ s ∈ M := by
  unfold inNl
  rw [List.any_eq_true]
  constructor
  · rintro ⟨t, ht, h⟩
    rw [beq_iff_eq] at h
    rw [bytes_ext h]; exact ht
  · intro h; exact ⟨s, h, by simp⟩
theorem lt_of_not {a b : List UInt8} (h1 : ¬ a < b) (h2 : a ≠ b) : b < a := by
  exact Classical.byContradiction fun h => h2 (List.le_antisymm (List.not_lt.1 h) (List.not_lt.1 h1))
theorem Asc.ins {M : List ByteArray} (h : Asc M) {s : ByteArray} (hs : s ∉ M) : Asc (insM s M) := by
  induction M with
  | nil => exact List.pairwise_singleton _ _
  | cons x r ih =>
    obtain ⟨h1, h2⟩ := List.pairwise_cons.1 h
    rw [insM]
    split
    · rename_i hl
      rw [bl_lt, ByteArray.toList_eq, ByteArray.toList_eq, decide_eq_true_eq] at hl
      refine List.pairwise_cons.2 ⟨fun y hy => ?_, h⟩
      rcases List.mem_cons.1 hy with rfl | hy
      · exact hl
      · exact List.lt_trans hl (h1 y hy)
    · rename_i hl
      rw [bl_lt, ByteArray.toList_eq, ByteArray.toList_eq, decide_eq_true_eq] at hl
      refine List.pairwise_cons.2 ⟨fun y hy => ?_, ih h2 (fun hh => hs (by simp [hh]))⟩
      rcases (mem_insM s y r).1 hy with rfl | hy
      · exact lt_of_not hl (fun hh => hs (by rw [bytes_ext hh]; simp))
      · exact h1 y hy
theorem Asc.put {M : List ByteArray} (h : Asc M) (s : ByteArray) : Asc (putM M s) := by
  unfold putM
  split
  · exact h
  · rename_i hn
    exact h.ins (fun hh => hn (inNl_iff.2 hh))
theorem mem_putM (M : List ByteArray) (s t : ByteArray) : t ∈ putM M s ↔ t = s ∨ t ∈ M := by
  unfold putM
  split
  · rename_i h
    have := inNl_iff.1 h
    constructor
    · exact .inr
    · rintro (rfl | h)
      · exact this
      · exact h
  · exact mem_insM s t M
/-- Is it the text of one of them? -/
def hasT (M : List ByteArray) (s : List UInt8) : Bool := M.any fun t => s == t.data.toList
theorem hasT_iff {M : List ByteArray} {s : List UInt8} : hasT M s = true ↔ (⟨s.toArray⟩ : ByteArray) ∈ M := by
  unfold hasT
  rw [List.any_eq_true]
  constructor
  · rintro ⟨t, ht, h⟩
    rw [beq_iff_eq] at h
    subst h
    exact ht
  · intro h; exact ⟨_, h, by simp⟩
theorem hasT_put (M : List ByteArray) (s : ByteArray) (t : List UInt8) : hasT (putM M s) t = (hasT M t || t == s.data.toList) := by
  rw [Bool.eq_iff_iff, Bool.or_eq_true, hasT_iff, hasT_iff, mem_putM, beq_iff_eq]
  constructor
  · rintro (h | h)
    · right; rw [← h]
    · exact .inl h
  · rintro (h | h)
    · exact .inr h
    · left; subst h; rfl
theorem hasT_next (M : List ByteArray) (k : Nat) (h : k < M.length) (t : List UInt8) : hasT (M.take (k + 1)) t = (hasT (M.take k) t || t == (txAt M k).data.toList) := by
  unfold hasT
  rw [List.take_succ_eq_append_getElem h, List.any_append, txAt_get h]; simp
theorem Asc.nodup {M : List ByteArray} (h : Asc M) : (M.map fun t => t.data.toList).Nodup := by
  unfold List.Nodup
  rw [List.pairwise_map]
  exact h.imp fun hlt he => by rw [he] at hlt; exact List.lt_irrefl _ hlt
/-- Sorted is as it stands. -/
theorem Asc.sort {M : List ByteArray} (h : Asc M) : (M.map fun t => t.data.toList).mergeSort leB = M.map fun t => t.data.toList := by
  refine List.mergeSort_of_pairwise ?_
  rw [List.pairwise_map]
  exact h.imp fun hlt => by simpa [leB] using List.le_of_lt hlt
def cnB : ByteArray := ⟨#[99, 111, 110, 110, 101, 99, 116, 105, 111, 110]⟩
/-- The seven. -/
def base7 : List ByteArray := [cnB, ⟨#[107, 101, 101, 112, 45, 97, 108, 105, 118, 101]⟩, ⟨#[112, 114, 111, 120, 121, 45, 99, 111, 110, 110, 101, 99, 116, 105, 111, 110]⟩, ⟨#[116, 101]⟩, ⟨#[116, 114, 97, 105, 108, 101, 114]⟩, ⟨#[116, 114, 97, 110, 115, 102, 101, 114, 45, 101, 110, 99, 111, 100, 105, 110, 103]⟩, ⟨#[117, 112, 103, 114, 97, 100, 101]⟩]
theorem base7_asc : Asc base7 := by unfold Asc base7 cnB; decide
theorem base7_len : base7.length = 7 := rfl
/-- One word more. -/
def hopStep (M : List ByteArray) (s : ByteArray) : List ByteArray := if tokB s = true then putM M (foldB s) else M
def hopTo (W : List ByteArray) : List ByteArray := W.foldl hopStep base7
def hopW (l : List Fd) : List ByteArray := elsB (joinB (valuesL l cnB))
def hopL (l : List Fd) : List ByteArray := if fieldsQ l = true then hopTo (hopW l) else []
theorem hopTo_next (W : List ByteArray) (k : Nat) (h : k < W.length) : hopTo (W.take (k + 1)) = hopStep (hopTo (W.take k)) (txAt W k) := by
  unfold hopTo
  rw [List.take_succ_eq_append_getElem h, List.foldl_append, txAt_get h]; rfl
theorem hopStep_asc {M : List ByteArray} (h : Asc M) (s : ByteArray) : Asc (hopStep M s) := by
  unfold hopStep; split
  · exact h.put _
  · exact h
theorem hopTo_asc (W : List ByteArray) : Asc (hopTo W) := by
  unfold hopTo
  have : ∀ (W M : List ByteArray), Asc M → Asc (W.foldl hopStep M) := by
    intro W
    induction W with
    | nil => intro M h; exact h
    | cons s W ih => intro M h; exact ih _ (hopStep_asc h s)
  exact this W base7 base7_asc
theorem insM_len (s : ByteArray) (M : List ByteArray) : (insM s M).length = M.length + 1 := by
  induction M with
  | nil => rfl
  | cons x r ih => rw [insM]; split <;> simp [ih]
theorem hopStep_len (M : List ByteArray) (s : ByteArray) : (hopStep M s).length ≤ M.length + 1 := by
  unfold hopStep putM
  split
  · split
    · omega
    · rw [insM_len]; exact Nat.le_refl _
  · omega
theorem hopTo_len (W : List ByteArray) : (hopTo W).length ≤ 7 + W.length := by
  unfold hopTo
  have : ∀ (W M : List ByteArray), (W.foldl hopStep M).length ≤ M.length + W.length := by
    intro W
    induction W with
    | nil => intro M; simp
    | cons s W ih =>
      intro M
      have h1 := ih (hopStep M s)
      have h2 := hopStep_len M s
      simp only [List.foldl_cons, List.length_cons]; omega
  have := this W base7
  rw [base7_len] at this; exact this
theorem hopTo_pos (W : List ByteArray) : 0 < (hopTo W).length := by
  unfold hopTo
  have : ∀ (W M : List ByteArray), 0 < M.length → 0 < (W.foldl hopStep M).length := by
    intro W
    induction W with
    | nil => intro M h; exact h
    | cons s W ih =>
      intro M h
      refine ih _ ?_
      unfold hopStep putM
      split
      · split
        · exact h
        · rw [insM_len]; omega
      · exact h
  exact this W base7 (by rw [base7_len]; omega)
theorem hopTo_sizes (W : List ByteArray) (m : Nat) (hm : 20 ≤ m) (hw : ∀ s ∈ W, s.size ≤ m) : ∀ t ∈ hopTo W, t.size ≤ m := by
  unfold hopTo
  have : ∀ (W M : List ByteArray), (∀ s ∈ W, s.size ≤ m) → (∀ t ∈ M, t.size ≤ m) → ∀ t ∈ W.foldl hopStep M, t.size ≤ m := by
    intro W
    induction W with
    | nil => intro M _ h; exact h
    | cons s W ih =>
      intro M hw h
      refine ih _ (fun x hx => hw x (by simp [hx])) (fun t ht => ?_)
      unfold hopStep at ht
      split at ht
      · rcases (mem_putM _ _ _).1 ht with rfl | ht
        · rw [foldB_size]; exact hw s (by simp)
        · exact h t ht
      · exact h t ht
  refine this W base7 hw (fun t ht => ?_)
  have : ∀ t ∈ base7, t.size ≤ 20 := by unfold base7 cnB; decide
  exact Nat.le_trans (this t ht) hm
end Go.Proofs.YtmhohponikolfaaDoor
namespace Go.Proofs
open Go.Shelf
def Tryd.lays156_ren : Go.Shelf.Ren := ⟨fun | 156 => 67 | 165 => 75 | 166 => 76 | 169 => 77 | 240 => 91 | 241 => 92 | 276 => 99 | 277 => 100 | n => n, fun | 31 => 30 | 9 => 9 | 3 => 3 | 4 => 4 | 0 => 0 | 20 => 20 | 72 => 85 | 76 => 89 | 70 => 83 | 37 => 22 | 75 => 88 | 127 => 106 | 164 => 113 | 5 => 5 | 80 => 91 | n => n, fun | n => n⟩
theorem Tryd.lays156 : Go.Proofs.Lays.n156 Tryd.prog Tryd.lays156_ren := {
  mixed := by kernel_rfl
  f156 := Tryd.func67.trans (congrArg some (by kernel_rfl))
  f165 := Tryd.func75.trans (congrArg some (by kernel_rfl))
  f166 := Tryd.func76.trans (congrArg some (by kernel_rfl))
  f169 := Tryd.func77.trans (congrArg some (by kernel_rfl))
  f240 := Tryd.func91.trans (congrArg some (by kernel_rfl))
  f241 := Tryd.func92.trans (congrArg some (by kernel_rfl))
  f276 := Tryd.func99.trans (congrArg some (by kernel_rfl))
  f277 := Tryd.func100.trans (congrArg some (by kernel_rfl))
  t0 := Tryd.underlying0
  a0 := Tryd.isAgg0
  z0 := Tryd.sizeOf0
  v0 := Tryd.zeroValue0
  t3 := Tryd.underlying3
  a3 := Tryd.isAgg3
  z3 := Tryd.sizeOf3
  v3 := Tryd.zeroValue3
  t4 := Tryd.underlying4
  a4 := Tryd.isAgg4
  z4 := Tryd.sizeOf4
  v4 := Tryd.zeroValue4
  t9 := Tryd.underlying9
  a9 := Tryd.isAgg9
  z9 := Tryd.sizeOf9
  v9 := Tryd.zeroValue9
  t20 := Tryd.underlying20
  a20 := Tryd.isAgg20
  z20 := Tryd.sizeOf20
  v20 := Tryd.zeroValue20
  t31 := Tryd.underlying30
  a31 := Tryd.isAgg30
  z31 := Tryd.sizeOf30
  v31 := Tryd.zeroValue30
  t37 := Tryd.underlying22
  a37 := Tryd.isAgg22
  z37 := Tryd.sizeOf22
  v37 := Tryd.zeroValue22
  t70 := Tryd.underlying83
  a70 := Tryd.isAgg83
  z70 := Tryd.sizeOf83
  v70 := Tryd.zeroValue83
  t72 := Tryd.underlying85
  a72 := Tryd.isAgg85
  z72 := Tryd.sizeOf85
  v72 := Tryd.zeroValue85
  t75 := Tryd.underlying88
  a75 := Tryd.isAgg88
  z75 := Tryd.sizeOf88
  v75 := Tryd.zeroValue88
  t76 := Tryd.underlying89
  a76 := Tryd.isAgg89
  z76 := Tryd.sizeOf89
  v76 := Tryd.zeroValue89
  t127 := Tryd.underlying106
  a127 := Tryd.isAgg106
  z127 := Tryd.sizeOf106
  v127 := Tryd.zeroValue106
  t164 := Tryd.underlying113
  a164 := Tryd.isAgg113
  z164 := Tryd.sizeOf113
  v164 := Tryd.zeroValue113 }
end Go.Proofs
namespace Go.Proofs.YtmhohponikolfaaDoor
set_option linter.unusedVariables false
set_option linter.unusedSimpArgs false
open Go.RowKit

theorem trimB_list (s : ByteArray) : (trimB s).data.toList = trimL s.data.toList := rfl
theorem keep_none {s : ByteArray} (h : (trimB s).toList.isEmpty = true) : keepP s.data.toList = [] := by
  rw [ByteArray.toList_eq, trimB_list, List.isEmpty_iff] at h
  unfold keepP; rw [if_pos h]
theorem keep_some {s : ByteArray} (h : (trimB s).toList.isEmpty = false) : keepP s.data.toList = [trimB s] := by
  rw [ByteArray.toList_eq, trimB_list, List.isEmpty_eq_false_iff] at h
  unfold keepP; rw [if_neg h]; rfl
set_option maxHeartbeats 1000000 in
theorem withPiece_any (w0 w : World) (v : Value) (l : List ByteArray) (s : ByteArray) (hbuf : BufS w0 w v l) (hl : l.length ≤ 1000000) (hs : s.size ≤ maxLen) :
    Calls Tryd.prog 66 #[v, .string s] w fun e w' => ∃ v', e = .returned v' ∧ BufS w0 w' v' (l ++ keepP s.data.toList) := by
  go_enter Tryd.func66, Tryd.ntmps66
  go_wp2_with fail
  refine (Trim_any s _ hs).mono ?_
  rintro e w1 ⟨rfl, rfl⟩
  cases he : (trimB s).toList.isEmpty
  · have hk : Hid (keepP s.data.toList = [trimB s]) := keep_some he
    generalize trimB s = t at *
    go_wp2_with (at_builtin; refine wp_sapp rfl (.tmp 10) (.tmp 12) rfl _ _ rfl hbuf t rfl (by omega) ?_; intro v2 W2 hbuf2)
    go_ret
    exact ⟨_, rfl, by rw [hk.out]; exact hbuf2⟩
  · have hk : Hid (keepP s.data.toList = []) := keep_none he
    generalize trimB s = t at *
    go_wp2
    go_ret
    exact ⟨_, rfl, by rw [hk.out, List.append_nil]; exact hbuf⟩
end Go.Proofs.YtmhohponikolfaaDoor
namespace Go.Proofs.YtmhohponikolfaaDoor
set_option linter.unusedVariables false
set_option linter.unusedSimpArgs false
open Go.RowKit

theorem u8eq {b c : UInt8} (h : (b.toNat : Int) = (c.toNat : Int)) : b = c := UInt8.toNat_inj.1 (by omega)
theorem u8ne {b c : UInt8} (h : (b.toNat : Int) ≠ (c.toNat : Int)) : b ≠ c := fun e => h (by rw [e])
theorem wp_labels2 {P : Program} {a : Act} {w : World} {Q : Exit → Act → World → Prop} {c : Code} (J : Nat → Act → World → Prop) (μ : Nat → Act → World → Nat)
    (hf : ∀ l a w, J l a w → findLabel c l = some ((findLabel c l).getD .skip)) (first : c.wp P (jumpsTo J Q) a w)
    (pass : ∀ l a w, J l a w → ((findLabel c l).getD .skip).wp P (jumpsTo (fun l' a' w' => J l' a' w' ∧ μ l' a' w' < μ l a w) Q) a w) : (Code.scope c).wp P Q a w :=
  wp_labels (fun l => (findLabel c l).getD .skip) J μ hf first pass
/-- The code behind a label, less the empty step in front. -/
def strip : Code → Code
  | .seq .skip r => r
  | c => c
theorem strip_wp {P : Program} {c : Code} {Q : Exit → Act → World → Prop} {a : Act} {w : World} (h : (strip c).wp P Q a w) : c.wp P Q a w := by
  unfold strip at h
  split at h
  · exact wp_seq (wp_skip h)
  · exact h
theorem wp_labels3 {P : Program} {a : Act} {w : World} {Q : Exit → Act → World → Prop} {c : Code} (J : Nat → Act → World → Prop) (μ : Nat → Act → World → Nat)
    (hf : ∀ l a w, J l a w → findLabel c l = some ((findLabel c l).getD .skip))
    (pass : ∀ l a w, J l a w → (strip ((findLabel c l).getD .skip)).wp P (jumpsTo (fun l' a' w' => J l' a' w' ∧ μ l' a' w' < μ l a w) Q) a w)
    (first : (∀ l a w, J l a w → (strip ((findLabel c l).getD .skip)).wp P (jumpsTo J Q) a w) → c.wp P (jumpsTo J Q) a w) : (Code.scope c).wp P Q a w := by
  refine wp_labels2 J μ hf (first fun l a w h => Code.wp_mono ?_ (pass l a w h)) fun l a w h => strip_wp (pass l a w h)
  intro e a' w' hq
  cases e with
  | goto l' => exact hq.1
  | normal => exact hq
  | exit _ => exact hq
  | ret => exact hq
  | panic _ => exact hq
  | outgrown => exact hq
/-- The frame at each label. -/
def ElF (s : ByteArray) (v : Value) (x y : Int) (a : Act) : Prop := ∃ u6 u7 u8 u9 u10 u11 u12 u13 u14 u15 u16 u17 u18 u19 u20 u21 u22 u23 u24 u25 u26 u27 u28 u29 u30 u31 u32 u33 u34 u35 u36 u37 u38 u39 u40 u41 u42 u43 u44 u45 u46 u47 u48 u49 u50 u51 u52 u53 u54 u55 u56 u57 u58 u59 u60 : Value, a = ⟨#[.string s, undef, .slice none 0 0, v, .int .i64 x, .int .i64 y, u6, u7, u8, u9, u10, u11, u12, u13, u14, u15, u16, u17, u18, u19, u20, u21, u22, u23, u24, u25, u26, u27, u28, u29, u30, u31, u32, u33, u34, u35, u36, u37, u38, u39, u40, u41, u42, u43, u44, u45, u46, u47, u48, u49, u50, u51, u52, u53, u54, u55, u56, u57, u58, u59, u60], []⟩
theorem elF_eq {s : ByteArray} {v : Value} {x y x' y' : Int} {u6 u7 u8 u9 u10 u11 u12 u13 u14 u15 u16 u17 u18 u19 u20 u21 u22 u23 u24 u25 u26 u27 u28 u29 u30 u31 u32 u33 u34 u35 u36 u37 u38 u39 u40 u41 u42 u43 u44 u45 u46 u47 u48 u49 u50 u51 u52 u53 u54 u55 u56 u57 u58 u59 u60 : Value} (h1 : Value.int .i64 x' = .int .i64 x) (h2 : Value.int .i64 y' = .int .i64 y) :
    (⟨#[.string s, undef, .slice none 0 0, v, .int .i64 x', .int .i64 y', u6, u7, u8, u9, u10, u11, u12, u13, u14, u15, u16, u17, u18, u19, u20, u21, u22, u23, u24, u25, u26, u27, u28, u29, u30, u31, u32, u33, u34, u35, u36, u37, u38, u39, u40, u41, u42, u43, u44, u45, u46, u47, u48, u49, u50, u51, u52, u53, u54, u55, u56, u57, u58, u59, u60], []⟩ : Act) = ⟨#[.string s, undef, .slice none 0 0, v, .int .i64 x, .int .i64 y, u6, u7, u8, u9, u10, u11, u12, u13, u14, u15, u16, u17, u18, u19, u20, u21, u22, u23, u24, u25, u26, u27, u28, u29, u30, u31, u32, u33, u34, u35, u36, u37, u38, u39, u40, u41, u42, u43, u44, u45, u46, u47, u48, u49, u50, u51, u52, u53, u54, u55, u56, u57, u58, u59, u60], []⟩ := by rw [h1, h2]
def ElJ (s : ByteArray) (w0 : World) (q : Nat) (a : Act) (w : World) : Prop := q ≤ 2 ∧ ∃ (v : Value) (fr k : Nat) (P : List (List UInt8)), ElF s v fr k a ∧ ERel s.data.toList q fr k P ∧ BufS w0 w v (cleanP P) ∧ P.length ≤ k
theorem elJ_mk {s : ByteArray} {w0 w : World} {a : Act} (q : Nat) (v : Value) (fr k : Nat) (P : List (List UInt8)) (h1 : ERel s.data.toList q fr k P) (h2 : BufS w0 w v (cleanP P)) (h3 : P.length ≤ k) (h4 : ElF s v fr k a) (hq : q ≤ 2 := by omega) : ElJ s w0 q a w := ⟨hq, v, fr, k, P, h4, h1, h2, h3⟩
def elMu (s : ByteArray) (l : Nat) (a : Act) (_ : World) : Nat := 2 * (s.size - (intOf (a.tmps.getD 5 undef)).toNat) + if l = 2 then 1 else 0
set_option maxRecDepth 1000000 in
set_option maxHeartbeats 4000000 in
theorem Elements_small (s : ByteArray) (w : World) (hs : s.size ≤ 4000) :
    Calls Tryd.prog 54 #[.string s] w fun e w' => ∃ v, e = .returned v ∧ BufS w w' v (elsB s) := by
  have hsm : s.size ≤ maxLen := by unfold maxLen; omega
  have hnb : ¬ (4000 : Int) < (s.size : Int) := by omega
  go_enter Tryd.func54, Tryd.ntmps54
  go_wp2
  refine wp_labels3 (ElJ s w) (elMu s) ?_ ?_ ?_
  · intro l a w hJ
    obtain ⟨hl, _⟩ := hJ
    match l, hl with
    | 0, _ => rfl
    | 1, _ => rfl
    | 2, _ => rfl
  · intro l a wr hJ
    obtain ⟨hl, v, fr, k, P, ⟨u6, u7, u8, u9, u10, u11, u12, u13, u14, u15, u16, u17, u18, u19, u20, u21, u22, u23, u24, u25, u26, u27, u28, u29, u30, u31, u32, u33, u34, u35, u36, u37, u38, u39, u40, u41, u42, u43, u44, u45, u46, u47, u48, u49, u50, u51, u52, u53, u54, u55, u56, u57, u58, u59, u60, rfl⟩, hrel, hbuf, hPk⟩ := hJ
    have hfr := hrel.1
    have hkl := hrel.2.1
    rw [len_data] at hkl
    have hcl := cleanP_len P
    match l, hl with
    | 0, _ =>
      conv => arg 2; whnf
      by_cases hend : k = s.size
      · subst hend
        have hfin : Hid (elsB s = cleanP P ++ keepP (s.extract fr s.size).data.toList) := by
          show _ = _
          rw [els_small hs, extract_list]
          have := hrel
          rw [← len_data] at this
          rw [erel_end this, cleanP_snoc, List.take_of_length_le (by rw [len_data]; exact Nat.le_refl _)]
        have hge : s.size ≤ s.size := Nat.le_refl _
        clear hrel
        go_wp2_with (go_at_call 66; refine (withPiece_any w _ _ _ _ hbuf (by omega) (by simp [ByteArray.size_extract]; unfold maxLen; omega)).mono ?_; rintro e w1 ⟨v', rfl, hbuf1⟩)
        try simp only [jumpsTo]
        go_ret
        exact ⟨_, rfl, by rw [hfin.out]; exact hbuf1⟩
      · have hlt : k < s.size := by omega
        have hkL : k < s.data.toList.length := by rw [len_data]; exact hlt
        have hne : ((k : Int) == (s.size : Int)) = false := by rw [beq_eq_false_iff_ne]; omega
        have hat : s[k] = s.data.toList.getD k 0 := at8_eq s k hlt
        have Hat : Hid (s[k] = s.data.toList.getD k 0) := hat
        have Hrel : Hid (ERel s.data.toList 0 fr k P) := hrel
        clear hat hrel hend
        by_cases h44 : (s[k].toNat : Int) = 44
        · have g44 : ((s[k].toNat : Int) == 44) = true := by simpa using h44
          have hb44 : Hid (s.data.toList.getD k 0 = 44) := by show _ = _; rw [← Hat.out]; exact u8eq h44
          have hrel2 := erel_comma Hrel.out hkL hb44.out
          have HR : Hid (ERel s.data.toList 0 (k + 1) (k + 1) (P ++ [(s.extract fr k).data.toList])) := by
            show ERel _ _ _ _ _
            rw [extract_list]; exact hrel2
          clear h44 hrel2
          go_wp2_with (go_at_call 66; refine (withPiece_any w _ _ _ _ hbuf (by omega) (by simp [ByteArray.size_extract]; unfold maxLen; omega)).mono ?_; rintro e w1 ⟨v', rfl, hbuf1⟩)
          go_step3
          try simp only [jumpsTo]
          refine ⟨elJ_mk 0 v' (k + 1) (k + 1) (P ++ [(s.extract fr k).data.toList]) HR.out (by rw [cleanP_snoc]; exact hbuf1) (by first | omega | (simp; omega)) ⟨_, _, _, _, _, _, _, _, _, _, _, _, _, _, _, _, _, _, _, _, _, _, _, _, _, _, _, _, _, _, _, _, _, _, _, _, _, _, _, _, _, _, _, _, _, _, _, _, _, _, _, _, _, _, _, elF_eq (by go_num) (by go_num)⟩, ?_⟩
          simp [elMu, intOf]; omega
        · have g44 : ((s[k].toNat : Int) == 44) = false := by simpa using h44
          have hn44 : s.data.toList.getD k 0 ≠ 44 := by rw [← Hat.out]; exact u8ne h44
          have hr := erel_out Hrel.out hkL hn44
          by_cases h34 : (s[k].toNat : Int) = 34
          · have g34 : ((s[k].toNat : Int) == 34) = true := by simpa using h34
            rw [if_pos (by rw [← Hat.out]; exact u8eq h34)] at hr
            have HR : Hid (ERel s.data.toList 1 fr (k + 1) P) := hr
            clear h44 h34 hn44 hr
            go_wp2
            go_step3
            try simp only [jumpsTo]
            refine ⟨elJ_mk 1 v fr (k + 1) P HR.out hbuf (by first | omega | (simp; omega)) ⟨_, _, _, _, _, _, _, _, _, _, _, _, _, _, _, _, _, _, _, _, _, _, _, _, _, _, _, _, _, _, _, _, _, _, _, _, _, _, _, _, _, _, _, _, _, _, _, _, _, _, _, _, _, _, _, elF_eq (by go_num) (by go_num)⟩, ?_⟩
            simp [elMu, intOf]; omega
          · have g34 : ((s[k].toNat : Int) == 34) = false := by simpa using h34
            rw [if_neg (by rw [← Hat.out]; exact u8ne h34)] at hr
            have HR : Hid (ERel s.data.toList 0 fr (k + 1) P) := hr
            clear h44 h34 hn44 hr
            go_wp2
            go_step3
            try simp only [jumpsTo]
            refine ⟨elJ_mk 0 v fr (k + 1) P HR.out hbuf (by first | omega | (simp; omega)) ⟨_, _, _, _, _, _, _, _, _, _, _, _, _, _, _, _, _, _, _, _, _, _, _, _, _, _, _, _, _, _, _, _, _, _, _, _, _, _, _, _, _, _, _, _, _, _, _, _, _, _, _, _, _, _, _, elF_eq (by go_num) (by go_num)⟩, ?_⟩
            simp [elMu, intOf]; omega
    | 1, _ =>
      conv => arg 2; whnf
      by_cases hend : k = s.size
      · subst hend
        have hfin : Hid (elsB s = cleanP P ++ keepP (s.extract fr s.size).data.toList) := by
          show _ = _
          rw [els_small hs, extract_list]
          have := hrel
          rw [← len_data] at this
          rw [erel_end this, cleanP_snoc, List.take_of_length_le (by rw [len_data]; exact Nat.le_refl _)]
        clear hrel
        go_wp2_with (go_at_call 66; refine (withPiece_any w _ _ _ _ hbuf (by omega) (by simp [ByteArray.size_extract]; unfold maxLen; omega)).mono ?_; rintro e w1 ⟨v', rfl, hbuf1⟩)
        try simp only [jumpsTo]
        go_ret
        exact ⟨_, rfl, by rw [hfin.out]; exact hbuf1⟩
      · have hlt : k < s.size := by omega
        have hkL : k < s.data.toList.length := by rw [len_data]; exact hlt
        have hne : ((k : Int) == (s.size : Int)) = false := by rw [beq_eq_false_iff_ne]; omega
        have hat : s[k] = s.data.toList.getD k 0 := at8_eq s k hlt
        have Hat : Hid (s[k] = s.data.toList.getD k 0) := hat
        have hr := erel_in hrel hkL
        clear hat hrel hend
        by_cases h34 : (s[k].toNat : Int) = 34
        · have g34 : ((s[k].toNat : Int) == 34) = true := by simpa using h34
          rw [if_pos (by rw [← Hat.out]; exact u8eq h34)] at hr
          have HR : Hid (ERel s.data.toList 0 fr (k + 1) P) := hr
          clear h34 hr
          go_wp2
          go_step3
          try simp only [jumpsTo]
          refine ⟨elJ_mk 0 v fr (k + 1) P HR.out hbuf (by first | omega | (simp; omega)) ⟨_, _, _, _, _, _, _, _, _, _, _, _, _, _, _, _, _, _, _, _, _, _, _, _, _, _, _, _, _, _, _, _, _, _, _, _, _, _, _, _, _, _, _, _, _, _, _, _, _, _, _, _, _, _, _, elF_eq (by go_num) (by go_num)⟩, ?_⟩
          simp [elMu, intOf]; omega
        · have g34 : ((s[k].toNat : Int) == 34) = false := by simpa using h34
          rw [if_neg (by rw [← Hat.out]; exact u8ne h34)] at hr
          by_cases h92 : (s[k].toNat : Int) = 92
          · have g92 : ((s[k].toNat : Int) == 92) = true := by simpa using h92
            rw [if_pos (by rw [← Hat.out]; exact u8eq h92)] at hr
            have HR : Hid (ERel s.data.toList 2 fr (k + 1) P) := hr
            clear h34 h92 hr
            go_wp2
            go_step3
            try simp only [jumpsTo]
            refine ⟨elJ_mk 2 v fr (k + 1) P HR.out hbuf (by first | omega | (simp; omega)) ⟨_, _, _, _, _, _, _, _, _, _, _, _, _, _, _, _, _, _, _, _, _, _, _, _, _, _, _, _, _, _, _, _, _, _, _, _, _, _, _, _, _, _, _, _, _, _, _, _, _, _, _, _, _, _, _, elF_eq (by go_num) (by go_num)⟩, ?_⟩
            simp [elMu, intOf]; omega
          · have g92 : ((s[k].toNat : Int) == 92) = false := by simpa using h92
            rw [if_neg (by rw [← Hat.out]; exact u8ne h92)] at hr
            have HR : Hid (ERel s.data.toList 1 fr (k + 1) P) := hr
            clear h34 h92 hr
            go_wp2
            go_step3
            try simp only [jumpsTo]
            refine ⟨elJ_mk 1 v fr (k + 1) P HR.out hbuf (by first | omega | (simp; omega)) ⟨_, _, _, _, _, _, _, _, _, _, _, _, _, _, _, _, _, _, _, _, _, _, _, _, _, _, _, _, _, _, _, _, _, _, _, _, _, _, _, _, _, _, _, _, _, _, _, _, _, _, _, _, _, _, _, elF_eq (by go_num) (by go_num)⟩, ?_⟩
            simp [elMu, intOf]; omega
    | 2, _ =>
      conv => arg 2; whnf
      by_cases hlt : k < s.size
      · have hkL : k < s.data.toList.length := by rw [len_data]; exact hlt
        have HR : Hid (ERel s.data.toList 1 fr (k + 1) P) := erel_behind hrel hkL
        clear hrel
        go_wp2
        go_step3
        try simp only [jumpsTo]
        refine ⟨elJ_mk 1 v fr (k + 1) P HR.out hbuf (by first | omega | (simp; omega)) ⟨_, _, _, _, _, _, _, _, _, _, _, _, _, _, _, _, _, _, _, _, _, _, _, _, _, _, _, _, _, _, _, _, _, _, _, _, _, _, _, _, _, _, _, _, _, _, _, _, _, _, _, _, _, _, _, elF_eq (by go_num) (by go_num)⟩, ?_⟩
        simp [elMu, intOf]; omega
      · obtain rfl : k = s.size := by omega
        have HR : Hid (ERel s.data.toList 1 fr s.size P) := by
          have := hrel
          rw [← len_data] at this ⊢
          exact erel_behind_end this
        clear hrel
        go_wp2
        go_step3
        try simp only [jumpsTo]
        refine ⟨elJ_mk 1 v fr s.size P HR.out hbuf (by first | omega | (simp; omega)) ⟨_, _, _, _, _, _, _, _, _, _, _, _, _, _, _, _, _, _, _, _, _, _, _, _, _, _, _, _, _, _, _, _, _, _, _, _, _, _, _, _, _, _, _, _, _, _, _, _, _, _, _, _, _, _, _, elF_eq (by go_num) (by go_num)⟩, ?_⟩
        simp [elMu, intOf]
  · intro hgo
    go_wp2
    go_step3
    apply_assumption
    refine hgo 0 _ w ?_
    exact elJ_mk 0 _ 0 0 [] (erel_start _) (BufS.start w) (Nat.zero_le _) ⟨_, _, _, _, _, _, _, _, _, _, _, _, _, _, _, _, _, _, _, _, _, _, _, _, _, _, _, _, _, _, _, _, _, _, _, _, _, _, _, _, _, _, _, _, _, _, _, _, _, _, _, _, _, _, _, rfl⟩
set_option maxHeartbeats 1000000 in
theorem Elements_any (s : ByteArray) (w : World) (hsm : s.size ≤ maxLen) :
    Calls Tryd.prog 54 #[.string s] w fun e w' => ∃ v, e = .returned v ∧ BufS w w' v (elsB s) := by
  by_cases hs : s.size ≤ 4000
  · exact Elements_small s w hs
  · have hb : Hid (elsB s = []) := els_big (by omega)
    have hnb : (4000 : Int) < (s.size : Int) := by omega
    clear hs
    go_enter Tryd.func54, Tryd.ntmps54
    go_wp2
    refine wp_labels3 (fun _ _ _ => False) (fun _ _ _ => 0) (fun _ _ _ h => h.elim) (fun _ _ _ h => h.elim) (fun _ => ?_)
    go_wp2
    simp only [jumpsTo]
    go_ret
    exact ⟨_, rfl, by rw [hb.out]; exact BufS.start w⟩
end Go.Proofs.YtmhohponikolfaaDoor
namespace Go.Proofs.YtmhohponikolfaaDoor
set_option linter.unusedVariables false
set_option linter.unusedSimpArgs false
open Go.RowKit
theorem joinL_lib : ∀ l : List ByteArray, Lib.join (l.map (·.data.toList)) [44, 32] = joinL l
  | [] => rfl
  | [a] => by simp [Lib.join, joinL, List.intercalate, List.intersperse]
  | a :: b :: r => by
    have ih := joinL_lib (b :: r)
    rw [joinL_two, ← ih]
    simp [Lib.join, List.intercalate, List.intersperse]
theorem joinB_len {l : List Fd} {n : ByteArray} : (joinL (valuesL l n)).length ≤ 3840 := by
  have h1 := joinL_len (valuesL l n) 190 (fun v hv => valuesL_size hv)
  have h2 := valuesL_len l n
  have h3 : (valuesL l n).length * (190 + 2) ≤ 20 * 192 := Nat.mul_le_mul h2 (by omega)
  omega
theorem joinB_size {l : List Fd} {n : ByteArray} : (joinB (valuesL l n)).size ≤ 3840 := by
  show (joinL (valuesL l n)).toArray.size ≤ _
  simpa using joinB_len
theorem Tryd.extraJ : Builder.Extra Tryd.prog Tryd.lays156_ren := { sizeBuilder := by kernel_rfl, liesBuilder := by kernel_rfl, t5 := Tryd.underlying5, a5 := Tryd.isAgg5, z5 := Tryd.sizeOf5, v5 := Tryd.zeroValue5, infoByte := by kernel_rfl, cellsByte := by kernel_rfl, sizeByte := by kernel_rfl, neB5 := by decide }
theorem Join_any (w0 w : World) (v : Value) (l : List ByteArray) (hb : BufS w0 w v l) (hl : l.length ≤ 20) (hlen : (joinL l).length ≤ 3840) :
    Calls Tryd.prog 67 #[v, .string ⟨#[44, 32]⟩] w fun e w' => e = .returned (.string (joinB l)) ∧ Below w.heap.size w w' := by
  rcases hb.own.2 with ⟨h1, h2⟩ | ⟨g, cap, cur, h1, hg, hh, hc, _⟩
  · obtain rfl : l = [] := List.eq_nil_of_length_eq_zero h2
    subst h1
    refine (Any.strings_Join_none Tryd.lays156 Tryd.extraJ none 0 ⟨#[44, 32]⟩ w).mono ?_
    rintro e w' ⟨rfl, rfl⟩
    exact ⟨rfl, Below.refl _ _⟩
  · have hlt := (hb.own.lt g (by rw [h1]; rfl)).2
    have hcell : ∀ (j : Nat) x, l[j]? = some x → w.cell? ⟨g, 0 + j, none⟩ = some (.string x) := by
      intro j x hx
      have := hb.own.cells (g := g) (by rw [h1]; rfl) j (.string x) (by simp [hx])
      rwa [Addr.add_lit] at this
    subst h1
    have := Any.strings_Join Tryd.lays156 Tryd.extraJ g 0 cap l ⟨#[44, 32]⟩ w hcell hlt (by omega) hc (by
      show (Lib.join (l.map (·.data.toList)) [44, 32]).length ≤ _
      rw [joinL_lib]; omega)
    refine this.mono ?_
    rintro e w' ⟨rfl, hb'⟩
    refine ⟨?_, hb'⟩
    show Ending.returned (.string ⟨(Lib.join (l.map (·.data.toList)) [44, 32]).toArray⟩) = _
    rw [joinL_lib]; rfl
set_option maxHeartbeats 1000000 in
theorem Joined_any (v : Value) (l : List Fd) (n : ByteArray) (w : World) (hv : SlF w v l) (hl : l.length ≤ 1048576) (ht : totF l ≤ 1099511627776) (hn : n.size ≤ maxLen) :
    Calls Tryd.prog 55 #[v, .string n] w fun e w' => e = .returned (.string (joinB (valuesL l n))) ∧ Below w.heap.size w w' := by
  have HV := hideB2 (Values_any v l n w hv hl ht hn)
  have HJ := hideB2 (fun w1 v1 (h : BufS w w1 v1 (valuesL l n)) => Join_any w w1 v1 _ h (valuesL_len l n) joinB_len)
  generalize valuesL l n = L at *
  generalize joinB L = R at *
  obtain ⟨a, c0, rfl⟩ := hv.form
  go_enter Tryd.func55, Tryd.ntmps55
  go_wp2_with fail
  refine HV.out.mono ?_
  rintro e w1 ⟨v1, rfl, hb1⟩
  go_wp2_with fail
  refine (HJ.out w1 v1 hb1).mono ?_
  rintro e w2 ⟨rfl, hb2⟩
  have HB := hideB2 (below_then hb1.below hb2)
  clear hb1 hb2
  go_wp2
  go_ret
  exact ⟨rfl, HB.out⟩
theorem joinB_next (l : List ByteArray) (k : Nat) (h : k < l.length) (h0 : 0 < k) : joinB (l.take k) ++ ⟨#[44, 32]⟩ ++ txAt l k = joinB (l.take (k + 1)) := by
  apply bytes_ext
  rw [List.take_succ_eq_append_getElem h]
  show _ = joinL (l.take k ++ [l[k]])
  rw [joinL_snoc _ _ (by intro hh; have := congrArg List.length hh; rw [List.length_take, List.length_nil] at this; omega), txAt_get h]
  simp [Go.Joins.data_append, joinB]
theorem joinB_first (l : List ByteArray) (h : 0 < l.length) : (⟨#[]⟩ : ByteArray) ++ txAt l 0 = joinB (l.take 1) := by
  apply bytes_ext
  rw [List.take_succ_eq_append_getElem h, txAt_get h]
  simp [Go.Joins.data_append, joinB, joinL]
theorem joinL_take (l : List ByteArray) (m k : Nat) (h : ∀ v ∈ l, v.size ≤ m) : (joinL (l.take k)).length ≤ l.length * (m + 2) := by
  have h1 := joinL_len (l.take k) m (fun v hv => h v (List.mem_of_mem_take hv))
  rw [List.length_take] at h1
  exact Nat.le_trans h1 (Nat.mul_le_mul_right _ (by omega))
set_option maxHeartbeats 1000000 in
theorem Words_any (v : Value) (l : List Fd) (n : ByteArray) (w : World) (hv : SlF w v l) (hl : l.length ≤ 1048576) (ht : totF l ≤ 1099511627776) (hn : n.size ≤ maxLen) :
    Calls Tryd.prog 41 #[v, .string n] w fun e w' => ∃ v', e = .returned v' ∧ BufS w w' v' (elsB (joinB (valuesL l n))) := by
  have HV := hideB2 (Joined_any v l n w hv hl ht hn)
  have HE := hideB2 (fun W => Elements_any (joinB (valuesL l n)) W (by have := joinB_size (l := l) (n := n); unfold maxLen; omega))
  generalize joinB (valuesL l n) = R at *
  obtain ⟨a, c0, rfl⟩ := hv.form
  go_enter Tryd.func41, Tryd.ntmps41
  go_wp2_with fail
  refine HV.out.mono ?_
  rintro e w1 ⟨rfl, hb1⟩
  go_wp2_with fail
  refine (HE.out _).mono ?_
  rintro e w2 ⟨v2, rfl, hb2⟩
  have HB := hideB2 (hb2.base hb1)
  clear hb1 hb2
  go_wp2
  go_ret
  exact ⟨_, rfl, HB.out⟩
end Go.Proofs.YtmhohponikolfaaDoor
namespace Go.Proofs
open Go.Shelf
def Tryd.laysKeys_ren : Go.Shelf.Ren := ⟨fun | 7 => 43 | 10 => 58 | n => n, fun | 23 => 61 | 26 => 9 | 3 => 3 | 28 => 65 | 0 => 0 | 27 => 64 | 33 => 58 | 4 => 4 | n => n, fun | n => n⟩
theorem Tryd.laysKeys : Go.Proofs.SlLaysZ.n7 Tryd.prog Tryd.laysKeys_ren := {
  mixed := by kernel_rfl
  f7 := ⟨Tryd.f43.name, by decide, Tryd.func43.trans (congrArg some (by kernel_rfl))⟩
  f10 := ⟨Tryd.f58.name, by decide, Tryd.func58.trans (congrArg some (by kernel_rfl))⟩
  t0 := Tryd.underlying0
  a0 := Tryd.isAgg0
  z0 := Tryd.sizeOf0
  v0 := Tryd.zeroValue0
  t4 := Tryd.underlying4
  a4 := Tryd.isAgg4
  z4 := Tryd.sizeOf4
  v4 := Tryd.zeroValue4
  t23 := Tryd.underlying61
  a23 := Tryd.isAgg61
  z23 := Tryd.sizeOf61
  v23 := Tryd.zeroValue61
  t26 := Tryd.underlying9
  a26 := Tryd.isAgg9
  z26 := Tryd.sizeOf9
  v26 := Tryd.zeroValue9
  t27 := Tryd.underlying64
  a27 := Tryd.isAgg64
  z27 := Tryd.sizeOf64
  v27 := Tryd.zeroValue64
  t28 := Tryd.underlying65
  a28 := Tryd.isAgg65
  z28 := Tryd.sizeOf65
  v28 := Tryd.zeroValue65
  t33 := Tryd.underlying58
  a33 := Tryd.isAgg58
  z33 := Tryd.sizeOf58
  v33 := Tryd.zeroValue58 }
def Tryd.laysSorted_ren : Go.Shelf.Ren := ⟨fun | 6 => 42 | 8 => 56 | 9 => 57 | 11 => 68 | 13 => 70 | 12 => 69 | 23 => 87 | 24 => 88 | 14 => 78 | 15 => 79 | 16 => 80 | 17 => 81 | 18 => 82 | 19 => 83 | 20 => 84 | 21 => 85 | 22 => 86 | 25 => 93 | 26 => 94 | 27 => 95 | 28 => 96 | 29 => 97 | 30 => 98 | 31 => 101 | n => n, fun | 26 => 9 | 28 => 65 | 24 => 30 | 0 => 0 | 3 => 3 | 37 => 69 | 48 => 101 | 50 => 103 | 4 => 4 | 40 => 94 | 39 => 93 | 45 => 98 | 5 => 5 | 9 => 9 | 51 => 107 | 55 => 111 | 57 => 116 | 58 => 117 | 33 => 58 | n => n, fun | n => n⟩
theorem Tryd.laysSorted : Go.Proofs.SlLaysZ.n6 Tryd.prog Tryd.laysSorted_ren := {
  mixed := by kernel_rfl
  f6 := ⟨Tryd.f42.name, by decide, Tryd.func42.trans (congrArg some (by kernel_rfl))⟩
  f8 := ⟨Tryd.f56.name, by decide, Tryd.func56.trans (congrArg some (by kernel_rfl))⟩
  f11 := ⟨Tryd.f68.name, by decide, Tryd.func68.trans (congrArg some (by kernel_rfl))⟩
  t0 := Tryd.underlying0
  a0 := Tryd.isAgg0
  z0 := Tryd.sizeOf0
  v0 := Tryd.zeroValue0
  t24 := Tryd.underlying30
  a24 := Tryd.isAgg30
  z24 := Tryd.sizeOf30
  v24 := Tryd.zeroValue30
  t26 := Tryd.underlying9
  a26 := Tryd.isAgg9
  z26 := Tryd.sizeOf9
  v26 := Tryd.zeroValue9
  t28 := Tryd.underlying65
  a28 := Tryd.isAgg65
  z28 := Tryd.sizeOf65
  v28 := Tryd.zeroValue65
  i26 := by kernel_rfl }
def Tryd.laysSort_ren : Go.Shelf.Ren := ⟨fun | 6 => 57 | 8 => 70 | 9 => 69 | 19 => 87 | 20 => 88 | 21 => 78 | 22 => 79 | 23 => 80 | 24 => 81 | 25 => 82 | 26 => 83 | 27 => 84 | 28 => 85 | 29 => 86 | 36 => 93 | 31 => 94 | 32 => 95 | 37 => 96 | 38 => 97 | 39 => 98 | 41 => 101 | n => n, fun | 27 => 30 | 29 => 9 | 3 => 3 | 32 => 69 | 26 => 30 | 0 => 0 | 44 => 101 | 46 => 103 | 4 => 4 | 36 => 94 | 35 => 93 | 41 => 98 | 5 => 5 | 9 => 9 | 53 => 107 | 57 => 111 | 63 => 116 | 64 => 117 | n => n, fun | n => n⟩
theorem Tryd.laysSort : Go.Proofs.SlLaysM.n6 Tryd.prog Tryd.laysSort_ren := {
  mixed := by kernel_rfl
  f6 := ⟨Tryd.f57.name, by decide, Tryd.func57.trans (congrArg some (by kernel_rfl))⟩
  f8 := Tryd.func70.trans (congrArg some (by kernel_rfl))
  f9 := ⟨Tryd.f69.name, by decide, Tryd.func69.trans (congrArg some (by kernel_rfl))⟩
  f19 := Tryd.func87.trans (congrArg some (by kernel_rfl))
  f20 := Tryd.func88.trans (congrArg some (by kernel_rfl))
  f21 := ⟨Tryd.f78.name, by decide, Tryd.func78.trans (congrArg some (by kernel_rfl))⟩
  f22 := ⟨Tryd.f79.name, by decide, Tryd.func79.trans (congrArg some (by kernel_rfl))⟩
  f23 := ⟨Tryd.f80.name, by decide, Tryd.func80.trans (congrArg some (by kernel_rfl))⟩
  f24 := ⟨Tryd.f81.name, by decide, Tryd.func81.trans (congrArg some (by kernel_rfl))⟩
  f25 := ⟨Tryd.f82.name, by decide, Tryd.func82.trans (congrArg some (by kernel_rfl))⟩
  f26 := ⟨Tryd.f83.name, by decide, Tryd.func83.trans (congrArg some (by kernel_rfl))⟩
  f27 := ⟨Tryd.f84.name, by decide, Tryd.func84.trans (congrArg some (by kernel_rfl))⟩
  f28 := ⟨Tryd.f85.name, by decide, Tryd.func85.trans (congrArg some (by kernel_rfl))⟩
  f29 := ⟨Tryd.f86.name, by decide, Tryd.func86.trans (congrArg some (by kernel_rfl))⟩
  f31 := Tryd.func94.trans (congrArg some (by kernel_rfl))
  f32 := Tryd.func95.trans (congrArg some (by kernel_rfl))
  f36 := ⟨Tryd.f93.name, by decide, Tryd.func93.trans (congrArg some (by kernel_rfl))⟩
  f37 := ⟨Tryd.f96.name, by decide, Tryd.func96.trans (congrArg some (by kernel_rfl))⟩
  f38 := ⟨Tryd.f97.name, by decide, Tryd.func97.trans (congrArg some (by kernel_rfl))⟩
  f39 := ⟨Tryd.f98.name, by decide, Tryd.func98.trans (congrArg some (by kernel_rfl))⟩
  f41 := ⟨Tryd.f101.name, by decide, Tryd.func101.trans (congrArg some (by kernel_rfl))⟩
  t0 := Tryd.underlying0
  a0 := Tryd.isAgg0
  z0 := Tryd.sizeOf0
  v0 := Tryd.zeroValue0
  t3 := Tryd.underlying3
  a3 := Tryd.isAgg3
  z3 := Tryd.sizeOf3
  v3 := Tryd.zeroValue3
  t4 := Tryd.underlying4
  a4 := Tryd.isAgg4
  z4 := Tryd.sizeOf4
  v4 := Tryd.zeroValue4
  t5 := Tryd.underlying5
  a5 := Tryd.isAgg5
  z5 := Tryd.sizeOf5
  v5 := Tryd.zeroValue5
  t9 := Tryd.underlying9
  a9 := Tryd.isAgg9
  z9 := Tryd.sizeOf9
  v9 := Tryd.zeroValue9
  t26 := Tryd.underlying30
  a26 := Tryd.isAgg30
  z26 := Tryd.sizeOf30
  v26 := Tryd.zeroValue30
  t27 := Tryd.underlying30
  a27 := Tryd.isAgg30
  z27 := Tryd.sizeOf30
  v27 := Tryd.zeroValue30
  t29 := Tryd.underlying9
  a29 := Tryd.isAgg9
  z29 := Tryd.sizeOf9
  v29 := Tryd.zeroValue9
  t32 := Tryd.underlying69
  a32 := Tryd.isAgg69
  z32 := Tryd.sizeOf69
  v32 := Tryd.zeroValue69
  t35 := Tryd.underlying93
  a35 := Tryd.isAgg93
  z35 := Tryd.sizeOf93
  v35 := Tryd.zeroValue93
  t36 := Tryd.underlying94
  a36 := Tryd.isAgg94
  z36 := Tryd.sizeOf94
  v36 := Tryd.zeroValue94
  t41 := Tryd.underlying98
  a41 := Tryd.isAgg98
  z41 := Tryd.sizeOf98
  v41 := Tryd.zeroValue98
  t44 := Tryd.underlying101
  a44 := Tryd.isAgg101
  z44 := Tryd.sizeOf101
  v44 := Tryd.zeroValue101
  t46 := Tryd.underlying103
  a46 := Tryd.isAgg103
  z46 := Tryd.sizeOf103
  v46 := Tryd.zeroValue103
  t53 := Tryd.underlying107
  a53 := Tryd.isAgg107
  z53 := Tryd.sizeOf107
  v53 := Tryd.zeroValue107
  t57 := Tryd.underlying111
  a57 := Tryd.isAgg111
  z57 := Tryd.sizeOf111
  v57 := Tryd.zeroValue111
  t63 := Tryd.underlying116
  a63 := Tryd.isAgg116
  z63 := Tryd.sizeOf116
  v63 := Tryd.zeroValue116
  t64 := Tryd.underlying117
  a64 := Tryd.isAgg117
  z64 := Tryd.sizeOf117
  v64 := Tryd.zeroValue117 }
end Go.Proofs
