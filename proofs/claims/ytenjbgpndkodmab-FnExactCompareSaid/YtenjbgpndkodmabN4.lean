/-
  Chapter 9: lines in memory, ten cells each; rows of lines; the laws' sizes, copies and comparisons.
-/
import Derived.Test.YtenjbgpndkodmabN0
import Derived.Test.YtenjbgpndkodmabBK2
import Derived.Test.YtenjbgpndkodmabW1b
import Derived.Deep.DeepCutAuto
namespace Go.Proofs.Ytenjbgpndkodmab
set_option linter.unusedVariables false
set_option linter.unusedSimpArgs false
open Go.RowKit
theorem Blk.c10 {w : World} {g : Nat} {a0 a1 a2 a3 a4 a5 a6 a7 a8 a9 : Value} {t : TypeId} (H : Blk w g #[a0, a1, a2, a3, a4, a5, a6, a7, a8, a9] t) : w.cell? ⟨g, 0, none⟩ = some a0 ∧ w.cell? ⟨g, 1, none⟩ = some a1 ∧ w.cell? ⟨g, 2, none⟩ = some a2 ∧ w.cell? ⟨g, 3, none⟩ = some a3 ∧ w.cell? ⟨g, 4, none⟩ = some a4 ∧ w.cell? ⟨g, 5, none⟩ = some a5 ∧ w.cell? ⟨g, 6, none⟩ = some a6 ∧ w.cell? ⟨g, 7, none⟩ = some a7 ∧ w.cell? ⟨g, 8, none⟩ = some a8 ∧ w.cell? ⟨g, 9, none⟩ = some a9 := ⟨H.cell 0, H.cell 1, H.cell 2, H.cell 3, H.cell 4, H.cell 5, H.cell 6, H.cell 7, H.cell 8, H.cell 9⟩
theorem Blk.f10 {w : World} {g : Nat} {c : Array Value} {t : TypeId} (H : Blk w g c t) : w.frozen? ⟨g, 0, none⟩ = false ∧ w.frozen? ⟨g, 1, none⟩ = false ∧ w.frozen? ⟨g, 2, none⟩ = false ∧ w.frozen? ⟨g, 3, none⟩ = false ∧ w.frozen? ⟨g, 4, none⟩ = false ∧ w.frozen? ⟨g, 5, none⟩ = false ∧ w.frozen? ⟨g, 6, none⟩ = false ∧ w.frozen? ⟨g, 7, none⟩ = false ∧ w.frozen? ⟨g, 8, none⟩ = false ∧ w.frozen? ⟨g, 9, none⟩ = false := ⟨H.free 0, H.free 1, H.free 2, H.free 3, H.free 4, H.free 5, H.free 6, H.free 7, H.free 8, H.free 9⟩
/-- Ten cells stored, from place p on. -/
def set10 (w : World) (g p : Nat) (x : Lx) : World := (((((((((w.setCell ⟨g, p, none⟩ (.string x.ke)).setCell ⟨g, p + 1, none⟩ (.int .i64 x.ti)).setCell ⟨g, p + 2, none⟩ (.int .i64 x.si)).setCell ⟨g, p + 3, none⟩ (.string x.me)).setCell ⟨g, p + 4, none⟩ (.int .i64 x.st)).setCell ⟨g, p + 5, none⟩ (.string x.la)).setCell ⟨g, p + 6, none⟩ (.bool x.rv)).setCell ⟨g, p + 7, none⟩ (.int .i64 x.se)).setCell ⟨g, p + 8, none⟩ (.int .i64 x.wh)).setCell ⟨g, p + 9, none⟩ (.int .i64 x.sz)
/-- A line at a place. -/
structure LxA (w : World) (b p : Nat) (x : Lx) : Prop where
  c0 : w.cell? ⟨b, p, none⟩ = some (.string x.ke)
  c1 : w.cell? ⟨b, p + 1, none⟩ = some (.int .i64 x.ti)
  c2 : w.cell? ⟨b, p + 2, none⟩ = some (.int .i64 x.si)
  c3 : w.cell? ⟨b, p + 3, none⟩ = some (.string x.me)
  c4 : w.cell? ⟨b, p + 4, none⟩ = some (.int .i64 x.st)
  c5 : w.cell? ⟨b, p + 5, none⟩ = some (.string x.la)
  c6 : w.cell? ⟨b, p + 6, none⟩ = some (.bool x.rv)
  c7 : w.cell? ⟨b, p + 7, none⟩ = some (.int .i64 x.se)
  c8 : w.cell? ⟨b, p + 8, none⟩ = some (.int .i64 x.wh)
  c9 : w.cell? ⟨b, p + 9, none⟩ = some (.int .i64 x.sz)
theorem LxA.later {w w' : World} {b p B : Nat} {x : Lx} (h : LxA w b p x) (k : Below B w w') (hb : b < B) : LxA w' b p x :=
  ⟨by rw [k.cell (p := ⟨b, p, none⟩) hb]; exact h.c0, by rw [k.cell (p := ⟨b, p + 1, none⟩) hb]; exact h.c1, by rw [k.cell (p := ⟨b, p + 2, none⟩) hb]; exact h.c2, by rw [k.cell (p := ⟨b, p + 3, none⟩) hb]; exact h.c3, by rw [k.cell (p := ⟨b, p + 4, none⟩) hb]; exact h.c4, by rw [k.cell (p := ⟨b, p + 5, none⟩) hb]; exact h.c5, by rw [k.cell (p := ⟨b, p + 6, none⟩) hb]; exact h.c6, by rw [k.cell (p := ⟨b, p + 7, none⟩) hb]; exact h.c7, by rw [k.cell (p := ⟨b, p + 8, none⟩) hb]; exact h.c8, by rw [k.cell (p := ⟨b, p + 9, none⟩) hb]; exact h.c9⟩
theorem cell_off {w : World} {b b' p p' : Nat} {v : Value} (h : b' ≠ b ∨ p' ≠ p) : (w.setCell ⟨b', p', none⟩ v).cell? ⟨b, p, none⟩ = w.cell? ⟨b, p, none⟩ :=
  World.cell?_setCell_other _ _ _ _ (by intro hh; injection hh with h1 h2; rcases h with h | h; exact h h1; exact h h2)
theorem LxA.other {w : World} {b b' p p' : Nat} {v : Value} {x : Lx} (h : LxA w b p x) (hne : b' ≠ b ∨ p' < p ∨ p + 10 ≤ p') : LxA (w.setCell ⟨b', p', none⟩ v) b p x := by
  have key : ∀ i, i < 10 → b' ≠ b ∨ p' ≠ p + i := by
    intro i hi
    rcases hne with h | h | h
    · exact .inl h
    · exact .inr (by omega)
    · exact .inr (by omega)
  have key0 : b' ≠ b ∨ p' ≠ p := key 0 (by omega)
  exact ⟨by rw [cell_off key0]; exact h.c0, by rw [cell_off (key 1 (by omega))]; exact h.c1, by rw [cell_off (key 2 (by omega))]; exact h.c2, by rw [cell_off (key 3 (by omega))]; exact h.c3, by rw [cell_off (key 4 (by omega))]; exact h.c4, by rw [cell_off (key 5 (by omega))]; exact h.c5, by rw [cell_off (key 6 (by omega))]; exact h.c6, by rw [cell_off (key 7 (by omega))]; exact h.c7, by rw [cell_off (key 8 (by omega))]; exact h.c8, by rw [cell_off (key 9 (by omega))]; exact h.c9⟩
theorem LxA.oth10 {w : World} {b b' p p' : Nat} {x y : Lx} (h : LxA w b p x) (hne : b' ≠ b ∨ p' + 9 < p ∨ p + 10 ≤ p') : LxA (set10 w b' p' y) b p x := by
  have key : ∀ i, i < 10 → b' ≠ b ∨ p' + i < p ∨ p + 10 ≤ p' + i := by
    intro i hi
    rcases hne with h | h | h
    · exact .inl h
    · exact .inr (.inl (by omega))
    · exact .inr (.inr (by omega))
  unfold set10
  exact (((((((((h.other (key 0 (by omega))).other (key 1 (by omega))).other (key 2 (by omega))).other (key 3 (by omega))).other (key 4 (by omega))).other (key 5 (by omega))).other (key 6 (by omega))).other (key 7 (by omega))).other (key 8 (by omega))).other (key 9 (by omega))
theorem cell_set10 {w : World} {b p q : Nat} {x : Lx} (h : ∀ i, i < 10 → q ≠ p + i) : (set10 w b p x).cell? ⟨b, q, none⟩ = w.cell? ⟨b, q, none⟩ := by
  have h0 : p ≠ q := Ne.symm (h 0 (by omega))
  unfold set10
  rw [cell_off (.inr (Ne.symm (h 9 (by omega)))), cell_off (.inr (Ne.symm (h 8 (by omega)))), cell_off (.inr (Ne.symm (h 7 (by omega)))), cell_off (.inr (Ne.symm (h 6 (by omega)))), cell_off (.inr (Ne.symm (h 5 (by omega)))), cell_off (.inr (Ne.symm (h 4 (by omega)))), cell_off (.inr (Ne.symm (h 3 (by omega)))), cell_off (.inr (Ne.symm (h 2 (by omega)))), cell_off (.inr (Ne.symm (h 1 (by omega)))), cell_off (.inr h0)]
theorem cell_on {w : World} {b p : Nat} {v u : Value} (h : w.cell? ⟨b, p, none⟩ = some u) : (w.setCell ⟨b, p, none⟩ v).cell? ⟨b, p, none⟩ = some v := World.cell?_setCell_same _ _ _ h
theorem LxA.set {w : World} {b p : Nat} {x : Lx} (h : LxA w b p x) (y : Lx) : LxA (set10 w b p y) b p y := by
  unfold set10
  have o : ∀ {W : World} {i j : Nat} {v : Value}, i ≠ j → (W.setCell ⟨b, p + i, none⟩ v).cell? ⟨b, p + j, none⟩ = W.cell? ⟨b, p + j, none⟩ := fun hij => cell_off (.inr (by omega))
  have o0 : ∀ {W : World} {j : Nat} {v : Value}, 0 ≠ j → (W.setCell ⟨b, p, none⟩ v).cell? ⟨b, p + j, none⟩ = W.cell? ⟨b, p + j, none⟩ := fun hij => cell_off (.inr (by omega))
  have o1 : ∀ {W : World} {i : Nat} {v : Value}, 0 ≠ i → (W.setCell ⟨b, p + i, none⟩ v).cell? ⟨b, p, none⟩ = W.cell? ⟨b, p, none⟩ := fun hij => cell_off (.inr (by omega))
  constructor
  · rw [o1 (by decide), o1 (by decide), o1 (by decide), o1 (by decide), o1 (by decide), o1 (by decide), o1 (by decide), o1 (by decide), o1 (by decide), cell_on h.c0]
  · rw [o (by decide), o (by decide), o (by decide), o (by decide), o (by decide), o (by decide), o (by decide), o (by decide)]
    exact cell_on (by rw [o0 (by decide)]; exact h.c1)
  · rw [o (by decide), o (by decide), o (by decide), o (by decide), o (by decide), o (by decide), o (by decide)]
    exact cell_on (by rw [o (by decide), o0 (by decide)]; exact h.c2)
  · rw [o (by decide), o (by decide), o (by decide), o (by decide), o (by decide), o (by decide)]
    exact cell_on (by rw [o (by decide), o (by decide), o0 (by decide)]; exact h.c3)
  · rw [o (by decide), o (by decide), o (by decide), o (by decide), o (by decide)]
    exact cell_on (by rw [o (by decide), o (by decide), o (by decide), o0 (by decide)]; exact h.c4)
  · rw [o (by decide), o (by decide), o (by decide), o (by decide)]
    exact cell_on (by rw [o (by decide), o (by decide), o (by decide), o (by decide), o0 (by decide)]; exact h.c5)
  · rw [o (by decide), o (by decide), o (by decide)]
    exact cell_on (by rw [o (by decide), o (by decide), o (by decide), o (by decide), o (by decide), o0 (by decide)]; exact h.c6)
  · rw [o (by decide), o (by decide)]
    exact cell_on (by rw [o (by decide), o (by decide), o (by decide), o (by decide), o (by decide), o (by decide), o0 (by decide)]; exact h.c7)
  · rw [o (by decide)]
    exact cell_on (by rw [o (by decide), o (by decide), o (by decide), o (by decide), o (by decide), o (by decide), o (by decide), o0 (by decide)]; exact h.c8)
  · exact cell_on (by rw [o (by decide), o (by decide), o (by decide), o (by decide), o (by decide), o (by decide), o (by decide), o (by decide), o0 (by decide)]; exact h.c9)
theorem set10_frozen (w : World) (g p : Nat) (x : Lx) (q : Addr) : (set10 w g p x).frozen? q = w.frozen? q := by unfold set10; simp only [World.frozen?_setCell]
theorem set10_size (w : World) (g p : Nat) (x : Lx) : (set10 w g p x).heap.size = w.heap.size := by unfold set10; simp [World.setCell]
theorem below_set10 {B g : Nat} {w0 w : World} (H : Below B w0 w) (hg : B ≤ g) (p : Nat) (x : Lx) : Below B w0 (set10 w g p x) := by
  unfold set10
  exact (((((((((H.setCell (p := ⟨g, p, none⟩) hg _).setCell (p := ⟨g, p + 1, none⟩) hg _).setCell (p := ⟨g, p + 2, none⟩) hg _).setCell (p := ⟨g, p + 3, none⟩) hg _).setCell (p := ⟨g, p + 4, none⟩) hg _).setCell (p := ⟨g, p + 5, none⟩) hg _).setCell (p := ⟨g, p + 6, none⟩) hg _).setCell (p := ⟨g, p + 7, none⟩) hg _).setCell (p := ⟨g, p + 8, none⟩) hg _).setCell (p := ⟨g, p + 9, none⟩) hg _
theorem Blk.other10 {w : World} {b g : Nat} {c : Array Value} {t : TypeId} (H : Blk w b c t) (hne : g ≠ b) (p : Nat) (x : Lx) : Blk (set10 w g p x) b c t := by
  unfold set10
  exact (((((((((H.other hne p _).other hne (p + 1) _).other hne (p + 2) _).other hne (p + 3) _).other hne (p + 4) _).other hne (p + 5) _).other hne (p + 6) _).other hne (p + 7) _).other hne (p + 8) _).other hne (p + 9) _
/-- Ten cells of a block. -/
theorem Blk.lxa {w : World} {g : Nat} {x : Lx} {t : TypeId} (H : Blk w g (lxC x) t) : LxA w g 0 x := ⟨H.cell 0, H.cell 1, H.cell 2, H.cell 3, H.cell 4, H.cell 5, H.cell 6, H.cell 7, H.cell 8, H.cell 9⟩
theorem Blk.set10 {w : World} {g : Nat} {x : Lx} {t : TypeId} (H : Blk w g (lxC x) t) (y : Lx) : Blk (Go.Proofs.Ytenjbgpndkodmab.set10 w g 0 y) g (lxC y) t := by
  have h0 : Blk (w.setCell ⟨g, 0, none⟩ (.string y.ke)) g #[.string y.ke, .int .i64 x.ti, .int .i64 x.si, .string x.me, .int .i64 x.st, .string x.la, .bool x.rv, .int .i64 x.se, .int .i64 x.wh, .int .i64 x.sz] t := H.set 0 _
  have h1 : Blk ((w.setCell ⟨g, 0, none⟩ (.string y.ke)).setCell ⟨g, 1, none⟩ (.int .i64 y.ti)) g #[.string y.ke, .int .i64 y.ti, .int .i64 x.si, .string x.me, .int .i64 x.st, .string x.la, .bool x.rv, .int .i64 x.se, .int .i64 x.wh, .int .i64 x.sz] t := h0.set 1 _
  have h2 : Blk (((w.setCell ⟨g, 0, none⟩ (.string y.ke)).setCell ⟨g, 1, none⟩ (.int .i64 y.ti)).setCell ⟨g, 2, none⟩ (.int .i64 y.si)) g #[.string y.ke, .int .i64 y.ti, .int .i64 y.si, .string x.me, .int .i64 x.st, .string x.la, .bool x.rv, .int .i64 x.se, .int .i64 x.wh, .int .i64 x.sz] t := h1.set 2 _
  have h3 : Blk ((((w.setCell ⟨g, 0, none⟩ (.string y.ke)).setCell ⟨g, 1, none⟩ (.int .i64 y.ti)).setCell ⟨g, 2, none⟩ (.int .i64 y.si)).setCell ⟨g, 3, none⟩ (.string y.me)) g #[.string y.ke, .int .i64 y.ti, .int .i64 y.si, .string y.me, .int .i64 x.st, .string x.la, .bool x.rv, .int .i64 x.se, .int .i64 x.wh, .int .i64 x.sz] t := h2.set 3 _
  have h4 : Blk (((((w.setCell ⟨g, 0, none⟩ (.string y.ke)).setCell ⟨g, 1, none⟩ (.int .i64 y.ti)).setCell ⟨g, 2, none⟩ (.int .i64 y.si)).setCell ⟨g, 3, none⟩ (.string y.me)).setCell ⟨g, 4, none⟩ (.int .i64 y.st)) g #[.string y.ke, .int .i64 y.ti, .int .i64 y.si, .string y.me, .int .i64 y.st, .string x.la, .bool x.rv, .int .i64 x.se, .int .i64 x.wh, .int .i64 x.sz] t := h3.set 4 _
  have h5 : Blk ((((((w.setCell ⟨g, 0, none⟩ (.string y.ke)).setCell ⟨g, 1, none⟩ (.int .i64 y.ti)).setCell ⟨g, 2, none⟩ (.int .i64 y.si)).setCell ⟨g, 3, none⟩ (.string y.me)).setCell ⟨g, 4, none⟩ (.int .i64 y.st)).setCell ⟨g, 5, none⟩ (.string y.la)) g #[.string y.ke, .int .i64 y.ti, .int .i64 y.si, .string y.me, .int .i64 y.st, .string y.la, .bool x.rv, .int .i64 x.se, .int .i64 x.wh, .int .i64 x.sz] t := h4.set 5 _
  have h6 : Blk (((((((w.setCell ⟨g, 0, none⟩ (.string y.ke)).setCell ⟨g, 1, none⟩ (.int .i64 y.ti)).setCell ⟨g, 2, none⟩ (.int .i64 y.si)).setCell ⟨g, 3, none⟩ (.string y.me)).setCell ⟨g, 4, none⟩ (.int .i64 y.st)).setCell ⟨g, 5, none⟩ (.string y.la)).setCell ⟨g, 6, none⟩ (.bool y.rv)) g #[.string y.ke, .int .i64 y.ti, .int .i64 y.si, .string y.me, .int .i64 y.st, .string y.la, .bool y.rv, .int .i64 x.se, .int .i64 x.wh, .int .i64 x.sz] t := h5.set 6 _
  have h7 : Blk ((((((((w.setCell ⟨g, 0, none⟩ (.string y.ke)).setCell ⟨g, 1, none⟩ (.int .i64 y.ti)).setCell ⟨g, 2, none⟩ (.int .i64 y.si)).setCell ⟨g, 3, none⟩ (.string y.me)).setCell ⟨g, 4, none⟩ (.int .i64 y.st)).setCell ⟨g, 5, none⟩ (.string y.la)).setCell ⟨g, 6, none⟩ (.bool y.rv)).setCell ⟨g, 7, none⟩ (.int .i64 y.se)) g #[.string y.ke, .int .i64 y.ti, .int .i64 y.si, .string y.me, .int .i64 y.st, .string y.la, .bool y.rv, .int .i64 y.se, .int .i64 x.wh, .int .i64 x.sz] t := h6.set 7 _
  have h8 : Blk (((((((((w.setCell ⟨g, 0, none⟩ (.string y.ke)).setCell ⟨g, 1, none⟩ (.int .i64 y.ti)).setCell ⟨g, 2, none⟩ (.int .i64 y.si)).setCell ⟨g, 3, none⟩ (.string y.me)).setCell ⟨g, 4, none⟩ (.int .i64 y.st)).setCell ⟨g, 5, none⟩ (.string y.la)).setCell ⟨g, 6, none⟩ (.bool y.rv)).setCell ⟨g, 7, none⟩ (.int .i64 y.se)).setCell ⟨g, 8, none⟩ (.int .i64 y.wh)) g #[.string y.ke, .int .i64 y.ti, .int .i64 y.si, .string y.me, .int .i64 y.st, .string y.la, .bool y.rv, .int .i64 y.se, .int .i64 y.wh, .int .i64 x.sz] t := h7.set 8 _
  have h9 : Blk ((((((((((w.setCell ⟨g, 0, none⟩ (.string y.ke)).setCell ⟨g, 1, none⟩ (.int .i64 y.ti)).setCell ⟨g, 2, none⟩ (.int .i64 y.si)).setCell ⟨g, 3, none⟩ (.string y.me)).setCell ⟨g, 4, none⟩ (.int .i64 y.st)).setCell ⟨g, 5, none⟩ (.string y.la)).setCell ⟨g, 6, none⟩ (.bool y.rv)).setCell ⟨g, 7, none⟩ (.int .i64 y.se)).setCell ⟨g, 8, none⟩ (.int .i64 y.wh)).setCell ⟨g, 9, none⟩ (.int .i64 y.sz)) g #[.string y.ke, .int .i64 y.ti, .int .i64 y.si, .string y.me, .int .i64 y.st, .string y.la, .bool y.rv, .int .i64 y.se, .int .i64 y.wh, .int .i64 y.sz] t := h8.set 9 _
  exact h9
/-- A row of lines in memory: block b, from place o on. -/
structure RowX (w : World) (b o : Nat) (l : List Lx) : Prop where
  dat : ∀ j, j < l.length → LxA w b (o + j * 10) (lxAt l j)
  free : ∀ j, w.frozen? ⟨b, j, none⟩ = false
  lt : b < w.heap.size
theorem RowX.later {w w' : World} {b o B : Nat} {l : List Lx} (h : RowX w b o l) (k : Below B w w') (hb : b < B) : RowX w' b o l :=
  ⟨fun j hj => (h.dat j hj).later k hb, fun j => by rw [k.frozen (p := ⟨b, j, none⟩) hb]; exact h.free j, Nat.lt_of_lt_of_le h.lt k.size⟩
theorem RowX.keep {w w' : World} {b o : Nat} {l : List Lx} (h : RowX w b o l) (k : Below w.heap.size w w') : RowX w' b o l := h.later k h.lt
theorem RowX.other {w : World} {b o b' p : Nat} {l : List Lx} (h : RowX w b o l) (hne : b' ≠ b) (x : Lx) : RowX (set10 w b' p x) b o l :=
  ⟨fun j hj => (h.dat j hj).oth10 (.inl hne), fun j => by rw [set10_frozen]; exact h.free j, by rw [set10_size]; exact h.lt⟩
theorem lxAt_set {l : List Lx} {k j : Nat} {x : Lx} (h : j < l.length) : lxAt (l.set k x) j = if j = k then x else lxAt l j := by
  rw [lxAt_get (by rw [List.length_set]; exact h), List.getElem_set]
  by_cases e : j = k
  · subst e; simp
  · rw [if_neg (Ne.symm e), if_neg e, lxAt_get h]
theorem RowX.set {w : World} {b o : Nat} {l : List Lx} (h : RowX w b o l) (k : Nat) (x : Lx) (hk : k < l.length) : RowX (set10 w b (o + k * 10) x) b o (l.set k x) := by
  refine ⟨fun j hj => ?_, fun j => by rw [set10_frozen]; exact h.free j, by rw [set10_size]; exact h.lt⟩
  rw [List.length_set] at hj
  rw [lxAt_set hj]
  by_cases e : j = k
  · subst e
    rw [if_pos rfl]
    exact (h.dat j hj).set x
  · rw [if_neg e]
    exact (h.dat j hj).oth10 (.inr (by omega))
theorem lxAt_drop {l : List Lx} {k j : Nat} : lxAt (l.drop k) j = lxAt l (k + j) := by unfold lxAt; rw [List.getD, List.getD, List.getElem?_drop]
theorem RowX.drop {w : World} {b o : Nat} {l : List Lx} (h : RowX w b o l) (k : Nat) : RowX w b (o + k * 10) (l.drop k) := by
  refine ⟨fun j hj => ?_, h.free, h.lt⟩
  rw [List.length_drop] at hj
  rw [lxAt_drop]
  have := h.dat (k + j) (by omega)
  rwa [show o + (k + j) * 10 = o + k * 10 + j * 10 by omega] at this
theorem RowX.take {w : World} {b o : Nat} {l : List Lx} (h : RowX w b o l) (k : Nat) : RowX w b o (l.take k) := by
  refine ⟨fun j hj => ?_, h.free, h.lt⟩
  rw [List.length_take] at hj
  rw [take_at (by omega)]
  exact h.dat j (by omega)
/-- A slice of lines: nil, or a row. -/
def SlX (w : World) (v : Value) (l : List Lx) : Prop := (v = .slice none 0 0 ∧ l = []) ∨ ∃ b o cap, v = .slice (some ⟨b, o, none⟩) l.length cap ∧ RowX w b o l
theorem SlX.later {w w' : World} {v : Value} {l : List Lx} (h : SlX w v l) (k : Below w.heap.size w w') : SlX w' v l := by
  rcases h with h | ⟨b, o, cap, e, hr⟩
  · exact .inl h
  · exact .inr ⟨b, o, cap, e, hr.keep k⟩
theorem RowX.sl {w : World} {b o n : Nat} {l : List Lx} (h : RowX w b o l) (hn : l.length = n) (cap : Nat) : SlX w (.slice (some ⟨b, o, none⟩) n cap) l := .inr ⟨b, o, cap, by rw [hn], h⟩
theorem SlX.one {w : World} {v : Value} {l : List Lx} (h : SlX w v l) : v.oneCell' = true := by
  rcases h with ⟨rfl, _⟩ | ⟨b, o, cap, rfl, _⟩ <;> rfl
theorem SlX.form {w : World} {v : Value} {l : List Lx} (h : SlX w v l) : ∃ a c, v = .slice a l.length c := by
  rcases h with ⟨rfl, rfl⟩ | ⟨b, o, cap, rfl, _⟩
  · exact ⟨none, 0, rfl⟩
  · exact ⟨_, _, rfl⟩
theorem SlX.row {w : World} {a : Option Addr} {n c : Nat} {l : List Lx} (h : SlX w (.slice a n c) l) (hl : 0 < l.length) : ∃ b o, a = some ⟨b, o, none⟩ ∧ RowX w b o l := by
  rcases h with ⟨_, rfl⟩ | ⟨b, o, cap, e, hr⟩
  · simp at hl
  · injection e with e1; exact ⟨b, o, e1, hr⟩
theorem Try.infoX : (Try.prog.info? 26).map (fun i => (i.zero, i.size, i.bytes)) = some (some (lxV lx0), 10, 104) := by kernel_rfl
theorem Try.infoX2 : (Try.prog.info? 26).map (·.size) = some 10 := by kernel_rfl
/-- All bytes together. -/
def szX (x : Lx) : Nat := x.ke.size + x.me.size + x.la.size
def totX (l : List Lx) : Nat := (l.map szX).sum
theorem takeX_next (l : List Lx) (k : Nat) (h : k < l.length) : l.take (k + 1) = l.take k ++ [lxAt l k] := by
  rw [List.take_succ_eq_append_getElem h, lxAt_get h]
theorem totX_next (l : List Lx) (k : Nat) (h : k < l.length) : totX (l.take (k + 1)) = totX (l.take k) + szX (lxAt l k) := by
  unfold totX
  rw [takeX_next l k h, List.map_append, List.sum_append]; simp
theorem totX_le (l : List Lx) (k : Nat) : totX (l.take k) ≤ totX l := by
  unfold totX
  conv => rhs; rw [← List.take_append_drop k l]
  rw [List.map_append, List.sum_append]; omega
theorem totX_at (l : List Lx) (k : Nat) (h : k < l.length) : totX (l.take k) + szX (lxAt l k) ≤ totX l := by
  rw [← totX_next l k h]; exact totX_le l _
theorem szX_le {l : List Lx} {k : Nat} (h : k < l.length) : szX (lxAt l k) ≤ totX l := by have := totX_at l k h; omega
/-- A slice of the law's lines that came in. -/
def ArgX (w : World) (a : Option Addr) (len : Nat) (l : List Lx) : Prop :=
  l.length = len ∧ (len = 0 ∨ ∃ b off, a = some ⟨b, off, none⟩ ∧ b < w.heap.size ∧ ∀ i, i < len → LxA w b (off + i * 10) (lxAt l i))
theorem ArgX.later {w w' : World} {a : Option Addr} {len : Nat} {l : List Lx} (h : ArgX w a len l) (k : Below w.heap.size w w') : ArgX w' a len l := by
  obtain ⟨h1, h2⟩ := h
  refine ⟨h1, ?_⟩
  rcases h2 with h2 | ⟨b, off, e, hb, hc⟩
  · exact .inl h2
  · exact .inr ⟨b, off, e, Nat.lt_of_lt_of_le hb k.size, fun i hi => (hc i hi).later k hb⟩
/-- What is asked of a line that came in. -/
structure ZX (x : Lx) : Prop where
  ke : x.ke.size ≤ maxLen
  me : x.me.size ≤ maxLen
  la : x.la.size ≤ maxLen
end Go.Proofs.Ytenjbgpndkodmab
