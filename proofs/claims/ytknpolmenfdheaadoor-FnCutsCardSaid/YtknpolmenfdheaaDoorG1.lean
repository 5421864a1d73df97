/-
  Chapter 4: stores as lists of segments, and rows of segments in memory.
-/
import Derived.Test.YtknpolmenfdheaaDoorBK
import Derived.OwnWalk
import Derived.Laws.ResultCell
import Derived.Laws.OwnMore
import Derived.Deep.RegionWith
namespace Go.Proofs.YtknpolmenfdheaaDoor
set_option linter.unusedVariables false
set_option linter.unusedSimpArgs false
open Go.RowKit
/-- A segment: its bytes, and how many of them are synced. -/
abbrev Sg := ByteArray × Int
def sg0 : Sg := (⟨#[]⟩, 0)
/-- Number j, or the empty one. -/
def sgAt (l : List Sg) (j : Nat) : Sg := l.getD j sg0
theorem sgAt_get {l : List Sg} {j : Nat} (h : j < l.length) : sgAt l j = l[j] := by
  unfold sgAt; rw [List.getD, List.getElem?_eq_getElem h]; rfl
/-- All bytes together. -/
def totG (l : List Sg) : Nat := (l.map fun s => s.1.size).sum
theorem totG_nil : totG [] = 0 := rfl
theorem totG_app (a b : List Sg) : totG (a ++ b) = totG a + totG b := by simp [totG]
theorem totG_one (s : Sg) : totG [s] = s.1.size := by simp [totG]
theorem take_next (l : List Sg) (k : Nat) (h : k < l.length) : l.take (k + 1) = l.take k ++ [sgAt l k] := by
  rw [List.take_succ_eq_append_getElem h, sgAt_get h]
theorem totG_next (l : List Sg) (k : Nat) (h : k < l.length) : totG (l.take (k + 1)) = totG (l.take k) + (sgAt l k).1.size := by
  rw [take_next l k h, totG_app, totG_one]
theorem totG_take (l : List Sg) (k : Nat) : totG (l.take k) ≤ totG l := by
  conv => rhs; rw [← List.take_append_drop k l]
  rw [totG_app]; omega
theorem totG_at (l : List Sg) (k : Nat) (h : k < l.length) : totG (l.take k) + (sgAt l k).1.size ≤ totG l := by
  rw [← totG_next l k h]; exact totG_take l _
/-- A row of segments in memory: block b, two cells each. -/
structure RowG (w : World) (b : Nat) (l : List Sg) : Prop where
  dat : ∀ j, j < l.length → w.cell? ⟨b, j * 2, none⟩ = some (.string (sgAt l j).1)
  saf : ∀ j, j < l.length → w.cell? ⟨b, j * 2 + 1, none⟩ = some (.int .i64 (sgAt l j).2)
  free : ∀ j, w.frozen? ⟨b, j, none⟩ = false
  lt : b < w.heap.size
theorem RowG.later {w w' : World} {b B : Nat} {l : List Sg} (h : RowG w b l) (k : Below B w w') (hb : b < B) : RowG w' b l :=
  ⟨fun j hj => by rw [k.cell (p := ⟨b, j * 2, none⟩) hb]; exact h.dat j hj, fun j hj => by rw [k.cell (p := ⟨b, j * 2 + 1, none⟩) hb]; exact h.saf j hj, fun j => by rw [k.frozen (p := ⟨b, j, none⟩) hb]; exact h.free j, Nat.lt_of_lt_of_le h.lt k.size⟩
theorem RowG.keep {w w' : World} {b : Nat} {l : List Sg} (h : RowG w b l) (k : Below w.heap.size w w') : RowG w' b l := h.later k h.lt
theorem results_cellS {fn : Func} {p : Tmp} {ty : TypeId} (h : fn.results = #[.cell p ty]) (tmps : Array Value) (P : Program) (w : World) {b : Nat} {c : Array Value} {t : TypeId} {fs : Array Field} (hp : tmps.getD p undef = .pointer (some ⟨b, 0, none⟩)) (hB : Blk w b c t)
    (hu : P.underlying ty = some (.struct fs)) (hi : (P.info? ty).map (·.size) = some c.size) : (results fn tmps).run P w = .ok (.agg c) w := by
  have hrun := run_loadVar_row (P := P) w b t ty c (0, 0) _ hB hu rfl hi
  have ha : (asAddr (tmps.getD p undef)).run P w = .ok ⟨b, 0, none⟩ w := by rw [hp]; rfl
  have he : (results fn tmps).run P w = ((asAddr (tmps.getD p undef)).run P w).andThen fun a w₁ => (loadVar ty a).run P w₁ := by
    simp only [results, h]
    simp [Sem.run_bind, Result.andThen]
  rw [he, ha]
  exact hrun
theorem results_cellT {fn : Func} {p u : Tmp} {ty : TypeId} (h : fn.results = #[.cell p ty, .tmp u]) (tmps : Array Value) (P : Program) (w : World) {b : Nat} {c : Array Value} {t : TypeId} {fs : Array Field} (hp : tmps.getD p undef = .pointer (some ⟨b, 0, none⟩)) (hB : Blk w b c t)
    (hu : P.underlying ty = some (.struct fs)) (hi : (P.info? ty).map (·.size) = some c.size) : (results fn tmps).run P w = .ok (.tuple #[.agg c, tmps.getD u undef]) w := by
  have hrun := run_loadVar_row (P := P) w b t ty c (0, 0) _ hB hu rfl hi
  have ha : (asAddr (tmps.getD p undef)).run P w = .ok ⟨b, 0, none⟩ w := by rw [hp]; rfl
  rw [results_cell_tmp h, ha]
  show ((loadVar ty ⟨b, 0, none⟩).run P w).andThen _ = _
  rw [hrun]
  rfl
theorem Tryd.infoStore : (Tryd.prog.info? 25).map (·.size) = some 2 := by kernel_rfl
theorem Blk.c2 {w : World} {g : Nat} {x y : Value} {t : TypeId} (h : Blk w g #[x, y] t) : w.cell? ⟨g, 0, none⟩ = some x ∧ w.cell? ⟨g, 1, none⟩ = some y := ⟨h.cell 0, h.cell 1⟩
theorem Blk.set2 {w : World} {g : Nat} {a b : Value} {t : TypeId} (h : Blk w g #[a, b] t) (x y : Value) : Blk ((w.setCell ⟨g, 0, none⟩ x).setCell ⟨g, 1, none⟩ y) g #[x, y] t := (h.set 0 x).set 1 y
theorem Blk.oth2 {w : World} {b g : Nat} {c : Array Value} {t : TypeId} (h : Blk w b c t) (hne : g ≠ b) (x y : Value) : Blk ((w.setCell ⟨g, 0, none⟩ x).setCell ⟨g, 1, none⟩ y) b c t := (h.other hne 0 x).other hne 1 y
theorem below_set2 {B g : Nat} {w0 w : World} (h : Below B w0 w) (hg : B ≤ g) (x y : Value) : Below B w0 ((w.setCell ⟨g, 0, none⟩ x).setCell ⟨g, 1, none⟩ y) :=
  (h.setCell (p := ⟨g, 0, none⟩) hg x).setCell (p := ⟨g, 1, none⟩) hg y
theorem blk_a (w : World) (c : Array Value) (t : TypeId) (o o' : Obj) : Blk (((w.alloc (.cells c t)).alloc o).alloc o') w.heap.size c t := ((Blk.new w c t).alloc o).alloc o'
theorem blk_b (w : World) (c : Array Value) (t : TypeId) (o o' : Obj) : Blk (((w.alloc o).alloc (.cells c t)).alloc o') (w.heap.size + 1) c t := by
  have := (Blk.new (w.alloc o) c t).alloc o'
  simpa using this
theorem blk_c (w : World) (c : Array Value) (t : TypeId) (o o' : Obj) : Blk (((w.alloc o).alloc o').alloc (.cells c t)) (w.heap.size + 1 + 1) c t := by
  have := Blk.new ((w.alloc o).alloc o') c t
  simpa using this
theorem RowG.other {w : World} {b b' : Nat} {l : List Sg} (h : RowG w b l) (hne : b' ≠ b) (k : Nat) (v : Value) : RowG (w.setCell ⟨b', k, none⟩ v) b l :=
  ⟨fun j hj => by rw [World.cell?_setCell_other _ _ _ _ (by intro hh; injection hh with h1 _; exact hne h1)]; exact h.dat j hj,
   fun j hj => by rw [World.cell?_setCell_other _ _ _ _ (by intro hh; injection hh with h1 _; exact hne h1)]; exact h.saf j hj,
   fun j => by rw [World.frozen?_setCell]; exact h.free j, by simpa [World.setCell] using h.lt⟩
theorem RowG.oth2 {w : World} {b g : Nat} {l : List Sg} (h : RowG w b l) (hne : g ≠ b) (x y : Value) : RowG ((w.setCell ⟨g, 0, none⟩ x).setCell ⟨g, 1, none⟩ y) b l := (h.other hne 0 x).other hne 1 y
theorem below_drewN' (w : World) (n : Nat) : Below w.heap.size w (w.drewN n) := ⟨rfl, rfl, rfl, Nat.le_refl _, fun _ _ => rfl⟩
theorem RowG.drewN {w : World} {b : Nat} {l : List Sg} (h : RowG w b l) (n : Nat) : RowG (w.drewN n) b l := h.keep (below_drewN' w n)
/-- Number k gets new bytes and a new mark, cell by cell. -/
theorem RowG.set {w : World} {b : Nat} {l : List Sg} (h : RowG w b l) (k : Nat) (d : ByteArray) (s : Int) (hk : k < l.length) :
    RowG ((w.setCell ⟨b, k * 2, none⟩ (.string d)).setCell ⟨b, k * 2 + 1, none⟩ (.int .i64 s)) b (l.set k (d, s)) := by
  have hat : ∀ j, j < l.length → sgAt (l.set k (d, s)) j = if j = k then (d, s) else sgAt l j := by
    intro j hj
    rw [sgAt_get (by rw [List.length_set]; exact hj), List.getElem_set]
    by_cases e : j = k
    · subst e; simp
    · rw [if_neg (Ne.symm e), if_neg e, sgAt_get hj]
  refine ⟨fun j hj => ?_, fun j hj => ?_, fun j => ?_, by simpa [World.setCell] using h.lt⟩
  · rw [List.length_set] at hj
    rw [World.cell?_setCell_other _ _ _ _ (by intro hh; injection hh with _ h2; omega), hat j hj]
    by_cases e : j = k
    · subst e
      rw [World.cell?_setCell_same _ _ _ (h.dat j hj)]
      simp
    · rw [World.cell?_setCell_other _ _ _ _ (by intro hh; injection hh with _ h2; omega), h.dat j hj, if_neg e]
  · rw [List.length_set] at hj
    rw [hat j hj]
    by_cases e : j = k
    · subst e
      rw [World.cell?_setCell_same (u := .int .i64 (sgAt l j).2) _ _ _ (by rw [World.cell?_setCell_other _ _ _ _ (by intro hh; injection hh with _ h2; omega)]; exact h.saf j hj)]
      simp
    · rw [World.cell?_setCell_other _ _ _ _ (by intro hh; injection hh with _ h2; omega), World.cell?_setCell_other _ _ _ _ (by intro hh; injection hh with _ h2; omega), h.saf j hj, if_neg e]
  · rw [World.frozen?_setCell, World.frozen?_setCell]
    exact h.free j
theorem Tryd.infoG : (Tryd.prog.info? 34).map (fun i => (i.zero, i.size, i.bytes)) = some (some (.agg #[.string ⟨#[]⟩, .int .i64 0]), 2, 24) := by kernel_rfl
theorem made2 (x y : Value) (n j : Nat) (h : j < n) : (madeCells #[x, y] (n * 2)).toList[j * 2]? = some x ∧ (madeCells #[x, y] (n * 2)).toList[j * 2 + 1]? = some y := by
  have h1 : j * 2 < n * 2 := by omega
  have h2 : j * 2 + 1 < n * 2 := by omega
  have e1 : j * 2 % 2 = 0 := by omega
  have e2 : (j * 2 + 1) % 2 = 1 := by omega
  constructor
  · simp [madeCells, h1, e1]
  · simp [madeCells, h2, e2]
theorem rowG_made {w w' : World} {n : Nat} (h : w'.ownsRow w.heap.size 34 2 (.slice (some ⟨w.heap.size, 0, none⟩) n n) n (madeCells (Value.agg #[.string ⟨#[]⟩, .int .i64 0]).cells (n * 2)).toList) : RowG w' w.heap.size (List.replicate n sg0) := by
  have hat : ∀ j, j < n → sgAt (List.replicate n sg0) j = sg0 := fun j hj => by rw [sgAt_get (by simpa using hj)]; simp
  refine ⟨fun j hj => ?_, fun j hj => ?_, fun j => h.frozenAt j, (h.lt w.heap.size rfl).2⟩
  · rw [List.length_replicate] at hj
    rw [h.cellAt (j * 2) (by omega), hat j hj]
    exact (made2 _ _ n j hj).1
  · rw [List.length_replicate] at hj
    rw [h.cellAt (j * 2 + 1) (by omega), hat j hj]
    exact (made2 _ _ n j hj).2
theorem wp_mkG {ops : Array Oper} {rest : List Oper} {o : Oper} {a : Act} {Q : Exit → Act → World → Prop} {w : World} (hg : o.guard = none) (l c : Operand) (hop : o.op = Op.makeSlice 23 l c)
    (n : Nat) (L C : Int) (hl : a.eval l = .int .i64 L) (hc : a.eval c = .int .i64 C) (hL : L = (n : Int)) (hC : C = (n : Int)) (hn : n ≤ 1048576)
    (hK : ∀ w', RowG w' w.heap.size (List.replicate n sg0) → Below w.heap.size w w' → wpList Tryd.prog ops Q rest (a.put o.dst (.slice (some ⟨w.heap.size, 0, none⟩) n n)) w') :
    wpList Tryd.prog ops Q (o :: rest) a w := by
  obtain ⟨i0, hi, hz0, hz1, hz2⟩ := info_parts Tryd.infoG
  refine wpList_make_full w hg l c 23 hop w.heap.size 34 i0 _ 2 Tryd.underlying23 hi hz0 hz1 .i64 .i64 L C n hl hc hL hC (by rw [hz2]; omega) (by unfold maxLen; omega) (Nat.le_refl _) ?_
  intro w' hown hgr
  exact hK w' (rowG_made hown) ⟨hgr.os, hgr.tape, hgr.output, hgr.size, fun k hk => hgr.block k hk (by simp)⟩
/-- A slice of segments that came in. -/
def ArgG (w : World) (a : Option Addr) (len : Nat) (l : List Sg) : Prop :=
  l.length = len ∧ (len = 0 ∨ ∃ b off, a = some ⟨b, off, none⟩ ∧ b < w.heap.size ∧ ∀ i, i < len → w.cell? ⟨b, off + i * 2, none⟩ = some (.string (sgAt l i).1) ∧ w.cell? ⟨b, off + i * 2 + 1, none⟩ = some (.int .i64 (sgAt l i).2))
theorem ArgG.later {w w' : World} {a : Option Addr} {len : Nat} {l : List Sg} (h : ArgG w a len l) (k : Below w.heap.size w w') : ArgG w' a len l := by
  obtain ⟨h1, h2⟩ := h
  refine ⟨h1, ?_⟩
  rcases h2 with h2 | ⟨b, off, e, hb, hc⟩
  · exact .inl h2
  · exact .inr ⟨b, off, e, Nat.lt_of_lt_of_le hb k.size, fun i hi => ⟨by rw [k.cell (p := ⟨b, off + i * 2, none⟩) hb]; exact (hc i hi).1, by rw [k.cell (p := ⟨b, off + i * 2 + 1, none⟩) hb]; exact (hc i hi).2⟩⟩
/-- A slice of segments: nil, or a row. -/
def SlG (w : World) (v : Value) (l : List Sg) : Prop := (v = .slice none 0 0 ∧ l = []) ∨ ∃ b cap, v = .slice (some ⟨b, 0, none⟩) l.length cap ∧ RowG w b l
theorem SlG.later {w w' : World} {v : Value} {l : List Sg} (h : SlG w v l) (k : Below w.heap.size w w') : SlG w' v l := by
  rcases h with h | ⟨b, cap, e, hr⟩
  · exact .inl h
  · exact .inr ⟨b, cap, e, hr.keep k⟩
theorem RowG.sl {w : World} {b n : Nat} {l : List Sg} (h : RowG w b l) (hn : l.length = n) (cap : Nat) : SlG w (.slice (some ⟨b, 0, none⟩) n cap) l := .inr ⟨b, cap, by rw [hn], h⟩
theorem SlG.one {w : World} {v : Value} {l : List Sg} (h : SlG w v l) : v.oneCell' = true := by
  rcases h with ⟨rfl, _⟩ | ⟨b, cap, rfl, _⟩ <;> rfl
theorem SlG.form {w : World} {v : Value} {l : List Sg} (h : SlG w v l) : ∃ a c, v = .slice a l.length c := by
  rcases h with ⟨rfl, rfl⟩ | ⟨b, cap, rfl, _⟩
  · exact ⟨none, 0, rfl⟩
  · exact ⟨_, _, rfl⟩
theorem SlG.row {w : World} {a : Option Addr} {n c : Nat} {l : List Sg} (h : SlG w (.slice a n c) l) (hl : 0 < l.length) : ∃ b, a = some ⟨b, 0, none⟩ ∧ RowG w b l := by
  rcases h with ⟨_, rfl⟩ | ⟨b, cap, e, hr⟩
  · simp at hl
  · injection e with e1; exact ⟨b, e1, hr⟩
end Go.Proofs.YtknpolmenfdheaaDoor
