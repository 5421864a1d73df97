/-
  The walks over chapter 3: words. · Blocks that are known whole. · Blocks of two cells, results in cells: of no chapter. · Chapter 8: rows of loose lines in memory; those of the call's own. · A row of bytes that the call itself makes and appends to, one byte at a time. · The walks over chapter 1: Quote. · Plain texts; both sides. · The walks over chapter 1: cursors. · The walks over chapter 1: a cursor's methods. · The walks over chapter 1: spec.TakeLine. · The walks over chapter 1: impl.TakeLine. · The walks over chapter 1: Token. · The walks over chapter 1: Fold, SameFold.
-/
import Derived.Test.YtffjpidjhcnnmabDoorProg
import Derived.Test.YtffjpidjhcnnmabDoorJ1
import Derived.Test.YtffjpidjhcnnmabDoorJ0
import Derived.Laws.ShiftsVarLaws
import Derived.Deep.QuietTactic
import Derived.BigQuiet
import Derived.Deep.WholeRow
import Derived.StillTailTactics
import Derived.BigRegion
import Derived.Laws.CopyOwn
import Derived.OwnWalk
import Derived.Laws.ResultCell
import Derived.Laws.OwnMore
import Derived.Deep.RegionWith
namespace Go.Proofs.YtffjpidjhcnnmabDoor
set_option linter.unusedVariables false
set_option linter.unusedSimpArgs false
open Go.RowKit
theorem ret_two {a b : Value} {c d : Value} (h : a = c) (k : b = d) : Ending.returned (.tuple #[a, b]) = .returned (.tuple #[c, d]) := by rw [h, k]
/-- Is it a word? -/
def wordQ (n : Int) : Bool := withinB n 0 4294967295
theorem wordQ_iff {n : Int} : wordQ n = true ↔ 0 ≤ n ∧ n ≤ 4294967295 := within_iff
theorem turn_i64w (x n : Nat) (hx : x < 4294967296) (hn : n ≤ 31) :
    bits .and .i64 (bits .or .i64 (wrap64 ((x : Int) * 2 ^ n)) ((x : Int) / 2 ^ (32 - n))) 4294967295 = ((rotl x n : Nat) : Int) := by
  have h1 := mul_pow_lt hx hn
  have e1 : (x : Int) * 2 ^ n = ((x * 2 ^ n : Nat) : Int) := by simp
  have e2 : wrap64 ((x : Int) * 2 ^ n) = (x : Int) * 2 ^ n := by
    rw [e1]
    generalize x * 2 ^ n = y at *
    unfold wrap64
    omega
  rw [e2]
  exact turn_i64 x n hx hn
theorem quarter {t : Nat} (h : t ≤ 79) : (t : Int) / 20 = 0 ∧ fOf t = chs ∧ kOf t = 1518500249 ∨ (t : Int) / 20 = 1 ∧ fOf t = par ∧ kOf t = 1859775393 ∨ (t : Int) / 20 = 2 ∧ fOf t = maj ∧ kOf t = 2400959708 ∨ (t : Int) / 20 = 3 ∧ fOf t = par ∧ kOf t = 3395469782 := by
  have h4 : t / 20 = 0 ∨ t / 20 = 1 ∨ t / 20 = 2 ∨ t / 20 = 3 := by omega
  rcases h4 with e | e | e | e
  · exact .inl ⟨by omega, by funext b c d; simp [fOf, e], by simp [kOf, e]⟩
  · exact .inr (.inl ⟨by omega, by funext b c d; simp [fOf, e], by simp [kOf, e]⟩)
  · exact .inr (.inr (.inl ⟨by omega, by funext b c d; simp [fOf, e], by simp [kOf, e]⟩))
  · exact .inr (.inr (.inr ⟨by omega, by funext b c d; simp [fOf, e], by simp [kOf, e]⟩))
theorem xmask (b : Nat) (hb : b < 4294967296) : bits .xor .u32 4294967295 (b : Int) = ((b ^^^ 4294967295 : Nat) : Int) := by
  have := u32_xor_nat 4294967295 b (by decide) hb
  rw [Nat.xor_comm] at this
  exact this
theorem chs_u32 (b c d : Nat) (hb : b < 4294967296) (hc : c < 4294967296) (hd : d < 4294967296) :
    bits .or .u32 (bits .and .u32 (b : Int) (c : Int)) (bits .and .u32 (bits .xor .u32 4294967295 (b : Int)) (d : Int)) = ((chs b c d : Nat) : Int) := by
  have hx : b ^^^ 4294967295 < 4294967296 := xor_lt32 hb (by decide)
  rw [xmask b hb, u32_and_nat b c hb hc, u32_and_nat _ d hx hd, u32_or_nat _ _ (and_lt32 hc) (and_lt32 hd)]
  rfl
theorem par_u32 (b c d : Nat) (hb : b < 4294967296) (hc : c < 4294967296) (hd : d < 4294967296) :
    bits .xor .u32 (bits .xor .u32 (b : Int) (c : Int)) (d : Int) = ((par b c d : Nat) : Int) := by
  rw [u32_xor_nat b c hb hc, u32_xor_nat _ d (xor_lt32 hb hc) hd]
  rfl
theorem maj_u32 (b c d : Nat) (hb : b < 4294967296) (hc : c < 4294967296) (hd : d < 4294967296) :
    bits .or .u32 (bits .or .u32 (bits .and .u32 (b : Int) (c : Int)) (bits .and .u32 (b : Int) (d : Int))) (bits .and .u32 (c : Int) (d : Int)) = ((maj b c d : Nat) : Int) := by
  rw [u32_and_nat b c hb hc, u32_and_nat b d hb hd, u32_and_nat c d hc hd, u32_or_nat _ _ (and_lt32 hc) (and_lt32 hd), u32_or_nat _ _ (or_lt32 (and_lt32 hc) (and_lt32 hd)) (and_lt32 hd)]
  rfl
theorem chs_i64 (b c d : Nat) (hb : b < 4294967296) (hc : c < 4294967296) (hd : d < 4294967296) :
    bits .or .i64 (bits .and .i64 (b : Int) (c : Int)) (bits .and .i64 (bits .xor .i64 (b : Int) 4294967295) (d : Int)) = ((chs b c d : Nat) : Int) := by
  have hx : b ^^^ 4294967295 < 4294967296 := xor_lt32 hb (by decide)
  have h1 := and_lt32 (a := b) hc
  have h2 := and_lt32 (a := b ^^^ 4294967295) hd
  have e := i64_xor_nat b 4294967295 (by omega) (by decide)
  rw [show bits .xor .i64 (b : Int) 4294967295 = ((b ^^^ 4294967295 : Nat) : Int) from e, i64_and_nat b c (by omega) (by omega), i64_and_nat _ d (by omega) (by omega), i64_or_nat _ _ (by omega) (by omega)]
  rfl
theorem par_i64 (b c d : Nat) (hb : b < 4294967296) (hc : c < 4294967296) (hd : d < 4294967296) :
    bits .xor .i64 (bits .xor .i64 (b : Int) (c : Int)) (d : Int) = ((par b c d : Nat) : Int) := by
  have h1 := xor_lt32 hb hc
  rw [i64_xor_nat b c (by omega) (by omega), i64_xor_nat _ d (by omega) (by omega)]
  rfl
theorem maj_i64 (b c d : Nat) (hb : b < 4294967296) (hc : c < 4294967296) (hd : d < 4294967296) :
    bits .or .i64 (bits .or .i64 (bits .and .i64 (b : Int) (c : Int)) (bits .and .i64 (b : Int) (d : Int))) (bits .and .i64 (c : Int) (d : Int)) = ((maj b c d : Nat) : Int) := by
  have h1 := and_lt32 (a := b) hc
  have h2 := and_lt32 (a := b) hd
  have h3 := and_lt32 (a := c) hd
  have h4 := or_lt32 h1 h2
  rw [i64_and_nat b c (by omega) (by omega), i64_and_nat b d (by omega) (by omega), i64_and_nat c d (by omega) (by omega), i64_or_nat _ _ (by omega) (by omega), i64_or_nat _ _ (by omega) (by omega)]
  rfl
theorem tup2 {a b c d : Int} {k l : IntKind} (h : c = a) (g : d = b) : Ending.returned (.tuple #[.int k a, .int l b]) = .returned (.tuple #[.int k c, .int l d]) := by rw [h, g]
/-- What Turn answers. -/
def turnV (x n : Int) : Int := if wordQ x = true ∧ withinB n 0 31 = true then ((rotl x.toNat n.toNat : Nat) : Int) else -1
theorem turnV_yes (x n : Nat) (hx : x < 4294967296) (hn : n ≤ 31) : turnV x n = ((rotl x n : Nat) : Int) := by
  unfold turnV
  rw [if_pos ⟨wordQ_iff.2 ⟨by omega, by omega⟩, within_iff.2 ⟨by omega, by omega⟩⟩]
  simp
theorem turnV_no {x n : Int} (h : wordQ x = false ∨ withinB n 0 31 = false) : turnV x n = -1 := by
  unfold turnV
  rw [if_neg]
  rintro ⟨h1, h2⟩
  rcases h with h | h
  · rw [h1] at h; cases h
  · rw [h2] at h; cases h
end Go.Proofs.YtffjpidjhcnnmabDoor
namespace Go.Proofs.YtffjpidjhcnnmabDoor
set_option linter.unusedVariables false
set_option linter.unusedSimpArgs false
open Go.RowKit
theorem below_drewN {B : Nat} {w w' : World} (h : Below B w w') (n : Nat) : Below B w (w'.drewN n) := h.trans ⟨rfl, rfl, rfl, Nat.le_refl _, fun _ _ => rfl⟩
/-- A block that is known whole. -/
def Blk (w : World) (b : Nat) (c : Array Value) (t : TypeId) : Prop := w.heap[b]? = some (.cells c t (0, 0))
theorem Blk.lt {w : World} {b : Nat} {c : Array Value} {t : TypeId} (h : Blk w b c t) : b < w.heap.size := (Array.getElem?_eq_some_iff.1 h).1
theorem Blk.cell {w : World} {b : Nat} {c : Array Value} {t : TypeId} (h : Blk w b c t) (j : Nat) : w.cell? ⟨b, j, none⟩ = c[j]? := by
  unfold Blk at h
  simp [World.cell?, h]
theorem Blk.free {w : World} {b : Nat} {c : Array Value} {t : TypeId} (h : Blk w b c t) (j : Nat) : w.frozen? ⟨b, j, none⟩ = false := by
  unfold Blk at h
  simp [World.frozen?, h]
theorem Blk.new (w : World) (c : Array Value) (t : TypeId) : Blk (w.alloc (.cells c t)) w.heap.size c t := heap_alloc_last w _
theorem Blk.kept {w w' : World} {b B : Nat} {c : Array Value} {t : TypeId} (h : Blk w b c t) (k : Below B w w') (hb : b < B) : Blk w' b c t := by
  unfold Blk at *
  rw [k.block b hb]; exact h
theorem Blk.later {w w' : World} {b : Nat} {c : Array Value} {t : TypeId} (h : Blk w b c t) (k : Below w.heap.size w w') : Blk w' b c t := h.kept k h.lt
theorem Blk.alloc {w : World} {b : Nat} {c : Array Value} {t : TypeId} (h : Blk w b c t) (o : Obj) : Blk (w.alloc o) b c t := h.later (below_a1 w o)
theorem Blk.drew {w : World} {b : Nat} {c : Array Value} {t : TypeId} (h : Blk w b c t) : Blk w.drew b c t := h
theorem Blk.drewN {w : World} {b : Nat} {c : Array Value} {t : TypeId} (h : Blk w b c t) (n : Nat) : Blk (w.drewN n) b c t := h
theorem Blk.set {w : World} {b : Nat} {c : Array Value} {t : TypeId} (h : Blk w b c t) (j : Nat) (v : Value) : Blk (w.setCell ⟨b, j, none⟩ v) b (c.setIfInBounds j v) t := by
  rw [setCell_eq_setRow w b j c t (0, 0) v h]
  exact setRow_heap w b c _ t _ h
theorem Blk.other {w : World} {b b' : Nat} {c : Array Value} {t : TypeId} (h : Blk w b c t) (hne : b' ≠ b) (j : Nat) (v : Value) : Blk (w.setCell ⟨b', j, none⟩ v) b c t := by
  unfold Blk at *
  simp [World.setCell, Array.getElem?_modify, hne, h]

theorem Blk.load {P : Program} {w : World} {b : Nat} {c : Array Value} {t ty : TypeId} {n : Nat} {e : TypeId} (h : Blk w b c t) (hu : P.underlying ty = some (.array n e)) (hi : (P.info? ty).map (·.size) = some c.size) :
    (Instr.loadAt ty (.pointer (some ⟨b, 0, none⟩))).run P w = .ok (.agg c) w := by
  simp only [Instr.loadAt, Instr.sureAddr, Sem.run_bind, Sem.run_pure, Result.andThen]
  exact run_loadVar_row w b t ty c (0, 0) _ h hu rfl hi
theorem Blk.loadV {P : Program} {w : World} {b : Nat} {c : Array Value} {t ty : TypeId} {n : Nat} {e : TypeId} (h : Blk w b c t) (hu : P.underlying ty = some (.array n e)) (hi : (P.info? ty).map (·.size) = some c.size) :
    (loadVar ty ⟨b, 0, none⟩).run P w = .ok (.agg c) w := run_loadVar_row w b t ty c (0, 0) _ h hu rfl hi
theorem Blk.store {P : Program} {w : World} {b : Nat} {c c' : Array Value} {t ty : TypeId} (h : Blk w b c t) (hi : (P.info? ty).map (·.size) = some c'.size) (ho : c.size = c'.size) (h1 : c'.all (·.oneCell') = true) :
    (Instr.storeAt ty (.pointer (some ⟨b, 0, none⟩)) (.agg c')).run P w = .ok () (w.setRow b c') := by
  simp only [Instr.storeAt, Instr.sureAddr, Sem.run_bind, Sem.run_pure, Result.andThen]
  exact run_storeVar_row w b t ty c c' h hi ho h1
theorem Blk.row {w : World} {b : Nat} {c c' : Array Value} {t : TypeId} (h : Blk w b c t) : Blk (w.setRow b c') b c' t := setRow_heap w b c c' t _ h
theorem Blk.rowOther {w : World} {b b' : Nat} {c c' : Array Value} {t : TypeId} (h : Blk w b c t) (hne : b' ≠ b) : Blk (w.setRow b' c') b c t := by
  unfold Blk at *
  rw [setRow_other w b' b c' (by omega)]
  exact h

theorem wp_loadA {P : Program} {ops : Array Oper} {rest : List Oper} {o : Oper} {a : Act} {Q : Exit → Act → World → Prop} {w : World} {b : Nat} {c : Array Value} {t ty : TypeId} {n : Nat} {e : TypeId} (hg : o.guard = none) (x : Operand) (ho : o.op = Op.load ty x)
    (hx : a.eval x = .pointer (some ⟨b, 0, none⟩)) (hB : Blk w b c t) (hu : P.underlying ty = some (.array n e)) (hi : (P.info? ty).map (·.size) = some c.size)
    (k : wpList P ops Q rest (a.put o.dst (.agg c)) w) : wpList P ops Q (o :: rest) a w := by
  refine wpList_plain hg fun K hK => ?_
  have hrun := hB.load hu hi
  unfold Oper.wp
  simp [execOp, ho, hx, hrun, Result.andThen]
  exact hK _ _ k
theorem wp_storeA {P : Program} {ops : Array Oper} {rest : List Oper} {o : Oper} {a : Act} {Q : Exit → Act → World → Prop} {w : World} {b : Nat} {c c' : Array Value} {t ty : TypeId} (hg : o.guard = none) (hd : o.dst = none) (x y : Operand) (ho : o.op = Op.store ty x y)
    (hx : a.eval x = .pointer (some ⟨b, 0, none⟩)) (hy : a.eval y = .agg c') (hB : Blk w b c t) (hi : (P.info? ty).map (·.size) = some c'.size) (hs : c.size = c'.size) (h1 : c'.all (·.oneCell') = true)
    (k : wpList P ops Q rest a (w.setRow b c')) : wpList P ops Q (o :: rest) a w := by
  refine wpList_plain hg fun K hK => ?_
  have hrun := hB.store hi hs h1
  unfold Oper.wp
  simp [execOp, ho, hx, hy, hrun, Result.andThen]
  have e : a.put o.dst undef = a := by rw [hd]; rfl
  have k' : wpList P ops Q rest (a.put o.dst undef) (w.setRow b c') := by rw [e]; exact k
  exact hK _ _ k'
theorem results_cell1 {fn : Func} {p : Tmp} {ty : TypeId} (h : fn.results = #[.cell p ty]) (tmps : Array Value) (P : Program) (w : World) {b : Nat} {c : Array Value} {t : TypeId} {n : Nat} {e : TypeId} (hp : tmps.getD p undef = .pointer (some ⟨b, 0, none⟩)) (hB : Blk w b c t)
    (hu : P.underlying ty = some (.array n e)) (hi : (P.info? ty).map (·.size) = some c.size) : (results fn tmps).run P w = .ok (.agg c) w := by
  have hrun := hB.loadV hu hi
  have ha : (asAddr (tmps.getD p undef)).run P w = .ok ⟨b, 0, none⟩ w := by rw [hp]; rfl
  have he : (results fn tmps).run P w = ((asAddr (tmps.getD p undef)).run P w).andThen fun a w₁ => (loadVar ty a).run P w₁ := by
    simp only [results, h]
    simp [Sem.run_bind, Result.andThen]
  rw [he, ha]
  exact hrun
end Go.Proofs.YtffjpidjhcnnmabDoor
namespace Go.Proofs.YtffjpidjhcnnmabDoor
set_option linter.unusedVariables false
set_option linter.unusedSimpArgs false
open Go.RowKit
theorem results_cellS {fn : Func} {p : Tmp} {ty : TypeId} (h : fn.results = #[.cell p ty]) (tmps : Array Value) (P : Program) (w : World) {b : Nat} {c : Array Value} {t : TypeId} {fs : Array Field} (hp : tmps.getD p undef = .pointer (some ⟨b, 0, none⟩)) (hB : Blk w b c t)
    (hu : P.underlying ty = some (.struct fs)) (hi : (P.info? ty).map (·.size) = some c.size) : (results fn tmps).run P w = .ok (.agg c) w := by
  have hrun := run_loadVar_row (P := P) w b t ty c (0, 0) _ hB hu rfl hi
  have ha : (asAddr (tmps.getD p undef)).run P w = .ok ⟨b, 0, none⟩ w := by rw [hp]; rfl
  have he : (results fn tmps).run P w = ((asAddr (tmps.getD p undef)).run P w).andThen fun a w₁ => (loadVar ty a).run P w₁ := by
    simp only [results, h]
    simp [Sem.run_bind, Result.andThen]
  rw [he, ha]
  exact hrun
theorem results_cellT {fn : Func} {p u : Tmp} {ty : TypeId} (h : fn.results = #[.cell p ty, .tmp u]) (tmps : Array Value) (P : Program) (w : World) {b : Nat} {c : Array Value} {t : TypeId} {fs : Array Field} (hp : tmps.getD p undef = .pointer (some ⟨b, 0, none⟩)) (hB : Blk w b c t)
    (hu : P.underlying ty = some (.struct fs)) (hi : (P.info? ty).map (·.size) = some c.size) : (results fn tmps).run P w = .ok (.tuple #[.agg c, tmps.getD u undef]) w := by
  have hrun := run_loadVar_row (P := P) w b t ty c (0, 0) _ hB hu rfl hi
  have ha : (asAddr (tmps.getD p undef)).run P w = .ok ⟨b, 0, none⟩ w := by rw [hp]; rfl
  rw [results_cell_tmp h, ha]
  show ((loadVar ty ⟨b, 0, none⟩).run P w).andThen _ = _
  rw [hrun]
  rfl
theorem Blk.c2 {w : World} {g : Nat} {x y : Value} {t : TypeId} (h : Blk w g #[x, y] t) : w.cell? ⟨g, 0, none⟩ = some x ∧ w.cell? ⟨g, 1, none⟩ = some y := ⟨h.cell 0, h.cell 1⟩
theorem Blk.set2 {w : World} {g : Nat} {a b : Value} {t : TypeId} (h : Blk w g #[a, b] t) (x y : Value) : Blk ((w.setCell ⟨g, 0, none⟩ x).setCell ⟨g, 1, none⟩ y) g #[x, y] t := (h.set 0 x).set 1 y
theorem Blk.oth2 {w : World} {b g : Nat} {c : Array Value} {t : TypeId} (h : Blk w b c t) (hne : g ≠ b) (x y : Value) : Blk ((w.setCell ⟨g, 0, none⟩ x).setCell ⟨g, 1, none⟩ y) b c t := (h.other hne 0 x).other hne 1 y
theorem below_set2 {B g : Nat} {w0 w : World} (h : Below B w0 w) (hg : B ≤ g) (x y : Value) : Below B w0 ((w.setCell ⟨g, 0, none⟩ x).setCell ⟨g, 1, none⟩ y) :=
  (h.setCell (p := ⟨g, 0, none⟩) hg x).setCell (p := ⟨g, 1, none⟩) hg y
theorem blk_a (w : World) (c : Array Value) (t : TypeId) (o o' : Obj) : Blk (((w.alloc (.cells c t)).alloc o).alloc o') w.heap.size c t := ((Blk.new w c t).alloc o).alloc o'
theorem blk_b (w : World) (c : Array Value) (t : TypeId) (o o' : Obj) : Blk (((w.alloc o).alloc (.cells c t)).alloc o') (w.heap.size + 1) c t := by
  have := (Blk.new (w.alloc o) c t).alloc o'
  simpa using this
theorem blk_c (w : World) (c : Array Value) (t : TypeId) (o o' : Obj) : Blk (((w.alloc o).alloc o').alloc (.cells c t)) (w.heap.size + 1 + 1) c t := by
  have := Blk.new ((w.alloc o).alloc o') c t
  simpa using this
theorem below_drewN' (w : World) (n : Nat) : Below w.heap.size w (w.drewN n) := ⟨rfl, rfl, rfl, Nat.le_refl _, fun _ _ => rfl⟩
theorem made2 (x y : Value) (n j : Nat) (h : j < n) : (madeCells #[x, y] (n * 2)).toList[j * 2]? = some x ∧ (madeCells #[x, y] (n * 2)).toList[j * 2 + 1]? = some y := by
  have h1 : j * 2 < n * 2 := by omega
  have h2 : j * 2 + 1 < n * 2 := by omega
  have e1 : j * 2 % 2 = 0 := by omega
  have e2 : (j * 2 + 1) % 2 = 1 := by omega
  constructor
  · simp [madeCells, h1, e1]
  · simp [madeCells, h2, e2]
end Go.Proofs.YtffjpidjhcnnmabDoor
namespace Go.Proofs.YtffjpidjhcnnmabDoor
set_option linter.unusedVariables false
set_option linter.unusedSimpArgs false
open Go.RowKit
/-- A row of loose lines in memory: block b, two cells each. -/
structure RowW (w : World) (b : Nat) (l : List Fd) : Prop where
  dat : ∀ j, j < l.length → w.cell? ⟨b, j * 2, none⟩ = some (.string (fdAt l j).1)
  saf : ∀ j, j < l.length → w.cell? ⟨b, j * 2 + 1, none⟩ = some (.string (fdAt l j).2)
  free : ∀ j, w.frozen? ⟨b, j, none⟩ = false
  lt : b < w.heap.size
theorem RowW.later {w w' : World} {b B : Nat} {l : List Fd} (h : RowW w b l) (k : Below B w w') (hb : b < B) : RowW w' b l :=
  ⟨fun j hj => by rw [k.cell (p := ⟨b, j * 2, none⟩) hb]; exact h.dat j hj, fun j hj => by rw [k.cell (p := ⟨b, j * 2 + 1, none⟩) hb]; exact h.saf j hj, fun j => by rw [k.frozen (p := ⟨b, j, none⟩) hb]; exact h.free j, Nat.lt_of_lt_of_le h.lt k.size⟩
theorem RowW.keep {w w' : World} {b : Nat} {l : List Fd} (h : RowW w b l) (k : Below w.heap.size w w') : RowW w' b l := h.later k h.lt
theorem RowW.oth {w : World} {b g : Nat} {l : List Fd} (h : RowW w b l) (hne : g ≠ b) (k : Nat) (v : Value) : RowW (w.setCell ⟨g, k, none⟩ v) b l :=
  ⟨fun j hj => by rw [World.cell?_setCell_other _ _ _ _ (by intro hh; injection hh with h1 _; exact hne h1)]; exact h.dat j hj,
   fun j hj => by rw [World.cell?_setCell_other _ _ _ _ (by intro hh; injection hh with h1 _; exact hne h1)]; exact h.saf j hj,
   fun j => by rw [World.frozen?_setCell]; exact h.free j, by simpa [World.setCell] using h.lt⟩
def SlW (w : World) (v : Value) (l : List Fd) : Prop := (v = .slice none 0 0 ∧ l = []) ∨ ∃ b c, v = .slice (some ⟨b, 0, none⟩) l.length c ∧ RowW w b l
theorem SlW.keep {w w' : World} {v : Value} {l : List Fd} (h : SlW w v l) (k : Below w.heap.size w w') : SlW w' v l := by
  rcases h with h | ⟨b, c, h1, h2⟩
  · exact .inl h
  · exact .inr ⟨b, c, h1, h2.keep k⟩
theorem SlW.form {w : World} {v : Value} {l : List Fd} (h : SlW w v l) : ∃ (a : Option Addr) (c : Nat), v = .slice a l.length c := by
  rcases h with ⟨h1, h2⟩ | ⟨g, c, h1, _⟩
  · exact ⟨none, 0, by rw [h1, h2]; rfl⟩
  · exact ⟨_, _, h1⟩
theorem Tryd.infoW : (Tryd.prog.info? 56).map (fun i => (i.zero, i.size, i.bytes)) = some (some (.agg #[.string ⟨#[]⟩, .string ⟨#[]⟩]), 2, 32) := by kernel_rfl
/-- The value v is a slice of the call's own, its memory from block B on, that holds the lines l. -/
structure OwW (B : Nat) (w : World) (v : Value) (l : List Fd) : Prop where
  own : w.ownsRow B 56 2 v l.length (cellsF l)
  le : B ≤ w.heap.size
theorem OwW.start {B : Nat} {w : World} (h : B ≤ w.heap.size) : OwW B w (.slice none 0 0) [] := ⟨World.ownsRow_nil _ _ _ _, h⟩
theorem OwW.alloc {B : Nat} {w : World} {v : Value} {l : List Fd} (h : OwW B w v l) (o : Obj) : OwW B (w.alloc o) v l := ⟨h.own.alloc o, by have := h.le; simp; omega⟩
theorem OwW.form {B : Nat} {w : World} {v : Value} {l : List Fd} (h : OwW B w v l) : ∃ (a : Option Addr) (c : Nat), v = .slice a l.length c := by
  rcases h.own.2 with ⟨h1, h2⟩ | ⟨g, cap, cur, h1, _⟩
  · exact ⟨none, 0, by rw [h1, h2]⟩
  · exact ⟨_, _, h1⟩
theorem OwW.later {B : Nat} {w w' : World} {v : Value} {l : List Fd} (h : OwW B w v l) (hb : Below w.heap.size w w') : OwW B w' v l := by
  refine ⟨?_, Nat.le_trans h.le hb.size⟩
  exact h.own.kept (row := none) ⟨hb.os, hb.tape, hb.output, hb.size, fun k hk _ => hb.block k hk⟩ (by
    cases hv : v.ownBlock with
    | none => exact Or.inl rfl
    | some g => exact Or.inr (by intro e; cases e))
theorem OwW.drew {B : Nat} {w : World} {v : Value} {l : List Fd} (h : OwW B w v l) : OwW B w.drew v l := h.later (Below.refl _ w).drew
/-- A store into an elder block. -/
theorem OwW.set {B : Nat} {w : World} {v : Value} {l : List Fd} (h : OwW B w v l) {g : Nat} (hg : g < B) (k : Nat) (x : Value) : OwW B (w.setCell ⟨g, k, none⟩ x) v l :=
  ⟨ownsRow_setCell_below h.own hg x, by simpa [World.setCell] using h.le⟩
theorem OwW.sl {B : Nat} {w : World} {v : Value} {l : List Fd} (h : OwW B w v l) : SlW w v l := by
  have ho := h.own
  rcases h.own.2 with ⟨h1, h2⟩ | ⟨g, cap, cur, h1, hg, hh, _⟩
  · exact .inl ⟨h1, List.eq_nil_of_length_eq_zero h2⟩
  · have hlt := (h.own.lt g (by rw [h1]; rfl)).2
    rw [h1] at ho
    refine .inr ⟨g, cap, h1, ⟨fun j hj => ?_, fun j hj => ?_, fun j => ho.frozenAt j, hlt⟩⟩
    · rw [ho.cellAt (j * 2) (by omega)]; exact (cellsF_at l j hj).1
    · rw [ho.cellAt (j * 2 + 1) (by omega)]; exact (cellsF_at l j hj).2
theorem wp_wapp {ops : Array Oper} {rest : List Oper} {o : Oper} {a : Act} {Q : Exit → Act → World → Prop} {B : Nat} {W : World} (hgd : o.guard = none) (s x : Operand)
    (ho : o.op = .call { callee := .builtin .append, args := #[s, x], argTypes := #[29, 29] }) (v : Value) (l : List Fd) (hs : a.eval s = v) (hbuf : OwW B W v l)
    (d t : ByteArray) (nW : Nat) (hnW : W.heap.size = nW) (hx : a.eval x = .slice (some ⟨nW, 0, none⟩) 1 1) (hlen : l.length ≤ 1048576)
    (h : ∀ v' W', OwW B W' v' (l ++ [(d, t)]) → Below B W W' → (∀ g c t, v.ownBlock ≠ some g → Blk W g c t → Blk W' g c t) → wpList Tryd.prog ops Q rest (a.put o.dst v') W') :
    wpList Tryd.prog ops Q (o :: rest) a (W.alloc (.cells #[.string d, .string t] 56)) := by
  subst hnW
  obtain ⟨i0, hi, hz0, hz1, hz2⟩ := info_parts Tryd.infoW
  refine wpList_append_own _ hgd s x 29 ho B 56 i0 _ 2 32 Tryd.underlying29 hi hz0 hz1 hz2 rfl (by decide) v l.length (cellsF l) hs (hbuf.own.alloc _) ⟨W.heap.size, 0, none⟩ 1 1 (cellsF [(d, t)]) hx (by rw [cellsF_len]; rfl) ?_ (cellsF_one _) (by unfold maxLen; omega) (by omega) (by have := hbuf.le; simp; omega) ?_
  · intro j u hu
    have hj : j < 2 := by have := (List.getElem?_eq_some_iff.1 hu).1; rwa [cellsF_len] at this
    rw [Addr.add_lit, Nat.zero_add, (Blk.new W _ _).cell j, ← hu]
    rcases j with _ | _ | j
    · rfl
    · rfl
    · omega
  intro v' W' hown hgrow _
  have hbl : Below B W W' := by
    refine ((Below.refl B W).alloc hbuf.le _).grown hgrow (by have := hbuf.le; simp; omega) ?_
    intro k hk
    exact (hbuf.own.lt k hk).1
  refine h v' W' ⟨?_, Nat.le_trans hbuf.le hbl.size⟩ hbl (fun g c tt hne hB => ?_)
  rotate_left
  · have h1 := hB.alloc (.cells #[.string d, .string t] 56)
    have hl := h1.lt
    unfold Blk at *
    rw [hgrow.block g hl (fun e => hne e.symm)]; exact h1
  rw [List.length_append, List.length_singleton, cellsF_app]
  exact hown
end Go.Proofs.YtffjpidjhcnnmabDoor
namespace Go.Proofs.YtffjpidjhcnnmabDoor
set_option linter.unusedVariables false
set_option linter.unusedSimpArgs false
open Go.RowKit

def c8 (b : UInt8) : Value := .int .u8 (b.toNat : Int)
/-- The value v is a slice of the call's own that holds the bytes l; nothing that was there in w0 has turned. -/
structure Buf (w0 w : World) (v : Value) (l : List UInt8) : Prop where
  below : Below w0.heap.size w0 w
  own : w.ownsRow w0.heap.size 5 1 v l.length (l.map c8)

theorem Tryd.infoU8 : (Tryd.prog.info? 5).map (fun i => (i.zero, i.size, i.bytes)) = some (some (.int .u8 0), 1, 1) := by kernel_rfl

theorem Buf.start (w : World) : Buf w w (.slice none 0 0) [] := ⟨Below.refl _ _, World.ownsRow_nil _ _ _ _⟩
theorem Buf.alloc {w0 w : World} {v : Value} {l : List UInt8} (h : Buf w0 w v l) (o : Obj) : Buf w0 (w.alloc o) v l :=
  ⟨h.below.alloc h.below.size o, h.own.alloc o⟩
theorem Buf.one (w : World) (n : Int) (y : UInt8) (hy : n = (y.toNat : Int)) : Buf w (w.alloc (.cells #[.int .u8 n] 5)) (.slice (some ⟨w.heap.size, 0, none⟩) 1 1) [y] := by
  subst hy
  exact ⟨(Below.refl _ _).alloc (Nat.le_refl _) _, ⟨by simp, .inr ⟨w.heap.size, 1, #[.int .u8 (y.toNat : Int)], rfl, Nat.le_refl _, heap_alloc_new w _, Nat.le_refl _, by decide, by simp, by simp [c8]⟩⟩⟩
theorem Buf.form {w0 w : World} {v : Value} {l : List UInt8} (h : Buf w0 w v l) : ∃ (a : Option Addr) (c : Nat), v = .slice a l.length c := by
  rcases h.own.2 with ⟨h1, h2⟩ | ⟨g, cap, cur, h1, _⟩
  · exact ⟨none, 0, by rw [h1, h2]⟩
  · exact ⟨_, _, h1⟩
theorem Buf.text {w0 w : World} {v : Value} {l : List UInt8} (h : Buf w0 w v l) :
    (convert 48 9 v).run Tryd.prog w = .ok (.string ⟨l.toArray⟩) w := by
  have hl : l.map (fun b => UInt8.ofNat ((b.toNat : Int)).toNat) = l := by
    conv => rhs; rw [← List.map_id l]
    apply List.map_congr_left
    intro b _
    simp
  rcases h.own.2 with ⟨h1, h2⟩ | ⟨g, cap, cur, h1, _, hh, _, _, _, ht⟩
  · have : l = [] := List.length_eq_zero_iff.1 h2
    subst this
    rw [h1]
    exact run_convert_bytes_nil (P := Tryd.prog) w 48 5 Tryd.underlying48 Tryd.underlying5 0 0 9 Tryd.underlying9
  · subst h1
    have hc : ∀ i, i < l.length → w.cell? ⟨g, 0 + i, none⟩ = some (.int .u8 ((l.map fun b => (b.toNat : Int)).getD i 0)) := by
      intro i hi
      have := h.own.cells (g := g) rfl i (.int .u8 ((l[i].toNat : Int))) (by simp [c8, List.getElem?_eq_getElem hi])
      rw [Addr.add_lit] at this
      rw [this]
      simp [List.getD, List.getElem?_eq_getElem hi]
    have := run_convert_bytes_arg (P := Tryd.prog) w 48 5 Tryd.underlying48 Tryd.underlying5 g 0 l.length cap (l.map fun b => (b.toNat : Int)) (by simp) hc 9 Tryd.underlying9
    rw [this]
    simp only [strOfNums, List.map_map]
    exact congrArg (fun x : Array UInt8 => Result.ok (Value.string ⟨x⟩) w) (congrArg List.toArray hl)
theorem wp_app {ops : Array Oper} {rest : List Oper} {o : Oper} {a : Act} {Q : Exit → Act → World → Prop} {w0 W : World} (hgd : o.guard = none) (s x : Operand)
    (ho : o.op = .call { callee := .builtin .append, args := #[s, x], argTypes := #[48, 48] }) (v : Value) (l : List UInt8) (hs : a.eval s = v) (hbuf : Buf w0 W v l)
    (n : Int) (y : UInt8) (hy : n = (y.toNat : Int)) (hx : a.eval x = .slice (some ⟨W.heap.size, 0, none⟩) 1 1) (hlen : l.length ≤ 1099511627776)
    (h : ∀ v' W', Buf w0 W' v' (l ++ [y]) → wpList Tryd.prog ops Q rest (a.put o.dst v') W') :
    wpList Tryd.prog ops Q (o :: rest) a (W.alloc (.cells #[.int .u8 n] 5)) := by
  subst hy
  obtain ⟨i0, hi, hz0, hz1, hz2⟩ := info_parts Tryd.infoU8
  refine wpList_append_own _ hgd s x 48 ho w0.heap.size 5 i0 (.int .u8 0) 1 1 Tryd.underlying48 hi hz0 hz1 hz2 rfl (by decide) v l.length (l.map c8) hs (hbuf.own.alloc _) ⟨W.heap.size, 0, none⟩ 1 1 [c8 y] hx rfl (cell_one_new _ _ _) (fun u hu => by simp at hu; subst hu; rfl) (by unfold maxLen; omega) (by omega) (by have := hbuf.below.size; simp; omega) ?_
  intro v' W' hown hgrow _
  refine h v' W' ⟨?_, ?_⟩
  · refine (hbuf.alloc _).below.grown hgrow (by have := hbuf.below.size; simp; omega) ?_
    intro k hk
    exact (hbuf.own.lt k hk).1
  · rw [List.length_append, List.length_singleton, List.map_append]
    exact hown
end Go.Proofs.YtffjpidjhcnnmabDoor
namespace Go.Proofs.YtffjpidjhcnnmabDoor
set_option linter.unusedVariables false
set_option linter.unusedSimpArgs false
open Go.RowKit

theorem ret_sb {s t : ByteArray} {a b : Bool} (h : t = s) (h' : b = a) : Ending.returned (.tuple #[.string s, .bool a]) = .returned (.tuple #[.string t, .bool b]) := by rw [h, h']
set_option maxHeartbeats 400000 in
theorem plainByte_any (n : Int) (w : World) :
    Calls Tryd.prog 64 #[.int .u8 n] w fun e w' => e = .returned (.bool (plainP n)) ∧ w' = w := by
  cases h : (n == 9)
  · by_cases h2 : 32 ≤ n
    · rw [plainP_hi h h2]
      go_enter Tryd.func64, Tryd.ntmps64
      go_wp2
      go_ret
      exact ⟨rfl, rfl⟩
    · rw [plainP_lo h h2]
      have h3 : decide (32 ≤ n) = false := by simpa using h2
      go_enter Tryd.func64, Tryd.ntmps64
      go_wp2
      go_ret
      exact ⟨rfl, rfl⟩
  · rw [plainP_yes h]
    go_enter Tryd.func64, Tryd.ntmps64
    go_wp2
    go_ret
    exact ⟨rfl, rfl⟩
set_option maxHeartbeats 400000 in
theorem l1plain_any (n : Int) (w : World) :
    Calls Tryd.prog 25 #[.int .u8 n] w fun e w' => e = .returned (.bool (plainP n)) ∧ w' = w := by
  cases h : (n == 9)
  · by_cases h2 : 32 ≤ n
    · rw [plainP_hi h h2]
      go_enter Tryd.func25, Tryd.ntmps25
      go_wp2
      go_ret
      exact ⟨rfl, rfl⟩
    · rw [plainP_lo h h2]
      have h3 : decide (32 ≤ n) = false := by simpa using h2
      go_enter Tryd.func25, Tryd.ntmps25
      go_wp2
      go_ret
      exact ⟨rfl, rfl⟩
  · rw [plainP_yes h]
    go_enter Tryd.func25, Tryd.ntmps25
    go_wp2
    go_ret
    exact ⟨rfl, rfl⟩
end Go.Proofs.YtffjpidjhcnnmabDoor
namespace Go.Proofs.YtffjpidjhcnnmabDoor
set_option linter.unusedVariables false
set_option linter.unusedSimpArgs false
open Go.RowKit
set_option maxHeartbeats 1000000 in
theorem plainText_any (s : ByteArray) (w : World) (hs : s.size ≤ maxLen) :
    Calls Tryd.prog 51 #[.string s] w fun e w' => e = .returned (.bool (plnB s)) ∧ w' = w := by
  unfold maxLen at hs
  go_enter Tryd.func51, Tryd.ntmps51
  go_wp2
  go_loop [6] (fun i => ∃ k : Nat, k ≤ s.size ∧ i = .int .i64 k ∧ ∀ j, j < k → plain8 (at8 s j) = true) (fun i => s.size - (intOf i).toNat)
  case atStart => exact ⟨0, Nat.zero_le _, rfl, fun j hj => by omega⟩
  case round =>
    obtain ⟨k, hk, rfl, hall⟩ := hrel
    have Hall : Hid (∀ j, j < k → plain8 (at8 s j) = true) := hall
    clear hall
    by_cases hlt : k < s.size
    · cases hg0 : plain8 (at8 s k)
      · have hg : plainP (s[k].toNat : Int) = false := by rw [at8_eq s k hlt]; exact hg0
        have hfin : Hid (plnB s = false) := plnB_no hlt hg0
        clear hg0
        go_wp2_with (go_at_call 64; refine (plainByte_any _ _).mono ?_; rintro e w' ⟨rfl, rfl⟩)
        go_ret
        exact ⟨ret_bool hfin.out, rfl⟩
      · have hg : plainP (s[k].toNat : Int) = true := by rw [at8_eq s k hlt]; exact hg0
        have Hg : Hid (plain8 (at8 s k) = true) := hg0
        clear hg0
        go_wp2_with (go_at_call 64; refine (plainByte_any _ _).mono ?_; rintro e w' ⟨rfl, rfl⟩)
        go_round
        case rel => exact ⟨k + 1, by omega, by go_num, all_succ Hall.out Hg.out⟩
        case measure => simp [intOf]; omega
    · have hfin : Hid (plnB s = true) := plnB_yes (fun j hj => Hall.out j (by omega))
      go_wp2
      go_ret
      exact ⟨ret_bool hfin.out, rfl⟩
set_option maxHeartbeats 1000000 in
theorem l5plain_any (s : ByteArray) (w : World) (hs : s.size ≤ maxLen) :
    Calls Tryd.prog 13 #[.string s] w fun e w' => e = .returned (.bool (plnB s)) ∧ w' = w := by
  unfold maxLen at hs
  go_enter Tryd.func13, Tryd.ntmps13
  go_wp2
  go_loop [3] (fun i => ∃ k : Nat, k ≤ s.size ∧ i = .int .i64 k ∧ ∀ j, j < k → plain8 (at8 s j) = true) (fun i => s.size - (intOf i).toNat)
  case atStart => exact ⟨0, Nat.zero_le _, rfl, fun j hj => by omega⟩
  case round =>
    obtain ⟨k, hk, rfl, hall⟩ := hrel
    have Hall : Hid (∀ j, j < k → plain8 (at8 s j) = true) := hall
    clear hall
    by_cases hlt : k < s.size
    · cases hg0 : plain8 (at8 s k)
      · have hg : plainP (s[k].toNat : Int) = false := by rw [at8_eq s k hlt]; exact hg0
        have hfin : Hid (plnB s = false) := plnB_no hlt hg0
        clear hg0
        go_wp2_with (go_at_call 25; refine (l1plain_any _ _).mono ?_; rintro e w' ⟨rfl, rfl⟩)
        go_ret
        exact ⟨ret_bool hfin.out, rfl⟩
      · have hg : plainP (s[k].toNat : Int) = true := by rw [at8_eq s k hlt]; exact hg0
        have Hg : Hid (plain8 (at8 s k) = true) := hg0
        clear hg0
        go_wp2_with (go_at_call 25; refine (l1plain_any _ _).mono ?_; rintro e w' ⟨rfl, rfl⟩)
        go_round
        case rel => exact ⟨k + 1, by omega, by go_num, all_succ Hall.out Hg.out⟩
        case measure => simp [intOf]; omega
    · have hfin : Hid (plnB s = true) := plnB_yes (fun j hj => Hall.out j (by omega))
      go_wp2
      go_ret
      exact ⟨ret_bool hfin.out, rfl⟩
end Go.Proofs.YtffjpidjhcnnmabDoor
namespace Go.Proofs.YtffjpidjhcnnmabDoor
set_option linter.unusedVariables false
set_option linter.unusedSimpArgs false
open Go.RowKit

theorem keep2 {W w1 : World} (hb : Below W.heap.size W w1) {b : Nat} {x y : Value} (h0 : W.cell? ⟨b, 0, none⟩ = some x) (h1 : W.cell? ⟨b, 1, none⟩ = some y) :
    w1.cell? ⟨b, 0, none⟩ = some x ∧ w1.cell? ⟨b, 1, none⟩ = some y ∧ b < w1.heap.size :=
  ⟨cell_later hb h0, cell_later hb h1, Nat.lt_of_lt_of_le (World.block_lt_of_cell? _ _ h0) hb.size⟩
set_option maxHeartbeats 400000 in
theorem inside_any (s : ByteArray) (n : Int) (w : World) :
    Calls Tryd.prog 32 #[.agg #[.string s, .int .i64 n]] w fun e w' => e = .returned (.bool (curOk s n)) ∧ w' = w.alloc (.cells #[.string s, .int .i64 n] 25) := by
  by_cases h : 0 ≤ n
  · rw [curOk_pos h]
    go_enter Tryd.func32, Tryd.ntmps32
    go_wp2
    go_ret
    exact ⟨rfl, rfl⟩
  · rw [curOk_neg h]
    have h' : decide (0 ≤ n) = false := by simpa using h
    go_enter Tryd.func32, Tryd.ntmps32
    go_wp2
    go_ret
    exact ⟨rfl, rfl⟩
set_option maxHeartbeats 400000 in
theorem sCurOk_any (s : ByteArray) (n : Int) (w : World) :
    Calls Tryd.prog 22 #[.agg #[.string s, .int .i64 n]] w fun e w' => e = .returned (.bool (curOk s n)) ∧ w' = w.alloc (.cells #[.string s, .int .i64 n] 25) := by
  by_cases h : 0 ≤ n
  · rw [curOk_pos h]
    go_enter Tryd.func22, Tryd.ntmps22
    go_wp2
    go_ret
    exact ⟨rfl, rfl⟩
  · rw [curOk_neg h]
    have h' : decide (0 ≤ n) = false := by simpa using h
    go_enter Tryd.func22, Tryd.ntmps22
    go_wp2
    go_ret
    exact ⟨rfl, rfl⟩
end Go.Proofs.YtffjpidjhcnnmabDoor
namespace Go.Proofs.YtffjpidjhcnnmabDoor
set_option linter.unusedVariables false
set_option linter.unusedSimpArgs false
open Go.RowKit

set_option maxHeartbeats 400000 in
theorem left_any (s : ByteArray) (k : Nat) (w : World) (hs : s.size ≤ maxLen) (hk : k ≤ s.size) :
    Calls Tryd.prog 7 #[.agg #[.string s, .int .i64 (k : Int)]] w fun e w' => e = .returned (.int .i64 ((s.size : Int) - k)) ∧ w' = w.alloc (.cells #[.string s, .int .i64 (k : Int)] 25) := by
  unfold maxLen at hs
  go_enter Tryd.func7, Tryd.ntmps7
  go_wp2
  go_ret
  exact ⟨rfl, rfl⟩
set_option maxHeartbeats 400000 in
theorem next_any (s : ByteArray) (k : Nat) (w : World) (hs : s.size ≤ maxLen) (hk : k < s.size) :
    Calls Tryd.prog 35 #[.agg #[.string s, .int .i64 (k : Int)]] w fun e w' => e = .returned (.int .u8 (s[k].toNat : Int)) ∧ w' = w.alloc (.cells #[.string s, .int .i64 (k : Int)] 25) := by
  unfold maxLen at hs
  go_enter Tryd.func35, Tryd.ntmps35
  go_wp2
  go_ret
  exact ⟨rfl, rfl⟩
set_option maxHeartbeats 400000 in
theorem part_any (s : ByteArray) (k m : Nat) (w : World) (hs : s.size ≤ maxLen) (hk : k + m ≤ s.size) :
    Calls Tryd.prog 36 #[.agg #[.string s, .int .i64 (k : Int)], .int .i64 (m : Int)] w fun e w' => e = .returned (.string (s.extract k (k + m))) ∧ w' = w.alloc (.cells #[.string s, .int .i64 (k : Int)] 25) := by
  unfold maxLen at hs
  have hk2 : k ≤ k + m := by omega
  go_enter Tryd.func36, Tryd.ntmps36
  go_wp2
  go_ret
  exact ⟨rfl, rfl⟩
set_option maxHeartbeats 400000 in
theorem behind_any (s : ByteArray) (k m : Nat) (w : World) (hs : s.size ≤ maxLen) (hk : k + m ≤ s.size) :
    Calls Tryd.prog 34 #[.agg #[.string s, .int .i64 (k : Int)], .int .i64 (m : Int)] w fun e w' => e = .returned (.agg #[.string s, .int .i64 ((k : Int) + m)]) ∧ Below w.heap.size w w' := by
  unfold maxLen at hs
  go_enter Tryd.func34, Tryd.ntmps34
  go_wp2
  exact bodyPost_ret (v := .agg #[.string s, .int .i64 ((k : Int) + m)]) (by simp [results, Tryd.results34, go_sem]) rfl ⟨rfl, (by repeat (first | exact Below.refl _ _ | refine Below.drew ?_ | refine Below.alloc ?_ (by simp <;> omega) _ | refine Below.setCell ?_ (by simp <;> omega) _))⟩
set_option maxHeartbeats 1000000 in
theorem beforeLineEnd_any (s : ByteArray) (k : Nat) (w : World) (hs : s.size ≤ maxLen) (hk : k ≤ s.size) :
    Calls Tryd.prog 33 #[.agg #[.string s, .int .i64 (k : Int)]] w fun e w' => e = .returned (.int .i64 (eolLen s k : Nat)) ∧ Below w.heap.size w w' := by
  have hs' := hs
  unfold maxLen at hs'
  go_enter Tryd.func33, Tryd.ntmps33
  go_wp2_with fail
  go_loopw [3] (fun i wr => ∃ m : Nat, k + m ≤ s.size ∧ i = .int .i64 (m : Int) ∧ wr.cell? ⟨w.heap.size, 0, none⟩ = some (.string s) ∧ wr.cell? ⟨w.heap.size, 1, none⟩ = some (.int .i64 (k : Int)) ∧ w.heap.size < wr.heap.size ∧ Below w.heap.size w wr ∧ ∀ j, j < m → eol8 (at8 s (k + j)) = false) (fun i _ => s.size - (intOf i).toNat)
  case atStart => exact ⟨0, by omega, rfl, by simp, by simp, by simp, (Below.refl _ _).alloc (Nat.le_refl _) _, fun j hj => by omega⟩
  case round =>
    obtain ⟨m, hkm, rfl, q0, q1, qz, hbel, hall⟩ := hrel
    have Hall : Hid (∀ j, j < m → eol8 (at8 s (k + j)) = false) := hall
    clear hall
    have hbel2 : Below w.heap.size w (wr.alloc (.cells #[.string s, .int .i64 (k : Int)] 25)) := hbel.alloc hbel.size _
    by_cases hlt : k + m < s.size
    · have hd : (m : Int) < (s.size : Int) - (k : Int) := by omega
      by_cases h13 : ((at8 s (k + m)).toNat : Int) = 13
      · have g13 : ((s[k + m].toNat : Int) != 13) = false := by rw [at8_eq s (k + m) hlt]; simpa using h13
        have hfin : Hid (eolLen s k = m) := eolLen_of s k m hkm Hall.out (Or.inr (eolP_iff.2 (Or.inl h13)))
        clear h13
        go_wp2_with (go_at_call 7; refine (left_any s k _ hs hk).mono ?_; rintro e w' ⟨rfl, rfl⟩)
        go_ret
        exact ⟨ret_int (by rw [hfin.out]), hbel2⟩
      · have g13 : ((s[k + m].toNat : Int) != 13) = true := by rw [at8_eq s (k + m) hlt]; simpa using h13
        by_cases h10 : ((at8 s (k + m)).toNat : Int) = 10
        · have g10 : ((s[k + m].toNat : Int) != 10) = false := by rw [at8_eq s (k + m) hlt]; simpa using h10
          have hfin : Hid (eolLen s k = m) := eolLen_of s k m hkm Hall.out (Or.inr (eolP_iff.2 (Or.inr h10)))
          clear h13 h10
          go_wp2_with (go_at_call 7; refine (left_any s k _ hs hk).mono ?_; rintro e w' ⟨rfl, rfl⟩)
          go_ret
          exact ⟨ret_int (by rw [hfin.out]), hbel2⟩
        · have g10 : ((s[k + m].toNat : Int) != 10) = true := by rw [at8_eq s (k + m) hlt]; simpa using h10
          have hnew : Hid (eol8 (at8 s (k + m)) = false) := eolP_no.2 ⟨h13, h10⟩
          have r0 : (wr.alloc (.cells #[.string s, .int .i64 (k : Int)] 25)).cell? ⟨w.heap.size, 0, none⟩ = some (.string s) := cell_later ((Below.refl _ wr).alloc (Nat.le_refl _) _) q0
          have r1 : (wr.alloc (.cells #[.string s, .int .i64 (k : Int)] 25)).cell? ⟨w.heap.size, 1, none⟩ = some (.int .i64 (k : Int)) := cell_later ((Below.refl _ wr).alloc (Nat.le_refl _) _) q1
          have R0 : Hid _ := r0
          have R1 : Hid _ := r1
          clear h13 h10 r0 r1
          go_wp2_with (go_at_call 7; refine (left_any s k _ hs hk).mono ?_; rintro e w' ⟨rfl, rfl⟩)
          go_roundw
          case rel => exact ⟨m + 1, by omega, by go_num, R0.out, R1.out, by simp; omega, hbel2, all_succ Hall.out hnew.out⟩
          case measure => simp [intOf]; omega
    · have hd : decide ((m : Int) < (s.size : Int) - (k : Int)) = false := by simp; omega
      have hfin : Hid (eolLen s k = m) := eolLen_of s k m hkm Hall.out (Or.inl (by omega))
      go_wp2_with (go_at_call 7; refine (left_any s k _ hs hk).mono ?_; rintro e w' ⟨rfl, rfl⟩)
      go_ret
      exact ⟨ret_int (by rw [hfin.out]), hbel2⟩
end Go.Proofs.YtffjpidjhcnnmabDoor
namespace Go.Proofs.YtffjpidjhcnnmabDoor
set_option linter.unusedVariables false
set_option linter.unusedSimpArgs false
open Go.RowKit

theorem tlE_of {s : ByteArray} {k m : Nat} (h : eolLen s k = m) : tlE s k = k + m := by unfold tlE; rw [h]

set_option maxHeartbeats 1000000 in
theorem sTakeLine_bad (s : ByteArray) (n : Int) (w : World) (hc : curOk s n = false) :
    Calls Tryd.prog 9 #[.agg #[.string s, .int .i64 n]] w fun e w' => e = .returned (.tuple #[.string ⟨#[]⟩, curZ, .int .i64 2]) ∧ Below w.heap.size w w' := by
  go_enter Tryd.func9, Tryd.ntmps9
  go_wp2_with (go_at_call 22; refine (sCurOk_any s _ _).mono ?_; rintro e w' ⟨rfl, rfl⟩)
  refine bodyPost_ret (v := .tuple #[.string ⟨#[]⟩, curZ, .int .i64 2]) (by simp [results, Tryd.results9, go_sem, curZ]) rfl ⟨rfl, ?_⟩
  exact (by repeat (first | exact Below.refl _ _ | refine Below.drew ?_ | refine Below.alloc ?_ (by simp <;> omega) _ | refine Below.setCell ?_ (by simp <;> omega) _))
set_option maxHeartbeats 2000000 in
theorem sTakeLine_ok (s : ByteArray) (k : Nat) (w : World) (hs : s.size ≤ maxLen) (hk : k ≤ s.size) :
    Calls Tryd.prog 9 #[.agg #[.string s, .int .i64 (k : Int)]] w fun e w' => e = .returned (tlV s k) ∧ Below w.heap.size w w' := by
  have hs' := hs
  unfold maxLen at hs'
  have hc : curOk s (k : Int) = true := curOk_iff.2 ⟨by omega, by omega⟩
  go_enter Tryd.func9, Tryd.ntmps9
  go_wp2_with (go_at_call 22; refine (sCurOk_any s _ _).mono ?_; rintro e w' ⟨rfl, rfl⟩)
  clear hc
  go_loop [5] (fun i => ∃ m : Nat, k + m ≤ s.size ∧ i = .int .i64 ((k : Int) + (m : Int)) ∧ ∀ j, j < m → eol8 (at8 s (k + j)) = false) (fun i => s.size - (intOf i).toNat)
  case atStart => exact ⟨0, by omega, by simp, fun j hj => by omega⟩
  case round =>
    obtain ⟨m, hkm, rfl, hall⟩ := hrel
    have Hall : Hid (∀ j, j < m → eol8 (at8 s (k + j)) = false) := hall
    clear hall
    by_cases hlt : k + m < s.size
    · have hltI : (k : Int) + (m : Int) < (s.size : Int) := by omega
      by_cases h10 : ((at8 s (k + m)).toNat : Int) = 10
      · have g10 : ((s[k + m].toNat : Int) == 10) = true := by rw [at8_eq s (k + m) hlt]; simpa using h10
        have hE := tlE_of (eolLen_of s k m hkm Hall.out (Or.inr (eolP_iff.2 (Or.inr h10))))
        have hfin : Hid (tlV s k = .tuple #[.string ⟨#[]⟩, curZ, .int .i64 2]) := tlV_bad (tlC_10 (by rw [hE]; exact hlt) (by rw [hE]; omega))
        clear h10 hE
        go_wp2
        refine bodyPost_ret (v := .tuple #[.string ⟨#[]⟩, curZ, .int .i64 2]) (by simp [results, Tryd.results9, go_sem, curZ]) rfl ⟨by rw [hfin.out], ?_⟩
        exact (by repeat (first | exact Below.refl _ _ | refine Below.drew ?_ | refine Below.alloc ?_ (by simp <;> omega) _ | refine Below.setCell ?_ (by simp <;> omega) _))
      · have g10 : ((s[k + m].toNat : Int) == 10) = false := by rw [at8_eq s (k + m) hlt]; simpa using h10
        by_cases h13 : ((at8 s (k + m)).toNat : Int) = 13
        · have g13 : ((s[k + m].toNat : Int) == 13) = true := by rw [at8_eq s (k + m) hlt]; simpa using h13
          have hE := tlE_of (eolLen_of s k m hkm Hall.out (Or.inr (eolP_iff.2 (Or.inl h13))))
          by_cases hend : k + m + 1 = s.size
          · have hge : s.size ≤ k + m + 1 := by omega
            have hfin : Hid (tlV s k = .tuple #[.string ⟨#[]⟩, curZ, .int .i64 1]) := tlV_short (tlC_13end (by rw [hE]; exact hend) (by rw [hE]; omega))
            clear h10 h13 hE hend
            go_wp2
            refine bodyPost_ret (v := .tuple #[.string ⟨#[]⟩, curZ, .int .i64 1]) (by simp [results, Tryd.results9, go_sem, curZ]) rfl ⟨by rw [hfin.out], ?_⟩
            exact (by repeat (first | exact Below.refl _ _ | refine Below.drew ?_ | refine Below.alloc ?_ (by simp <;> omega) _ | refine Below.setCell ?_ (by simp <;> omega) _))
          · have hL2 : k + m + 1 < s.size := by omega
            by_cases hn : ((at8 s (k + m + 1)).toNat : Int) = 10
            · have gn : ((s[k + m + 1].toNat : Int) != 10) = false := by rw [at8_eq s (k + m + 1) hL2]; simpa using hn
              have hfin : Hid (tlV s k = .tuple #[.string (s.extract k (k + m)), .agg #[.string s, .int .i64 ((k : Int) + (m : Int) + 2)], .int .i64 0]) := by
                have := tlV_ok (tlC_ok (s := s) (k := k) (by rw [hE]; exact hL2) (by rw [hE]; omega) (by rw [hE]; omega))
                rw [hE] at this
                rw [show (k : Int) + (m : Int) = ((k + m : Nat) : Int) from by omega]
                exact this
              have e1 : IntKind.i64.wrap ((k : Int) + (m : Int) + 2) = (k : Int) + (m : Int) + 2 := by rw [IntKind.wrap_i64]; omega
              have hkm2 : k ≤ k + m := by omega
              clear h10 h13 hE hend hn
              go_wp2
              go_region
              go_wp2
              refine bodyPost_ret (v := .tuple #[.string (s.extract k (k + m)), .agg #[.string s, .int .i64 ((k : Int) + (m : Int) + 2)], .int .i64 0]) (by simp [results, Tryd.results9, go_sem]) rfl ⟨by rw [hfin.out], ?_⟩
              exact (by repeat (first | exact Below.refl _ _ | refine Below.drew ?_ | refine Below.alloc ?_ (by simp <;> omega) _ | refine Below.setCell ?_ (by simp <;> omega) _))
            · have gn : ((s[k + m + 1].toNat : Int) != 10) = true := by rw [at8_eq s (k + m + 1) hL2]; simpa using hn
              have hfin : Hid (tlV s k = .tuple #[.string ⟨#[]⟩, curZ, .int .i64 2]) := tlV_bad (tlC_no (by rw [hE]; exact hL2) (by rw [hE]; omega) (by rw [hE]; omega))
              clear h10 h13 hE hend hn
              go_wp2
              refine bodyPost_ret (v := .tuple #[.string ⟨#[]⟩, curZ, .int .i64 2]) (by simp [results, Tryd.results9, go_sem, curZ]) rfl ⟨by rw [hfin.out], ?_⟩
              exact (by repeat (first | exact Below.refl _ _ | refine Below.drew ?_ | refine Below.alloc ?_ (by simp <;> omega) _ | refine Below.setCell ?_ (by simp <;> omega) _))
        · have g13 : ((s[k + m].toNat : Int) == 13) = false := by rw [at8_eq s (k + m) hlt]; simpa using h13
          have hnew : Hid (eol8 (at8 s (k + m)) = false) := eolP_no.2 ⟨h13, h10⟩
          clear h10 h13
          go_wp2
          go_round
          case rel => exact ⟨m + 1, by omega, by go_num, all_succ Hall.out hnew.out⟩
          case measure => simp [intOf]; omega
    · have hge : (s.size : Int) ≤ (k : Int) + (m : Int) := by omega
      have hE := tlE_of (eolLen_of s k m hkm Hall.out (Or.inl (by omega)))
      have hfin : Hid (tlV s k = .tuple #[.string ⟨#[]⟩, curZ, .int .i64 1]) := tlV_short0 (by rw [hE]; omega)
      clear hE
      go_wp2
      refine bodyPost_ret (v := .tuple #[.string ⟨#[]⟩, curZ, .int .i64 1]) (by simp [results, Tryd.results9, go_sem, curZ]) rfl ⟨by rw [hfin.out], ?_⟩
      exact (by repeat (first | exact Below.refl _ _ | refine Below.drew ?_ | refine Below.alloc ?_ (by simp <;> omega) _ | refine Below.setCell ?_ (by simp <;> omega) _))
end Go.Proofs.YtffjpidjhcnnmabDoor
namespace Go.Proofs.YtffjpidjhcnnmabDoor
set_option linter.unusedVariables false
set_option linter.unusedSimpArgs false
open Go.RowKit

/-- What is kept of a block of two cells: what they hold, that they may be written, that the block is there. -/
structure Two (w : World) (b : Nat) (x y : Value) : Prop where
  c0 : w.cell? ⟨b, 0, none⟩ = some x
  c1 : w.cell? ⟨b, 1, none⟩ = some y
  f0 : w.frozen? ⟨b, 0, none⟩ = false
  f1 : w.frozen? ⟨b, 1, none⟩ = false
  lt : b < w.heap.size
theorem Two.later {W w1 : World} (hb : Below W.heap.size W w1) {b : Nat} {x y : Value} (h : Two W b x y) : Two w1 b x y :=
  ⟨cell_later hb h.c0, cell_later hb h.c1, (hb.frozen (p := ⟨b, 0, none⟩) h.lt).trans h.f0, (hb.frozen (p := ⟨b, 1, none⟩) h.lt).trans h.f1, Nat.lt_of_lt_of_le h.lt hb.size⟩
theorem Two.alloc {W : World} {b : Nat} {x y : Value} (h : Two W b x y) (o : Obj) : Two (W.alloc o) b x y := h.later ((Below.refl _ W).alloc (Nat.le_refl _) o)
theorem Two.drew {W : World} {b : Nat} {x y : Value} (h : Two W b x y) : Two W.drew b x y := ⟨h.c0, h.c1, h.f0, h.f1, h.lt⟩
theorem Two.new (W : World) (x y : Value) (t : TypeId) : Two (W.alloc (.cells #[x, y] t)) W.heap.size x y :=
  ⟨by simp, by simp, by simp, by simp, by simp⟩

theorem left_at (s : ByteArray) (n : Int) (k : Nat) (w : World) (hn : n = (k : Int)) (hs : s.size ≤ maxLen) (hk : k ≤ s.size) :
    Calls Tryd.prog 7 #[.agg #[.string s, .int .i64 n]] w fun e w' => e = .returned (.int .i64 ((s.size : Int) - n)) ∧ w' = w.alloc (.cells #[.string s, .int .i64 n] 25) := by
  subst hn; exact left_any s k w hs hk
theorem next_at (s : ByteArray) (n : Int) (k : Nat) (w : World) (hn : n = (k : Int)) (hs : s.size ≤ maxLen) (hk : k < s.size) :
    Calls Tryd.prog 35 #[.agg #[.string s, .int .i64 n]] w fun e w' => e = .returned (.int .u8 ((at8 s k).toNat : Int)) ∧ w' = w.alloc (.cells #[.string s, .int .i64 n] 25) := by
  subst hn
  have := next_any s k w hs hk
  rw [at8_eq s k hk] at this
  exact this
theorem behind_at (s : ByteArray) (n m : Int) (k j : Nat) (w : World) (hn : n = (k : Int)) (hm : m = (j : Int)) (hs : s.size ≤ maxLen) (hk : k + j ≤ s.size) :
    Calls Tryd.prog 34 #[.agg #[.string s, .int .i64 n], .int .i64 m] w fun e w' => e = .returned (.agg #[.string s, .int .i64 (n + m)]) ∧ Below w.heap.size w w' := by
  subst hn hm; exact behind_any s k j w hs hk
set_option maxHeartbeats 1000000 in
theorem TakeLine_bad (s : ByteArray) (n : Int) (w : World) (hc : curOk s n = false) :
    Calls Tryd.prog 18 #[.agg #[.string s, .int .i64 n]] w fun e w' => e = .returned (.tuple #[.string ⟨#[]⟩, curZ, .int .i64 2]) ∧ Below w.heap.size w w' := by
  go_enter Tryd.func18, Tryd.ntmps18
  go_wp2_with (go_at_call 32; refine (inside_any s _ _).mono ?_; rintro e w' ⟨rfl, rfl⟩)
  refine bodyPost_ret (v := .tuple #[.string ⟨#[]⟩, curZ, .int .i64 2]) (by simp [results, Tryd.results18, go_sem, curZ]) rfl ⟨rfl, ?_⟩
  exact (by repeat (first | exact Below.refl _ _ | refine Below.drew ?_ | refine Below.alloc ?_ (by simp <;> omega) _ | refine Below.setCell ?_ (by simp <;> omega) _))
set_option maxHeartbeats 2000000 in
theorem TakeLine_ok (s : ByteArray) (k : Nat) (w : World) (hs : s.size ≤ maxLen) (hk : k ≤ s.size) :
    Calls Tryd.prog 18 #[.agg #[.string s, .int .i64 (k : Int)]] w fun e w' => e = .returned (tlV s k) ∧ Below w.heap.size w w' := by
  have hs' := hs
  unfold maxLen at hs'
  have hc : curOk s (k : Int) = true := curOk_iff.2 ⟨by omega, by omega⟩
  have he := eolLen_le s k hk
  have hE : tlE s k = k + eolLen s k := rfl
  go_enter Tryd.func18, Tryd.ntmps18
  go_wp2_with (go_at_call 32; refine (inside_any s _ _).mono ?_; rintro e w' ⟨rfl, rfl⟩)
  have T0 : Two ((((w.alloc (.cells #[.string s, .int .i64 (k : Int)] 25)).alloc (.cells #[.string ⟨#[]⟩, .int .i64 0] 25)).alloc (.cells #[.string s, .int .i64 (k : Int)] 25))) w.heap.size (.string s) (.int .i64 (k : Int)) := ((Two.new w _ _ _).alloc _).alloc _
  have R0 : Two ((((w.alloc (.cells #[.string s, .int .i64 (k : Int)] 25)).alloc (.cells #[.string ⟨#[]⟩, .int .i64 0] 25)).alloc (.cells #[.string s, .int .i64 (k : Int)] 25))) (w.heap.size + 1) (.string ⟨#[]⟩) (.int .i64 0) := by
    have := (Two.new (w.alloc (.cells #[.string s, .int .i64 (k : Int)] 25)) (.string ⟨#[]⟩) (.int .i64 0) 25).alloc (.cells #[.string s, .int .i64 (k : Int)] 25)
    simpa using this
  have G0 : Below w.heap.size w ((((w.alloc (.cells #[.string s, .int .i64 (k : Int)] 25)).alloc (.cells #[.string ⟨#[]⟩, .int .i64 0] 25)).alloc (.cells #[.string s, .int .i64 (k : Int)] 25))) := (by repeat (first | exact Below.refl _ _ | refine Below.drew ?_ | refine Below.alloc ?_ (by simp <;> omega) _ | refine Below.setCell ?_ (by simp <;> omega) _))
  refine (beforeLineEnd_any s k _ hs hk).mono ?_
  rintro e w2 ⟨rfl, hb2⟩
  have T2 := T0.later hb2
  have R2 := R0.later hb2
  have G2 := G0.trans (hb2.mono G0.size)
  clear T0 R0 G0 hb2 hc
  obtain ⟨q0, q1, q2, q3, q4⟩ := T2
  go_wp2_with fail
  refine (behind_at s _ _ k (eolLen s k) _ rfl rfl hs he).mono ?_
  rintro e w3 ⟨rfl, hb3⟩
  have T3 : Two w3 w.heap.size (.string s) (.int .i64 (k : Int)) := Two.later hb3 ⟨q0, q1, q2, q3, q4⟩
  have R3 := R2.later hb3
  have G3 := G2.trans (hb3.mono G2.size)
  clear q0 q1 q2 q3 q4 R2 G2 hb3
  have hgen : ∃ e, eolLen s k = e := ⟨_, rfl⟩
  obtain ⟨e, hge⟩ := hgen
  have D3 := Two.new w3 (.string s) (.int .i64 ((k : Int) + (eolLen s k : Nat))) 25
  have T4 := T3.alloc (.cells #[.string s, .int .i64 ((k : Int) + (eolLen s k : Nat))] 25)
  have R4 := R3.alloc (.cells #[.string s, .int .i64 ((k : Int) + (eolLen s k : Nat))] 25)
  have hbel := G3.alloc G3.size (.cells #[.string s, .int .i64 ((k : Int) + (eolLen s k : Nat))] 25)
  have hne1 : w.heap.size + 1 < w3.heap.size := R3.lt
  rw [hge] at he hE D3 T4 R4 hbel ⊢
  have HE : Hid (tlE s k = k + e) := hE
  have HG : Hid (eolLen s k = e) := hge
  clear T3 R3 G3 hE hge
  obtain ⟨d0, d1, d2, d3, d4⟩ := D3
  go_wp2_with fail
  have D3 : Two _ _ _ _ := ⟨d0, d1, d2, d3, d4⟩
  clear d0 d1 d2 d3 d4
  generalize w3.alloc (.cells #[.string s, .int .i64 ((k : Int) + (e : Int))] 25) = W at *
  have TT := T4
  have RR := R4
  have DD := D3
  have GG := hbel
  have hEE : w.heap.size + 1 < w3.heap.size := hne1
  clear T4 R4 D3 hbel hne1
  generalize w3.heap.size = E at *
  by_cases hend : k + e = s.size
  · have hfin : Hid (tlV s k = .tuple #[.string ⟨#[]⟩, curZ, .int .i64 1]) := tlV_short0 (by rw [HE.out]; exact hend)
    have hz : ((s.size : Int) - ((k : Int) + (e : Int)) == 0) = true := by simp; omega
    clear hend
    refine (left_at s _ (k + e) _ (by omega) hs (by omega)).mono ?_
    rintro e' W' ⟨rfl, hw⟩
    replace TT : Two W' w.heap.size (.string s) (.int .i64 (k : Int)) := hw ▸ TT.alloc _
    replace DD : Two W' E (.string s) (.int .i64 ((k : Int) + (e : Int))) := hw ▸ DD.alloc _
    replace RR : Two W' (w.heap.size + 1) (.string ⟨#[]⟩) (.int .i64 0) := hw ▸ RR.alloc _
    replace GG : Below w.heap.size w W' := hw ▸ (GG.alloc GG.size _)
    clear hw
    obtain ⟨t0, t1, t2, t3, t4⟩ := id TT
    obtain ⟨d0, d1, d2, d3, d4⟩ := id DD
    obtain ⟨r0, r1, r2, r3, r4⟩ := id RR
    go_wp2
    refine bodyPost_ret (v := .tuple #[.string ⟨#[]⟩, curZ, .int .i64 1]) (by simp [results, Tryd.results18, go_sem, curZ, r0, r1]) rfl ⟨by rw [hfin.out], ?_⟩
    exact (GG.setCell (by simp) _).setCell (by simp) _
  · have hlt : k + e < s.size := by omega
    have hz : ((s.size : Int) - ((k : Int) + (e : Int)) == 0) = false := by simp; omega
    clear hend
    refine (left_at s _ (k + e) _ (by omega) hs (by omega)).mono ?_
    rintro e' W' ⟨rfl, hw⟩
    replace TT : Two W' w.heap.size (.string s) (.int .i64 (k : Int)) := hw ▸ TT.alloc _
    replace DD : Two W' E (.string s) (.int .i64 ((k : Int) + (e : Int))) := hw ▸ DD.alloc _
    replace RR : Two W' (w.heap.size + 1) (.string ⟨#[]⟩) (.int .i64 0) := hw ▸ RR.alloc _
    replace GG : Below w.heap.size w W' := hw ▸ (GG.alloc GG.size _)
    clear hw
    obtain ⟨t0, t1, t2, t3, t4⟩ := id TT
    obtain ⟨d0, d1, d2, d3, d4⟩ := id DD
    obtain ⟨r0, r1, r2, r3, r4⟩ := id RR
    go_wp2_with fail
    clear t0 t1 t2 t3 t4 d0 d1 d2 d3 d4 r0 r1 r2 r3 r4
    by_cases h10 : ((at8 s (k + e)).toNat : Int) = 10
    · have g10 : (((at8 s (k + e)).toNat : Int) == 10) = true := by simpa using h10
      have hfin : Hid (tlV s k = .tuple #[.string ⟨#[]⟩, curZ, .int .i64 2]) := tlV_bad (tlC_10 (by rw [HE.out]; exact hlt) (by rw [HE.out]; omega))
      clear h10
      refine (next_at s _ (k + e) _ (by omega) hs (by omega)).mono ?_
      rintro e' W' ⟨rfl, hw⟩
      replace TT : Two W' w.heap.size (.string s) (.int .i64 (k : Int)) := hw ▸ TT.alloc _
      replace DD : Two W' E (.string s) (.int .i64 ((k : Int) + (e : Int))) := hw ▸ DD.alloc _
      replace RR : Two W' (w.heap.size + 1) (.string ⟨#[]⟩) (.int .i64 0) := hw ▸ RR.alloc _
      replace GG : Below w.heap.size w W' := hw ▸ (GG.alloc GG.size _)
      clear hw
      obtain ⟨t0, t1, t2, t3, t4⟩ := id TT
      obtain ⟨d0, d1, d2, d3, d4⟩ := id DD
      obtain ⟨r0, r1, r2, r3, r4⟩ := id RR
      go_wp2
      refine bodyPost_ret (v := .tuple #[.string ⟨#[]⟩, curZ, .int .i64 2]) (by simp [results, Tryd.results18, go_sem, curZ, r0, r1]) rfl ⟨by rw [hfin.out], ?_⟩
      exact (GG.setCell (by simp) _).setCell (by simp) _
    · have g10 : (((at8 s (k + e)).toNat : Int) == 10) = false := by simpa using h10
      refine (next_at s _ (k + e) _ (by omega) hs (by omega)).mono ?_
      rintro e' W' ⟨rfl, hw⟩
      replace TT : Two W' w.heap.size (.string s) (.int .i64 (k : Int)) := hw ▸ TT.alloc _
      replace DD : Two W' E (.string s) (.int .i64 ((k : Int) + (e : Int))) := hw ▸ DD.alloc _
      replace RR : Two W' (w.heap.size + 1) (.string ⟨#[]⟩) (.int .i64 0) := hw ▸ RR.alloc _
      replace GG : Below w.heap.size w W' := hw ▸ (GG.alloc GG.size _)
      clear hw
      obtain ⟨t0, t1, t2, t3, t4⟩ := id TT
      obtain ⟨d0, d1, d2, d3, d4⟩ := id DD
      obtain ⟨r0, r1, r2, r3, r4⟩ := id RR
      go_wp2_with fail
      clear t0 t1 t2 t3 t4 d0 d1 d2 d3 d4 r0 r1 r2 r3 r4
      by_cases hend : k + e + 1 = s.size
      · have hfin : Hid (tlV s k = .tuple #[.string ⟨#[]⟩, curZ, .int .i64 1]) := tlV_short (tlC_13end (by rw [HE.out]; exact hend) (by rw [HE.out]; omega))
        have hz1 : ((s.size : Int) - ((k : Int) + (e : Int)) == 1) = true := by simp; omega
        clear h10 hend
        refine (left_at s _ (k + e) _ (by omega) hs (by omega)).mono ?_
        rintro e' W' ⟨rfl, hw⟩
        replace TT : Two W' w.heap.size (.string s) (.int .i64 (k : Int)) := hw ▸ TT.alloc _
        replace DD : Two W' E (.string s) (.int .i64 ((k : Int) + (e : Int))) := hw ▸ DD.alloc _
        replace RR : Two W' (w.heap.size + 1) (.string ⟨#[]⟩) (.int .i64 0) := hw ▸ RR.alloc _
        replace GG : Below w.heap.size w W' := hw ▸ (GG.alloc GG.size _)
        clear hw
        obtain ⟨t0, t1, t2, t3, t4⟩ := id TT
        obtain ⟨d0, d1, d2, d3, d4⟩ := id DD
        obtain ⟨r0, r1, r2, r3, r4⟩ := id RR
        go_wp2
        refine bodyPost_ret (v := .tuple #[.string ⟨#[]⟩, curZ, .int .i64 1]) (by simp [results, Tryd.results18, go_sem, curZ, r0, r1]) rfl ⟨by rw [hfin.out], ?_⟩
        exact (GG.setCell (by simp) _).setCell (by simp) _
      · have hlt2 : k + e + 1 < s.size := by omega
        have hz1 : ((s.size : Int) - ((k : Int) + (e : Int)) == 1) = false := by simp; omega
        clear hend
        refine (left_at s _ (k + e) _ (by omega) hs (by omega)).mono ?_
        rintro e' W' ⟨rfl, hw⟩
        replace TT : Two W' w.heap.size (.string s) (.int .i64 (k : Int)) := hw ▸ TT.alloc _
        replace DD : Two W' E (.string s) (.int .i64 ((k : Int) + (e : Int))) := hw ▸ DD.alloc _
        replace RR : Two W' (w.heap.size + 1) (.string ⟨#[]⟩) (.int .i64 0) := hw ▸ RR.alloc _
        replace GG : Below w.heap.size w W' := hw ▸ (GG.alloc GG.size _)
        clear hw
        obtain ⟨t0, t1, t2, t3, t4⟩ := id TT
        obtain ⟨d0, d1, d2, d3, d4⟩ := id DD
        obtain ⟨r0, r1, r2, r3, r4⟩ := id RR
        go_wp2_with fail
        clear t0 t1 t2 t3 t4 d0 d1 d2 d3 d4 r0 r1 r2 r3 r4
        refine (behind_at s _ _ (k + e) 1 _ (by omega) rfl hs (by omega)).mono ?_
        rintro e' W' ⟨rfl, hw⟩
        replace TT : Two W' w.heap.size (.string s) (.int .i64 (k : Int)) := TT.later hw
        replace DD : Two W' E (.string s) (.int .i64 ((k : Int) + (e : Int))) := DD.later hw
        replace RR : Two W' (w.heap.size + 1) (.string ⟨#[]⟩) (.int .i64 0) := RR.later hw
        replace GG : Below w.heap.size w W' := GG.trans (hw.mono GG.size)
        clear hw
        obtain ⟨t0, t1, t2, t3, t4⟩ := id TT
        obtain ⟨d0, d1, d2, d3, d4⟩ := id DD
        obtain ⟨r0, r1, r2, r3, r4⟩ := id RR
        go_wp2_with fail
        clear t0 t1 t2 t3 t4 d0 d1 d2 d3 d4 r0 r1 r2 r3 r4
        by_cases hn : ((at8 s (k + e + 1)).toNat : Int) = 10
        · have gn : (((at8 s (k + e + 1)).toNat : Int) != 10) = false := by simpa using hn
          have hfin : Hid (tlV s k = .tuple #[.string (s.extract k (k + e)), .agg #[.string s, .int .i64 ((k : Int) + (e : Int) + 2)], .int .i64 0]) := by
            have := tlV_ok (tlC_ok (s := s) (k := k) (by rw [HE.out]; exact hlt2) (by rw [HE.out]; omega) (by rw [HE.out]; omega))
            rw [HE.out] at this
            rw [show (k : Int) + (e : Int) = ((k + e : Nat) : Int) from by omega]
            exact this
          clear h10 hn
          refine (next_at s _ (k + e + 1) _ (by omega) hs (by omega)).mono ?_
          rintro e' W' ⟨rfl, hw⟩
          replace TT : Two W' w.heap.size (.string s) (.int .i64 (k : Int)) := hw ▸ TT.alloc _
          replace DD : Two W' E (.string s) (.int .i64 ((k : Int) + (e : Int))) := hw ▸ DD.alloc _
          replace RR : Two W' (w.heap.size + 1) (.string ⟨#[]⟩) (.int .i64 0) := hw ▸ RR.alloc _
          replace GG : Below w.heap.size w W' := hw ▸ (GG.alloc GG.size _)
          clear hw
          obtain ⟨t0, t1, t2, t3, t4⟩ := id TT
          obtain ⟨d0, d1, d2, d3, d4⟩ := id DD
          obtain ⟨r0, r1, r2, r3, r4⟩ := id RR
          go_wp2_with fail
          clear hz hz1 g10 gn t2 t3 d2 d3
          have hww : w.heap.size < W'.heap.size := t4
          have he0 : k + e ≤ s.size := by omega
          have he2 : k + e + 2 ≤ s.size := by omega
          have hke : ((k : Int) + (e : Int)) = ((k + e : Nat) : Int) := by omega
          have HKE : Hid (((k : Int) + (e : Int)) = ((k + e : Nat) : Int)) := hke
          clear hke
          go_region_with (first | (go_at_call 36; refine (part_any s k e _ hs he0).mono ?_; rintro e' w' ⟨rfl, rfl⟩) | (go_at_call 34; refine (behind_at s _ _ (k + e) 2 _ HKE.out rfl hs he2).mono ?_; rintro e' w2 ⟨rfl, hb2⟩; obtain ⟨hcc, hff⟩ := bcell hb2; have hzz := hb2.size))
          all_goals go_wp2
          all_goals
            have X : Two w2 (w.heap.size + 1) (.string ⟨#[]⟩) (.int .i64 0) := Two.later hb2 (by first | exact RR.drew | exact (RR.alloc _).drew)
            have x0 := X.c0
            have x1 := X.c1
            refine bodyPost_ret (v := .tuple #[.string (s.extract k (k + e)), .agg #[.string s, .int .i64 ((k : Int) + (e : Int) + 2)], .int .i64 0]) (by simp [results, Tryd.results18, go_sem, x0, x1]) rfl ⟨by rw [hfin.out], ?_⟩
            have Y : Below w.heap.size w w2 := Below.trans (by first | exact GG.drew | exact (GG.alloc GG.size _).drew) (hb2.mono (by have := GG.size; simp <;> omega))
            exact (Y.setCell (by simp) _).setCell (by simp) _
        · have gn : (((at8 s (k + e + 1)).toNat : Int) != 10) = true := by simpa using hn
          have hfin : Hid (tlV s k = .tuple #[.string ⟨#[]⟩, curZ, .int .i64 2]) := tlV_bad (tlC_no (by rw [HE.out]; exact hlt2) (by rw [HE.out]; omega) (by rw [HE.out]; omega))
          clear h10 hn
          refine (next_at s _ (k + e + 1) _ (by omega) hs (by omega)).mono ?_
          rintro e' W' ⟨rfl, hw⟩
          replace TT : Two W' w.heap.size (.string s) (.int .i64 (k : Int)) := hw ▸ TT.alloc _
          replace DD : Two W' E (.string s) (.int .i64 ((k : Int) + (e : Int))) := hw ▸ DD.alloc _
          replace RR : Two W' (w.heap.size + 1) (.string ⟨#[]⟩) (.int .i64 0) := hw ▸ RR.alloc _
          replace GG : Below w.heap.size w W' := hw ▸ (GG.alloc GG.size _)
          clear hw
          obtain ⟨t0, t1, t2, t3, t4⟩ := id TT
          obtain ⟨d0, d1, d2, d3, d4⟩ := id DD
          obtain ⟨r0, r1, r2, r3, r4⟩ := id RR
          go_wp2
          refine bodyPost_ret (v := .tuple #[.string ⟨#[]⟩, curZ, .int .i64 2]) (by simp [results, Tryd.results18, go_sem, curZ, r0, r1]) rfl ⟨by rw [hfin.out], ?_⟩
          exact (GG.setCell (by simp) _).setCell (by simp) _
end Go.Proofs.YtffjpidjhcnnmabDoor
namespace Go.Proofs.YtffjpidjhcnnmabDoor
set_option linter.unusedVariables false
set_option linter.unusedSimpArgs false
open Go.RowKit


theorem hideB3 {p : Prop} (h : p) : Hid p := h
theorem letP_yes {n : Int} (h1 : 97 ≤ lowI n) (h2 : lowI n ≤ 122) : letP n = true := by simp [letP, h1, h2]
theorem letP_no {n : Int} (h : lowI n < 97 ∨ 122 < lowI n) : letP n = false := by
  unfold letP
  rcases h with h | h
  · simp [show ¬ 97 ≤ lowI n by omega]
  · simp [show ¬ lowI n ≤ 122 by omega]
/-- The signs of impl's token, as the text has them. -/
theorem tokSigns_at (k : Nat) (hk : k < (⟨#[33, 35, 36, 37, 38, 39, 42, 43, 45, 46, 94, 95, 124, 126, 96]⟩ : ByteArray).size) : (⟨#[33, 35, 36, 37, 38, 39, 42, 43, 45, 46, 94, 95, 124, 126, 96]⟩ : ByteArray)[k] = tokSigns.getD k 0 := by
  rw [at8_eq _ k hk]; rfl
set_option maxHeartbeats 1000000 in
theorem letterByte_any (n : Int) (w : World) (h0 : 0 ≤ n) (h1 : n ≤ 255) :
    Calls Tryd.prog 71 #[.int .u8 n] w fun e w' => e = .returned (.bool (letP n)) ∧ w' = w := by
  unfold letP
  generalize hm : lowI n = m
  have HM := hideB3 hm
  clear hm
  by_cases hl : 97 ≤ m
  · go_enter Tryd.func71, Tryd.ntmps71
    go_wp2_with (go_at_call 62; refine (smallByte_any _ _ h0 h1).mono ?_; rintro e w' ⟨rfl, rfl⟩; rw [HM.out])
    go_ret
    exact ⟨ret_bool (by first | (simp [hl]; done) | (simp; omega)), rfl⟩
  · go_enter Tryd.func71, Tryd.ntmps71
    go_wp2_with (go_at_call 62; refine (smallByte_any _ _ h0 h1).mono ?_; rintro e w' ⟨rfl, rfl⟩; rw [HM.out])
    go_ret
    exact ⟨ret_bool (by first | (simp [hl]; done) | (simp; omega)), rfl⟩
set_option maxHeartbeats 1000000 in
theorem tokenByte_sig (n : Int) (w : World) (h0 : 0 ≤ n) (h1 : n ≤ 255) (hl : letP n = false) (hd : digP n = false) :
    Calls Tryd.prog 56 #[.int .u8 n] w fun e w' => e = .returned (.bool (inL tokSigns n)) ∧ w' = w := by
  go_enter Tryd.func56, Tryd.ntmps56
  go_wp2_with (first | (go_at_call 71; refine (letterByte_any _ _ h0 h1).mono ?_; rintro e w' ⟨rfl, rfl⟩; rw [hl]) | (go_at_call 55; refine (digitByte_any _ _).mono ?_; rintro e w' ⟨rfl, rfl⟩))
  go_loop [10] (fun i => ∃ k : Nat, k ≤ 15 ∧ i = .int .i64 k ∧ ∀ j, j < k → ((tokSigns.getD j 0).toNat : Int) ≠ n) (fun i => 15 - (intOf i).toNat)
  case atStart => exact ⟨0, Nat.zero_le _, rfl, fun j hj => by omega⟩
  case round =>
    obtain ⟨k, hk, rfl, hall⟩ := hrel
    have Hall : Hid (∀ j, j < k → ((tokSigns.getD j 0).toNat : Int) ≠ n) := hall
    clear hall
    by_cases hlt : k < 15
    · have hb : k < (⟨#[33, 35, 36, 37, 38, 39, 42, 43, 45, 46, 94, 95, 124, 126, 96]⟩ : ByteArray).size := hlt
      go_wp2
      · have hh : (((⟨#[33, 35, 36, 37, 38, 39, 42, 43, 45, 46, 94, 95, 124, 126, 96]⟩ : ByteArray)[k].toNat : Int) == n) = true := by assumption
        go_ret
        rw [tokSigns_at k hb, beq_iff_eq] at hh
        have hl2 : k < tokSigns.length := hlt
        have e : inL tokSigns n = true := inL_hit hl2 (by rw [← hh, List.getD, List.getElem?_eq_getElem hl2]; rfl)
        exact ⟨ret_bool e, rfl⟩
      · have hh : (((⟨#[33, 35, 36, 37, 38, 39, 42, 43, 45, 46, 94, 95, 124, 126, 96]⟩ : ByteArray)[k].toNat : Int) == n) = false := by assumption
        rw [tokSigns_at k hb, beq_eq_false_iff_ne] at hh
        go_round
        case rel => exact ⟨k + 1, by omega, by go_num, all_succ Hall.out hh⟩
        case measure => simp [intOf]; omega
    · have e : Hid (inL tokSigns n = false) := inL_miss (fun j hj => Hall.out j (by have : tokSigns.length = 15 := rfl; omega))
      go_wp2
      go_ret
      exact ⟨ret_bool e.out, rfl⟩

set_option maxHeartbeats 1000000 in
theorem tokenByte_any (n : Int) (w : World) (h0 : 0 ≤ n) (h1 : n ≤ 255) :
    Calls Tryd.prog 56 #[.int .u8 n] w fun e w' => e = .returned (.bool (tokP n)) ∧ w' = w := by
  cases hl : letP n
  · cases hd : digP n
    · rw [tokP_sig hl hd]
      exact tokenByte_sig n w h0 h1 hl hd
    · rw [tokP_dig hd]
      go_enter Tryd.func56, Tryd.ntmps56
      go_wp2_with (first | (go_at_call 71; refine (letterByte_any _ _ h0 h1).mono ?_; rintro e w' ⟨rfl, rfl⟩; rw [hl]) | (go_at_call 55; refine (digitByte_any _ _).mono ?_; rintro e w' ⟨rfl, rfl⟩))
      go_ret
      exact ⟨rfl, rfl⟩
  · rw [tokP_let hl]
    go_enter Tryd.func56, Tryd.ntmps56
    go_wp2_with (first | (go_at_call 71; refine (letterByte_any _ _ h0 h1).mono ?_; rintro e w' ⟨rfl, rfl⟩; rw [hl]) | (go_at_call 55; refine (digitByte_any _ _).mono ?_; rintro e w' ⟨rfl, rfl⟩))
    go_ret
    exact ⟨rfl, rfl⟩
set_option maxHeartbeats 1000000 in
theorem l1has_any (s : ByteArray) (n : Int) (w : World) (hs : s.size ≤ maxLen) :
    Calls Tryd.prog 43 #[.string s, .int .u8 n] w fun e w' => e = .returned (.bool (inL s.data.toList n)) ∧ w' = w := by
  unfold maxLen at hs
  go_enter Tryd.func43, Tryd.ntmps43
  go_wp2
  go_loop [5] (fun i => ∃ k : Nat, k ≤ s.size ∧ i = .int .i64 k ∧ ∀ j, j < k → ((s.data.toList.getD j 0).toNat : Int) ≠ n) (fun i => s.size - (intOf i).toNat)
  case atStart => exact ⟨0, Nat.zero_le _, rfl, fun j hj => by omega⟩
  case round =>
    obtain ⟨k, hk, rfl, hall⟩ := hrel
    have Hall : Hid (∀ j, j < k → ((s.data.toList.getD j 0).toNat : Int) ≠ n) := hall
    clear hall
    by_cases hlt : k < s.size
    · have hl2 : k < s.data.toList.length := by simpa using hlt
      have hat : s[k] = s.data.toList.getD k 0 := at8_eq s k hlt
      have Hat : Hid (s[k] = s.data.toList.getD k 0) := hat
      clear hat
      cases hq : ((s[k].toNat : Int) == n)
      · go_wp2
        go_round
        case rel => exact ⟨k + 1, by omega, by go_num, all_succ Hall.out (by rw [← Hat.out]; simpa using hq)⟩
        case measure => simp [intOf]; omega
      · have e : Hid (inL s.data.toList n = true) := inL_hit hl2 (by rw [beq_iff_eq] at hq; rw [← hq, Hat.out, List.getD, List.getElem?_eq_getElem hl2]; rfl)
        go_wp2
        go_ret
        exact ⟨ret_bool e.out, rfl⟩
    · have e : Hid (inL s.data.toList n = false) := inL_miss (fun j hj => Hall.out j (by have := len_data s; omega))
      go_wp2
      go_ret
      exact ⟨ret_bool e.out, rfl⟩
set_option maxHeartbeats 1000000 in
theorem l1tchar_any (n : Int) (w : World) (h0 : 0 ≤ n) (h1 : n ≤ 255) :
    Calls Tryd.prog 23 #[.int .u8 n] w fun e w' => e = .returned (.bool (tokP n)) ∧ w' = w := by
  by_cases hl : 97 ≤ lowI n ∧ lowI n ≤ 122
  · obtain ⟨hl1, hl2⟩ := hl
    rw [tokP_let (letP_yes hl1 hl2)]
    go_enter Tryd.func23, Tryd.ntmps23
    go_wp2_with (first | (go_at_call 26; refine (l1lower_any _ _ (by omega) (by omega)).mono ?_; rintro e w' ⟨rfl, rfl⟩) | (go_at_call 30; refine (l1digit_any _ _).mono ?_; rintro e w' ⟨rfl, rfl⟩) | (go_at_call 43; refine (l1has_any _ _ _ (by decide)).mono ?_; rintro e w' ⟨rfl, rfl⟩))
    go_ret
    exact ⟨rfl, rfl⟩
  · have hl' : lowI n < 97 ∨ 122 < lowI n := by omega
    have hl2 : lowI n < 97 ∨ (122 < lowI n ∧ decide (lowI n ≤ 122) = false) := by
      rcases hl' with h | h
      · exact Or.inl h
      · exact Or.inr ⟨h, by simp; omega⟩
    clear hl
    cases hd : digP n
    · cases h96 : (n == 96)
      · rw [tokP_14 (letP_no hl') hd h96]
        rcases hl2 with hl | ⟨hl, hl3⟩
        all_goals
          go_enter Tryd.func23, Tryd.ntmps23
          go_wp2_with (first | (go_at_call 26; refine (l1lower_any _ _ (by omega) (by omega)).mono ?_; rintro e w' ⟨rfl, rfl⟩) | (go_at_call 30; refine (l1digit_any _ _).mono ?_; rintro e w' ⟨rfl, rfl⟩) | (go_at_call 43; refine (l1has_any _ _ _ (by decide)).mono ?_; rintro e w' ⟨rfl, rfl⟩))
          go_ret
          exact ⟨rfl, rfl⟩
      · rw [tokP_96 (letP_no hl') hd h96]
        rcases hl2 with hl | ⟨hl, hl3⟩
        all_goals
          go_enter Tryd.func23, Tryd.ntmps23
          go_wp2_with (first | (go_at_call 26; refine (l1lower_any _ _ (by omega) (by omega)).mono ?_; rintro e w' ⟨rfl, rfl⟩) | (go_at_call 30; refine (l1digit_any _ _).mono ?_; rintro e w' ⟨rfl, rfl⟩) | (go_at_call 43; refine (l1has_any _ _ _ (by decide)).mono ?_; rintro e w' ⟨rfl, rfl⟩))
          go_ret
          exact ⟨rfl, rfl⟩
    · rw [tokP_dig hd]
      rcases hl2 with hl | ⟨hl, hl3⟩
      all_goals
        go_enter Tryd.func23, Tryd.ntmps23
        go_wp2_with (first | (go_at_call 26; refine (l1lower_any _ _ (by omega) (by omega)).mono ?_; rintro e w' ⟨rfl, rfl⟩) | (go_at_call 30; refine (l1digit_any _ _).mono ?_; rintro e w' ⟨rfl, rfl⟩) | (go_at_call 43; refine (l1has_any _ _ _ (by decide)).mono ?_; rintro e w' ⟨rfl, rfl⟩))
        go_ret
        exact ⟨rfl, rfl⟩
set_option maxHeartbeats 1000000 in
theorem Token_any (s : ByteArray) (w : World) (hs : s.size ≤ maxLen) :
    Calls Tryd.prog 41 #[.string s] w fun e w' => e = .returned (.bool (tokB s)) ∧ w' = w := by
  unfold maxLen at hs
  by_cases h0 : s.size = 0
  · rw [tokB_size (Or.inl h0)]
    have hne : s.toList.isEmpty = true := by rw [ByteArray.toList_eq, List.isEmpty_iff, ← List.length_eq_zero_iff, Array.length_toList]; exact h0
    go_enter Tryd.func41, Tryd.ntmps41
    go_wp2
    go_ret
    exact ⟨rfl, rfl⟩
  · have hne : s.toList.isEmpty = false := by
      rw [ByteArray.toList_eq, List.isEmpty_eq_false_iff]
      intro hh
      apply h0
      show s.data.size = 0
      rw [← Array.length_toList, hh]; rfl
    have hne2 : ((s.size : Int) == 0) = false := by rw [Bool.eq_false_iff, ne_eq, beq_iff_eq]; omega
    by_cases hbig : (4000 : Int) < (s.size : Int)
    · rw [tokB_size (Or.inr (by omega))]
      go_enter Tryd.func41, Tryd.ntmps41
      go_wp2
      go_ret
      exact ⟨rfl, rfl⟩
    · go_enter Tryd.func41, Tryd.ntmps41
      go_wp2
      clear hne hne2
      go_loop [13] (fun i => ∃ k : Nat, k ≤ s.size ∧ i = .int .i64 k ∧ ∀ j, j < k → tok8 (at8 s j) = true) (fun i => s.size - (intOf i).toNat)
      case atStart => exact ⟨0, Nat.zero_le _, rfl, fun j hj => by omega⟩
      case round =>
        obtain ⟨k, hk, rfl, hall⟩ := hrel
        have Hall : Hid (∀ j, j < k → tok8 (at8 s j) = true) := hall
        clear hall
        by_cases hlt : k < s.size
        · cases hg0 : tok8 (at8 s k)
          · have hg : tokP (s[k].toNat : Int) = false := by rw [at8_eq s k hlt]; exact hg0
            have hfin : Hid (tokB s = false) := tokB_no hlt hg0
            clear hg0
            go_wp2_with (go_at_call 56; refine (tokenByte_any _ _ (u8_lo _) (u8_hi _)).mono ?_; rintro e w' ⟨rfl, rfl⟩)
            go_ret
            exact ⟨ret_bool hfin.out, rfl⟩
          · have hg : tokP (s[k].toNat : Int) = true := by rw [at8_eq s k hlt]; exact hg0
            have Hg : Hid (tok8 (at8 s k) = true) := hg0
            clear hg0
            go_wp2_with (go_at_call 56; refine (tokenByte_any _ _ (u8_lo _) (u8_hi _)).mono ?_; rintro e w' ⟨rfl, rfl⟩)
            go_round
            case rel => exact ⟨k + 1, by omega, by go_num, all_succ Hall.out Hg.out⟩
            case measure => simp [intOf]; omega
        · have hfin : Hid (tokB s = true) := tokB_yes (by omega) (by omega) (fun j hj => Hall.out j (by omega))
          go_wp2
          go_ret
          exact ⟨ret_bool hfin.out, rfl⟩
set_option maxHeartbeats 1000000 in
theorem sToken_any (s : ByteArray) (w : World) (hs : s.size ≤ maxLen) :
    Calls Tryd.prog 11 #[.string s] w fun e w' => e = .returned (.bool (tokB s)) ∧ w' = w := by
  unfold maxLen at hs
  by_cases h0 : s.size = 0
  · rw [tokB_size (Or.inl h0)]
    have hne : ((s.size : Int) == 0) = true := by rw [beq_iff_eq]; omega
    go_enter Tryd.func11, Tryd.ntmps11
    go_wp2
    go_ret
    exact ⟨rfl, rfl⟩
  · have hne : s.toList.isEmpty = false := by
      rw [ByteArray.toList_eq, List.isEmpty_eq_false_iff]
      intro hh
      apply h0
      show s.data.size = 0
      rw [← Array.length_toList, hh]; rfl
    have hne2 : ((s.size : Int) == 0) = false := by rw [Bool.eq_false_iff, ne_eq, beq_iff_eq]; omega
    by_cases hbig : (4000 : Int) < (s.size : Int)
    · rw [tokB_size (Or.inr (by omega))]
      go_enter Tryd.func11, Tryd.ntmps11
      go_wp2
      go_ret
      exact ⟨rfl, rfl⟩
    · go_enter Tryd.func11, Tryd.ntmps11
      go_wp2
      clear hne hne2
      go_loop [3] (fun i => ∃ k : Nat, k ≤ s.size ∧ i = .int .i64 k ∧ ∀ j, j < k → tok8 (at8 s j) = true) (fun i => s.size - (intOf i).toNat)
      case atStart => exact ⟨0, Nat.zero_le _, rfl, fun j hj => by omega⟩
      case round =>
        obtain ⟨k, hk, rfl, hall⟩ := hrel
        have Hall : Hid (∀ j, j < k → tok8 (at8 s j) = true) := hall
        clear hall
        by_cases hlt : k < s.size
        · cases hg0 : tok8 (at8 s k)
          · have hg : tokP (s[k].toNat : Int) = false := by rw [at8_eq s k hlt]; exact hg0
            have hfin : Hid (tokB s = false) := tokB_no hlt hg0
            clear hg0
            go_wp2_with (go_at_call 23; refine (l1tchar_any _ _ (u8_lo _) (u8_hi _)).mono ?_; rintro e w' ⟨rfl, rfl⟩)
            go_ret
            exact ⟨ret_bool hfin.out, rfl⟩
          · have hg : tokP (s[k].toNat : Int) = true := by rw [at8_eq s k hlt]; exact hg0
            have Hg : Hid (tok8 (at8 s k) = true) := hg0
            clear hg0
            go_wp2_with (go_at_call 23; refine (l1tchar_any _ _ (u8_lo _) (u8_hi _)).mono ?_; rintro e w' ⟨rfl, rfl⟩)
            go_round
            case rel => exact ⟨k + 1, by omega, by go_num, all_succ Hall.out Hg.out⟩
            case measure => simp [intOf]; omega
        · have hfin : Hid (tokB s = true) := tokB_yes (by omega) (by omega) (fun j hj => Hall.out j (by omega))
          go_wp2
          go_ret
          exact ⟨ret_bool hfin.out, rfl⟩
end Go.Proofs.YtffjpidjhcnnmabDoor
namespace Go.Proofs.YtffjpidjhcnnmabDoor
set_option linter.unusedVariables false
set_option linter.unusedSimpArgs false
open Go.RowKit

theorem fold_round {s : ByteArray} {k : Nat} {w wr : World} (hlt : k < s.size) (hrow : Hid (Row8 wr w.heap.size (foldTo s k))) (hbel : Hid (Below w.heap.size w wr)) :
    Row8 (wr.setCell ⟨w.heap.size, k, none⟩ (.int .u8 (lowI ((nums s).getD k 0)))) w.heap.size (foldTo s (k + 1)) ∧ Below w.heap.size w (wr.setCell ⟨w.heap.size, k, none⟩ (.int .u8 (lowI ((nums s).getD k 0)))) := by
  refine ⟨?_, hbel.out.setCell (by simp) _⟩
  rw [foldTo_succ s k hlt]
  exact hrow.out.set k _ (by rw [foldTo_length]; exact hlt)

set_option maxHeartbeats 1000000 in
theorem Fold_any (s : ByteArray) (w : World) (hs : s.size ≤ maxLen) :
    Calls Tryd.prog 49 #[.string s] w fun e w' => e = .returned (.string (foldB s)) ∧ Below w.heap.size w w' := by
  unfold maxLen at hs
  have kc := fun w => Lib.run_convert_string_bytes (P := Tryd.prog) w 9 48 5 s Tryd.underlying9 Tryd.underlying48 Tryd.underlying5
  have HR : Hid (Row8 (Lib.bytesWorld w 5 s) w.heap.size (nums s)) := row8_bytes w 5 s
  have HB : Hid (Below w.heap.size w (Lib.bytesWorld w 5 s)) := below_bytes w 5 s
  go_enter Tryd.func49, Tryd.ntmps49
  go_wp2
  generalize Lib.bytesWorld w 5 s = W1 at HR HB
  clear kc
  go_loopw [9] (fun i wr => ∃ k : Nat, k ≤ s.size ∧ i = .int .i64 k ∧ Row8 wr w.heap.size (foldTo s k) ∧ Below w.heap.size w wr) (fun i _ => s.size - (intOf i).toNat)
  case atStart => exact ⟨0, Nat.zero_le _, rfl, by rw [foldTo_zero]; exact HR.out, HB.out⟩
  case round =>
    obtain ⟨k, hk, rfl, hrow, hbel⟩ := hrel
    clear HR HB
    by_cases hlt : k < s.size
    · have hc := hrow.cell k (by rw [foldTo_length]; exact hlt)
      have hf := hrow.free k (by rw [foldTo_length]; exact hlt)
      rw [foldTo_at s k hlt] at hc
      have hbd := nums_bd s k
      have R := fold_round hlt hrow hbel
      have HRR : Hid (Row8 (wr.setCell ⟨w.heap.size, k, none⟩ (.int .u8 (lowI ((nums s).getD k 0)))) w.heap.size (foldTo s (k + 1)) ∧ Below w.heap.size w (wr.setCell ⟨w.heap.size, k, none⟩ (.int .u8 (lowI ((nums s).getD k 0))))) := R
      clear hrow hbel R
      generalize (nums s).getD k 0 = x at *
      go_wp2_with (go_at_call 62; refine (smallByte_any _ _ (by omega) (by omega)).mono ?_; rintro e w' ⟨rfl, rfl⟩)
      go_roundw
      case rel => exact ⟨k + 1, by omega, by go_num, HRR.out.1, HRR.out.2⟩
      case measure => simp [intOf]; omega
    · obtain rfl : k = s.size := by omega
      have kb := hrow.text (P := Tryd.prog) 48 5 9 s.size (grownCap w s.size 0 5) (foldTo_length s s.size) Tryd.underlying48 Tryd.underlying5 Tryd.underlying9
      rw [foldTo_all] at kb
      go_wp2
      go_ret
      exact ⟨rfl, hbel⟩
set_option maxHeartbeats 1000000 in
theorem sFold_any (s : ByteArray) (w : World) (hs : s.size ≤ maxLen) :
    Calls Tryd.prog 14 #[.string s] w fun e w' => e = .returned (.string (foldB s)) ∧ Below w.heap.size w w' := by
  unfold maxLen at hs
  have kc := fun w => Lib.run_convert_string_bytes (P := Tryd.prog) w 9 48 5 s Tryd.underlying9 Tryd.underlying48 Tryd.underlying5
  have HR : Hid (Row8 (Lib.bytesWorld w 5 s) w.heap.size (nums s)) := row8_bytes w 5 s
  have HB : Hid (Below w.heap.size w (Lib.bytesWorld w 5 s)) := below_bytes w 5 s
  go_enter Tryd.func14, Tryd.ntmps14
  go_wp2
  generalize Lib.bytesWorld w 5 s = W1 at HR HB
  clear kc
  go_loopw [4] (fun i wr => ∃ k : Nat, k ≤ s.size ∧ i = .int .i64 k ∧ Row8 wr w.heap.size (foldTo s k) ∧ Below w.heap.size w wr) (fun i _ => s.size - (intOf i).toNat)
  case atStart => exact ⟨0, Nat.zero_le _, rfl, by rw [foldTo_zero]; exact HR.out, HB.out⟩
  case round =>
    obtain ⟨k, hk, rfl, hrow, hbel⟩ := hrel
    clear HR HB
    by_cases hlt : k < s.size
    · have hc := hrow.cell k (by rw [foldTo_length]; exact hlt)
      have hf := hrow.free k (by rw [foldTo_length]; exact hlt)
      rw [foldTo_at s k hlt] at hc
      have hbd := nums_bd s k
      have R := fold_round hlt hrow hbel
      have HRR : Hid (Row8 (wr.setCell ⟨w.heap.size, k, none⟩ (.int .u8 (lowI ((nums s).getD k 0)))) w.heap.size (foldTo s (k + 1)) ∧ Below w.heap.size w (wr.setCell ⟨w.heap.size, k, none⟩ (.int .u8 (lowI ((nums s).getD k 0))))) := R
      clear hrow hbel R
      generalize (nums s).getD k 0 = x at *
      go_wp2_with (go_at_call 26; refine (l1lower_any _ _ (by omega) (by omega)).mono ?_; rintro e w' ⟨rfl, rfl⟩)
      go_roundw
      case rel => exact ⟨k + 1, by omega, by go_num, HRR.out.1, HRR.out.2⟩
      case measure => simp [intOf]; omega
    · obtain rfl : k = s.size := by omega
      have kb := hrow.text (P := Tryd.prog) 48 5 9 s.size (grownCap w s.size 0 5) (foldTo_length s s.size) Tryd.underlying48 Tryd.underlying5 Tryd.underlying9
      rw [foldTo_all] at kb
      go_wp2
      go_ret
      exact ⟨rfl, hbel⟩
end Go.Proofs.YtffjpidjhcnnmabDoor
