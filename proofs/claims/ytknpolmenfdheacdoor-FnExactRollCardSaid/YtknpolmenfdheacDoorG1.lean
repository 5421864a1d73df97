/-
  Chapter 4: stores as lists of segments, and rows of segments in memory.
-/
import Derived.Test.YtknpolmenfdheacDoorBK
import Derived.OwnWalk
import Derived.Laws.ResultCell
import Derived.Laws.OwnMore
import Derived.Deep.RegionWith
namespace Go.Proofs.YtknpolmenfdheacDoor
set_option linter.unusedVariables false
set_option linter.unusedSimpArgs false
open Go.RowKit
/-- A segment: its bytes, and how many of them are synced. -/
abbrev Sg := ByteArray × Int
def sg0 : Sg := (⟨#[]⟩, 0)
/-- Number j, or the empty one. -/
def sgAt (l : List Sg) (j : Nat) : Sg := l.getD j sg0
theorem sgAt_get {l : List Sg} {j : Nat} (h : j < l.length) : sgAt l j = l[j] := by
  unfold sgAt; rw [List.getD, List.getElem?_eq_getElem h]; rfl
/-- All bytes together. -/
def totG (l : List Sg) : Nat := (l.map fun s => s.1.size).sum
theorem totG_nil : totG [] = 0 := rfl
theorem totG_app (a b : List Sg) : totG (a ++ b) = totG a + totG b := by simp [totG]
theorem totG_one (s : Sg) : totG [s] = s.1.size := by simp [totG]
theorem take_next (l : List Sg) (k : Nat) (h : k < l.length) : l.take (k + 1) = l.take k ++ [sgAt l k] := by
  rw [List.take_succ_eq_append_getElem h, sgAt_get h]
theorem totG_next (l : List Sg) (k : Nat) (h : k < l.length) : totG (l.take (k + 1)) = totG (l.take k) + (sgAt l k).1.size := by
  rw [take_next l k h, totG_app, totG_one]
theorem totG_take (l : List Sg) (k : Nat) : totG (l.take k) ≤ totG l := by
  conv => rhs; rw [← List.take_append_drop k l]
  rw [totG_app]; omega
theorem totG_at (l : List Sg) (k : Nat) (h : k < l.length) : totG (l.take k) + (sgAt l k).1.size ≤ totG l := by
  rw [← totG_next l k h]; exact totG_take l _
/-- A row of segments in memory: block b, two cells each. -/
structure RowG (w : World) (b : Nat) (l : List Sg) : Prop where
  dat : ∀ j, j < l.length → w.cell? ⟨b, j * 2, none⟩ = some (.string (sgAt l j).1)
  saf : ∀ j, j < l.length → w.cell? ⟨b, j * 2 + 1, none⟩ = some (.int .i64 (sgAt l j).2)
  free : ∀ j, w.frozen? ⟨b, j, none⟩ = false
  lt : b < w.heap.size
theorem RowG.later {w w' : World} {b B : Nat} {l : List Sg} (h : RowG w b l) (k : Below B w w') (hb : b < B) : RowG w' b l :=
  ⟨fun j hj => by rw [k.cell (p := ⟨b, j * 2, none⟩) hb]; exact h.dat j hj, fun j hj => by rw [k.cell (p := ⟨b, j * 2 + 1, none⟩) hb]; exact h.saf j hj, fun j => by rw [k.frozen (p := ⟨b, j, none⟩) hb]; exact h.free j, Nat.lt_of_lt_of_le h.lt k.size⟩
theorem RowG.keep {w w' : World} {b : Nat} {l : List Sg} (h : RowG w b l) (k : Below w.heap.size w w') : RowG w' b l := h.later k h.lt
theorem results_cellS {fn : Func} {p : Tmp} {ty : TypeId} (h : fn.results = #[.cell p ty]) (tmps : Array Value) (P : Program) (w : World) {b : Nat} {c : Array Value} {t : TypeId} {fs : Array Field} (hp : tmps.getD p undef = .pointer (some ⟨b, 0, none⟩)) (hB : Blk w b c t)
    (hu : P.underlying ty = some (.struct fs)) (hi : (P.info? ty).map (·.size) = some c.size) : (results fn tmps).run P w = .ok (.agg c) w := by
  have hrun := run_loadVar_row (P := P) w b t ty c (0, 0) _ hB hu rfl hi
  have ha : (asAddr (tmps.getD p undef)).run P w = .ok ⟨b, 0, none⟩ w := by rw [hp]; rfl
  have he : (results fn tmps).run P w = ((asAddr (tmps.getD p undef)).run P w).andThen fun a w₁ => (loadVar ty a).run P w₁ := by
    simp only [results, h]
    simp [Sem.run_bind, Result.andThen]
  rw [he, ha]
  exact hrun
theorem results_cellT {fn : Func} {p u : Tmp} {ty : TypeId} (h : fn.results = #[.cell p ty, .tmp u]) (tmps : Array Value) (P : Program) (w : World) {b : Nat} {c : Array Value} {t : TypeId} {fs : Array Field} (hp : tmps.getD p undef = .pointer (some ⟨b, 0, none⟩)) (hB : Blk w b c t)
    (hu : P.underlying ty = some (.struct fs)) (hi : (P.info? ty).map (·.size) = some c.size) : (results fn tmps).run P w = .ok (.tuple #[.agg c, tmps.getD u undef]) w := by
  have hrun := run_loadVar_row (P := P) w b t ty c (0, 0) _ hB hu rfl hi
  have ha : (asAddr (tmps.getD p undef)).run P w = .ok ⟨b, 0, none⟩ w := by rw [hp]; rfl
  rw [results_cell_tmp h, ha]
  show ((loadVar ty ⟨b, 0, none⟩).run P w).andThen _ = _
  rw [hrun]
  rfl
theorem Tryd.infoStore : (Tryd.prog.info? 28).map (·.size) = some 2 := by kernel_rfl
theorem Blk.c2 {w : World} {g : Nat} {x y : Value} {t : TypeId} (h : Blk w g #[x, y] t) : w.cell? ⟨g, 0, none⟩ = some x ∧ w.cell? ⟨g, 1, none⟩ = some y := ⟨h.cell 0, h.cell 1⟩
theorem Blk.set2 {w : World} {g : Nat} {a b : Value} {t : TypeId} (h : Blk w g #[a, b] t) (x y : Value) : Blk ((w.setCell ⟨g, 0, none⟩ x).setCell ⟨g, 1, none⟩ y) g #[x, y] t := (h.set 0 x).set 1 y
theorem Blk.oth2 {w : World} {b g : Nat} {c : Array Value} {t : TypeId} (h : Blk w b c t) (hne : g ≠ b) (x y : Value) : Blk ((w.setCell ⟨g, 0, none⟩ x).setCell ⟨g, 1, none⟩ y) b c t := (h.other hne 0 x).other hne 1 y
theorem below_set2 {B g : Nat} {w0 w : World} (h : Below B w0 w) (hg : B ≤ g) (x y : Value) : Below B w0 ((w.setCell ⟨g, 0, none⟩ x).setCell ⟨g, 1, none⟩ y) :=
  (h.setCell (p := ⟨g, 0, none⟩) hg x).setCell (p := ⟨g, 1, none⟩) hg y
theorem blk_a (w : World) (c : Array Value) (t : TypeId) (o o' : Obj) : Blk (((w.alloc (.cells c t)).alloc o).alloc o') w.heap.size c t := ((Blk.new w c t).alloc o).alloc o'
theorem blk_b (w : World) (c : Array Value) (t : TypeId) (o o' : Obj) : Blk (((w.alloc o).alloc (.cells c t)).alloc o') (w.heap.size + 1) c t := by
  have := (Blk.new (w.alloc o) c t).alloc o'
  simpa using this
theorem blk_c (w : World) (c : Array Value) (t : TypeId) (o o' : Obj) : Blk (((w.alloc o).alloc o').alloc (.cells c t)) (w.heap.size + 1 + 1) c t := by
  have := Blk.new ((w.alloc o).alloc o') c t
  simpa using this
theorem RowG.other {w : World} {b b' : Nat} {l : List Sg} (h : RowG w b l) (hne : b' ≠ b) (k : Nat) (v : Value) : RowG (w.setCell ⟨b', k, none⟩ v) b l :=
  ⟨fun j hj => by rw [World.cell?_setCell_other _ _ _ _ (by intro hh; injection hh with h1 _; exact hne h1)]; exact h.dat j hj,
   fun j hj => by rw [World.cell?_setCell_other _ _ _ _ (by intro hh; injection hh with h1 _; exact hne h1)]; exact h.saf j hj,
   fun j => by rw [World.frozen?_setCell]; exact h.free j, by simpa [World.setCell] using h.lt⟩
theorem RowG.oth2 {w : World} {b g : Nat} {l : List Sg} (h : RowG w b l) (hne : g ≠ b) (x y : Value) : RowG ((w.setCell ⟨g, 0, none⟩ x).setCell ⟨g, 1, none⟩ y) b l := (h.other hne 0 x).other hne 1 y
theorem below_drewN' (w : World) (n : Nat) : Below w.heap.size w (w.drewN n) := ⟨rfl, rfl, rfl, Nat.le_refl _, fun _ _ => rfl⟩
theorem RowG.drewN {w : World} {b : Nat} {l : List Sg} (h : RowG w b l) (n : Nat) : RowG (w.drewN n) b l := h.keep (below_drewN' w n)
/-- Number k gets new bytes and a new mark, cell by cell. -/
theorem RowG.set {w : World} {b : Nat} {l : List Sg} (h : RowG w b l) (k : Nat) (d : ByteArray) (s : Int) (hk : k < l.length) :
    RowG ((w.setCell ⟨b, k * 2, none⟩ (.string d)).setCell ⟨b, k * 2 + 1, none⟩ (.int .i64 s)) b (l.set k (d, s)) := by
  have hat : ∀ j, j < l.length → sgAt (l.set k (d, s)) j = if j = k then (d, s) else sgAt l j := by
    intro j hj
    rw [sgAt_get (by rw [List.length_set]; exact hj), List.getElem_set]
    by_cases e : j = k
    · subst e; simp
    · rw [if_neg (Ne.symm e), if_neg e, sgAt_get hj]
  refine ⟨fun j hj => ?_, fun j hj => ?_, fun j => ?_, by simpa [World.setCell] using h.lt⟩
  · rw [List.length_set] at hj
    rw [World.cell?_setCell_other _ _ _ _ (by intro hh; injection hh with _ h2; omega), hat j hj]
    by_cases e : j = k
    · subst e
      rw [World.cell?_setCell_same _ _ _ (h.dat j hj)]
      simp
    · rw [World.cell?_setCell_other _ _ _ _ (by intro hh; injection hh with _ h2; omega), h.dat j hj, if_neg e]
  · rw [List.length_set] at hj
    rw [hat j hj]
    by_cases e : j = k
    · subst e
      rw [World.cell?_setCell_same (u := .int .i64 (sgAt l j).2) _ _ _ (by rw [World.cell?_setCell_other _ _ _ _ (by intro hh; injection hh with _ h2; omega)]; exact h.saf j hj)]
      simp
    · rw [World.cell?_setCell_other _ _ _ _ (by intro hh; injection hh with _ h2; omega), World.cell?_setCell_other _ _ _ _ (by intro hh; injection hh with _ h2; omega), h.saf j hj, if_neg e]
  · rw [World.frozen?_setCell, World.frozen?_setCell]
    exact h.free j
theorem Tryd.infoG : (Tryd.prog.info? 40).map (fun i => (i.zero, i.size, i.bytes)) = some (some (.agg #[.string ⟨#[]⟩, .int .i64 0]), 2, 24) := by kernel_rfl
theorem made2 (x y : Value) (n j : Nat) (h : j < n) : (madeCells #[x, y] (n * 2)).toList[j * 2]? = some x ∧ (madeCells #[x, y] (n * 2)).toList[j * 2 + 1]? = some y := by
  have h1 : j * 2 < n * 2 := by omega
  have h2 : j * 2 + 1 < n * 2 := by omega
  have e1 : j * 2 % 2 = 0 := by omega
  have e2 : (j * 2 + 1) % 2 = 1 := by omega
  constructor
  · simp [madeCells, h1, e1]
  · simp [madeCells, h2, e2]
theorem rowG_made {w w' : World} {n : Nat} (h : w'.ownsRow w.heap.size 40 2 (.slice (some ⟨w.heap.size, 0, none⟩) n n) n (madeCells (Value.agg #[.string ⟨#[]⟩, .int .i64 0]).cells (n * 2)).toList) : RowG w' w.heap.size (List.replicate n sg0) := by
  have hat : ∀ j, j < n → sgAt (List.replicate n sg0) j = sg0 := fun j hj => by rw [sgAt_get (by simpa using hj)]; simp
  refine ⟨fun j hj => ?_, fun j hj => ?_, fun j => h.frozenAt j, (h.lt w.heap.size rfl).2⟩
  · rw [List.length_replicate] at hj
    rw [h.cellAt (j * 2) (by omega), hat j hj]
    exact (made2 _ _ n j hj).1
  · rw [List.length_replicate] at hj
    rw [h.cellAt (j * 2 + 1) (by omega), hat j hj]
    exact (made2 _ _ n j hj).2
theorem wp_mkG {ops : Array Oper} {rest : List Oper} {o : Oper} {a : Act} {Q : Exit → Act → World → Prop} {w : World} (hg : o.guard = none) (l c : Operand) (hop : o.op = Op.makeSlice 26 l c)
    (n : Nat) (L C : Int) (hl : a.eval l = .int .i64 L) (hc : a.eval c = .int .i64 C) (hL : L = (n : Int)) (hC : C = (n : Int)) (hn : n ≤ 1048576)
    (hK : ∀ w', RowG w' w.heap.size (List.replicate n sg0) → Below w.heap.size w w' → wpList Tryd.prog ops Q rest (a.put o.dst (.slice (some ⟨w.heap.size, 0, none⟩) n n)) w') :
    wpList Tryd.prog ops Q (o :: rest) a w := by
  obtain ⟨i0, hi, hz0, hz1, hz2⟩ := info_parts Tryd.infoG
  refine wpList_make_full w hg l c 26 hop w.heap.size 40 i0 _ 2 Tryd.underlying26 hi hz0 hz1 .i64 .i64 L C n hl hc hL hC (by rw [hz2]; omega) (by unfold maxLen; omega) (Nat.le_refl _) ?_
  intro w' hown hgr
  exact hK w' (rowG_made hown) ⟨hgr.os, hgr.tape, hgr.output, hgr.size, fun k hk => hgr.block k hk (by simp)⟩
/-- A slice of segments that came in. -/
def ArgG (w : World) (a : Option Addr) (len : Nat) (l : List Sg) : Prop :=
  l.length = len ∧ (len = 0 ∨ ∃ b off, a = some ⟨b, off, none⟩ ∧ b < w.heap.size ∧ ∀ i, i < len → w.cell? ⟨b, off + i * 2, none⟩ = some (.string (sgAt l i).1) ∧ w.cell? ⟨b, off + i * 2 + 1, none⟩ = some (.int .i64 (sgAt l i).2))
theorem ArgG.later {w w' : World} {a : Option Addr} {len : Nat} {l : List Sg} (h : ArgG w a len l) (k : Below w.heap.size w w') : ArgG w' a len l := by
  obtain ⟨h1, h2⟩ := h
  refine ⟨h1, ?_⟩
  rcases h2 with h2 | ⟨b, off, e, hb, hc⟩
  · exact .inl h2
  · exact .inr ⟨b, off, e, Nat.lt_of_lt_of_le hb k.size, fun i hi => ⟨by rw [k.cell (p := ⟨b, off + i * 2, none⟩) hb]; exact (hc i hi).1, by rw [k.cell (p := ⟨b, off + i * 2 + 1, none⟩) hb]; exact (hc i hi).2⟩⟩
set_option maxHeartbeats 400000 in
theorem szSeg_any (d : ByteArray) (s left : Int) (w : World) (hd : d.size ≤ maxLen) (h0 : 0 ≤ left) (h1 : left ≤ 1048576) :
    Calls Tryd.prog 25 #[.agg #[.string d, .int .i64 s], .int .i64 left] w fun e w' => e = .returned (.int .i64 (if (d.size : Int) ≤ left then left - d.size else -1)) ∧ Below w.heap.size w w' := by
  unfold maxLen at hd
  have HB := hideB2 (below_a1 w (.cells #[.string d, .int .i64 s] 52))
  by_cases h : (d.size : Int) ≤ left
  · rw [if_pos h]
    go_enter Tryd.func25, Tryd.ntmps25
    go_wp2
    go_ret
    exact ⟨rfl, HB.out⟩
  · rw [if_neg h]
    go_enter Tryd.func25, Tryd.ntmps25
    go_wp2
    go_ret
    exact ⟨rfl, HB.out⟩
set_option maxHeartbeats 1000000 in
theorem szSegS_any (a : Option Addr) (len cap : Nat) (l : List Sg) (w : World) (hx : ArgG w a len l) (hl : len ≤ maxLen) (hd : ∀ j, j < len → (sgAt l j).1.size ≤ maxLen) :
    Calls Tryd.prog 14 #[.slice a len cap, .int .i64 1048576] w fun e w' => e = .returned (.int .i64 (if len + totG l ≤ 1048576 then 1048576 - (len : Int) - (totG l : Int) else -1)) ∧ Below w.heap.size w w' := by
  obtain ⟨hlen, hx⟩ := hx
  have HL := hideB2 hlen
  have HX := hideB2 hx
  have HD := hideB2 hd
  clear hlen hx hd
  unfold maxLen at hl
  generalize hR : (if len + totG l ≤ 1048576 then 1048576 - (len : Int) - (totG l : Int) else -1) = R
  have HR := hideB2 hR
  clear hR
  by_cases h0 : len ≤ 1048576
  · go_enter Tryd.func14, Tryd.ntmps14
    go_wp2
    go_loopw [1, 5] (fun x i wr => ∃ k : Nat, k ≤ len ∧ i = .int .i64 k ∧ x = .int .i64 (1048576 - (len : Int) - (totG (l.take k) : Int)) ∧ len + totG (l.take k) ≤ 1048576 ∧ Below w.heap.size w wr) (fun _ i _ => len - (intOf i).toNat)
    case atStart => exact ⟨0, Nat.zero_le _, rfl, by simp [totG], by simp [totG]; exact h0, Below.refl _ _⟩
    case round =>
      obtain ⟨k, hk, rfl, rfl, hle, hb⟩ := hrel
      by_cases hlt : k < len
      · rcases HX.out with h0 | ⟨b, off, rfl, hbl, hcs⟩
        · omega
        · obtain ⟨hc0, hc1⟩ := hcs k hlt
          rw [← hb.cell (p := ⟨b, off + k * 2, none⟩) hbl] at hc0
          rw [← hb.cell (p := ⟨b, off + k * 2 + 1, none⟩) hbl] at hc1
          have hnx := totG_next l k (by rw [HL.out]; exact hlt)
          have hat := totG_at l k (by rw [HL.out]; exact hlt)
          have hdk := HD.out k hlt
          generalize hx0 : sgAt l k = x at *
          obtain ⟨d, s⟩ := x
          simp only at hc0 hc1 hnx hat hdk
          have HNX := hideB2 hnx
          have HAT := hideB2 hat
          clear hx0 hcs HX hnx hat
          generalize totG (l.take k) = t at *
          go_wp2_with fail
          refine (szSeg_any d s _ _ hdk (by omega) (by omega)).mono ?_
          rintro e w2 ⟨rfl, hb2⟩
          have HB2 := hideB2 (hb.trans (hb2.mono hb.size))
          clear hb hb2 hc0 hc1
          by_cases hf : (d.size : Int) ≤ 1048576 - (len : Int) - (t : Int)
          · rw [if_pos hf]
            go_wp2
            exact ⟨⟨k + 1, by omega, by go_num, by rw [HNX.out]; congr 1; omega, by rw [HNX.out]; omega, HB2.out⟩, by simp [intOf]; omega⟩
          · rw [if_neg hf]
            go_wp2
            go_ret
            exact ⟨ret_int (by rw [← HR.out, if_neg]; have := HAT.out; omega), HB2.out⟩
      · obtain rfl : k = len := by omega
        rw [List.take_of_length_le (by rw [HL.out]; exact Nat.le_refl _)] at hle
        rw [List.take_of_length_le (by rw [HL.out]; exact Nat.le_refl _)]
        have HF := hideB2 (show 1048576 - (k : Int) - (totG l : Int) = R by rw [← HR.out, if_pos hle])
        go_wp2
        go_ret
        exact ⟨ret_int HF.out.symm, hb⟩
  · have hn : ¬ (len + totG l ≤ 1048576) := by omega
    have HF := hideB2 (show -1 = R by rw [← HR.out, if_neg hn])
    go_enter Tryd.func14, Tryd.ntmps14
    go_wp2
    go_ret
    exact ⟨ret_int HF.out.symm, Below.refl _ _⟩
set_option maxHeartbeats 400000 in
theorem szStore_any (a : Option Addr) (len cap : Nat) (l : List Sg) (c : Int) (w : World) (hx : ArgG w a len l) (hl : len ≤ maxLen) (hd : ∀ j, j < len → (sgAt l j).1.size ≤ maxLen) :
    Calls Tryd.prog 5 #[.agg #[.slice a len cap, .int .i64 c], .int .i64 1048576] w fun e w' => e = .returned (.int .i64 (if len + totG l ≤ 1048576 then 1048576 - (len : Int) - (totG l : Int) else -1)) ∧ Below w.heap.size w w' := by
  have ha := below_a1 w (.cells #[.slice a len cap, .int .i64 c] 24)
  have hS := fun w' h => szSegS_any a len cap l w' h hl hd
  generalize hR : (if len + totG l ≤ 1048576 then 1048576 - (len : Int) - (totG l : Int) else -1) = R at *
  have HR : Hid (-1 ≤ R) := by
    rw [← hR]
    split
    · show (-1 : Int) ≤ _
      omega
    · exact Int.le_refl _
  clear hR
  go_enter Tryd.func5, Tryd.ntmps5
  go_wp2_with fail
  refine (hS _ (hx.later ha)).mono ?_
  rintro e w1 ⟨rfl, hb1⟩
  have HB := hideB2 (below_then ha hb1)
  clear ha hb1 hx hd hS
  by_cases hs : R < 0
  · obtain rfl : R = -1 := by have := HR.out; omega
    go_wp2
    go_ret
    exact ⟨rfl, HB.out⟩
  · go_wp2
    go_ret
    exact ⟨rfl, HB.out⟩
set_option maxHeartbeats 400000 in
theorem toSeg_any (d : ByteArray) (s : Int) (w : World) :
    Calls Tryd.prog 26 #[.agg #[.string d, .int .i64 s]] w fun e w' => e = .returned (.agg #[.string d, .int .i64 s]) ∧ Below w.heap.size w w' := by
  go_enter Tryd.func26, Tryd.ntmps26
  go_wp2
  refine bodyPost_ret (v := .agg #[.string d, .int .i64 s]) (by simp [results, Tryd.results26, go_sem]) rfl ⟨rfl, below_a3 w _ _ _⟩
set_option maxHeartbeats 1000000 in
theorem toSegS_any (a : Option Addr) (len cap : Nat) (l : List Sg) (w : World) (hx : ArgG w a len l) (hl : len ≤ 1048576) :
    Calls Tryd.prog 17 #[.slice a len cap] w fun e w' => e = .returned (.slice (some ⟨w.heap.size, 0, none⟩) len len) ∧ RowG w' w.heap.size l ∧ Below w.heap.size w w' := by
  obtain ⟨hlen, hx⟩ := hx
  have HL := hideB2 hlen
  have HX := hideB2 hx
  clear hlen hx
  go_enter Tryd.func17, Tryd.ntmps17
  go_wp2_with (refine wp_mkG rfl _ _ rfl len _ _ rfl rfl rfl rfl (by omega) ?_; intro W1 hr1 hb1; have HR := hideB2 hr1; have HB := hideB2 hb1; clear hr1 hb1)
  go_loopw [4] (fun i wr => ∃ k : Nat, k ≤ len ∧ i = .int .i64 k ∧ RowG wr w.heap.size (l.take k ++ List.replicate (len - k) sg0) ∧ Below w.heap.size w wr) (fun i _ => len - (intOf i).toNat)
  case atStart => exact ⟨0, Nat.zero_le _, rfl, by simpa using HR.out, HB.out⟩
  case round =>
    obtain ⟨k, hk, rfl, hrow, hb⟩ := hrel
    clear HR HB
    have htl : (l.take k).length = k := by rw [List.length_take, HL.out]; omega
    by_cases hlt : k < len
    · rcases HX.out with h0 | ⟨b, off, rfl, hbl, hcs⟩
      · omega
      · obtain ⟨hc0, hc1⟩ := hcs k hlt
        rw [← hb.cell (p := ⟨b, off + k * 2, none⟩) hbl] at hc0
        rw [← hb.cell (p := ⟨b, off + k * 2 + 1, none⟩) hbl] at hc1
        generalize hx0 : sgAt l k = x at *
        obtain ⟨d, s⟩ := x
        simp only at hc0 hc1
        have hrl : (l.take k ++ List.replicate (len - k) sg0).length = len := by rw [List.length_append, htl, List.length_replicate]; omega
        go_wp2_with fail
        refine (toSeg_any d s _).mono ?_
        rintro e w2 ⟨rfl, hb2⟩
        have hrow2 := hrow.keep hb2
        have hbw2 := hb.trans (hb2.mono hb.size)
        have hd0 := hrow2.dat k (by rw [hrl]; exact hlt)
        have hd1 := hrow2.saf k (by rw [hrl]; exact hlt)
        have hf0 := hrow2.free (k * 2)
        have hf1 := hrow2.free (k * 2 + 1)
        have R := hrow2.set k d s (by rw [hrl]; exact hlt)
        have e : (l.take k ++ List.replicate (len - k) sg0).set k (d, s) = l.take (k + 1) ++ List.replicate (len - (k + 1)) sg0 := by
          have hkx : k < l.length := by rw [HL.out]; exact hlt
          rw [List.set_append_right _ _ (by rw [htl]; exact Nat.le_refl _), htl, Nat.sub_self, show len - k = (len - (k + 1)) + 1 by omega, List.replicate_succ, List.set_cons_zero, take_next l k hkx, List.append_assoc, hx0]
          rfl
        rw [e] at R
        have HR := hideB2 R
        have HRB := hideB2 ((hbw2.setCell (p := ⟨w.heap.size, k * 2, none⟩) (by simp) (.string d)).setCell (p := ⟨w.heap.size, k * 2 + 1, none⟩) (by simp) (.int .i64 s))
        clear R e hrow hb hrl htl hcs HX hrow2 hbw2 hx0 hc0 hc1 hb2
        generalize (sgAt (l.take k ++ List.replicate (len - k) sg0) k).1 = y0 at *
        generalize (sgAt (l.take k ++ List.replicate (len - k) sg0) k).2 = y1 at *
        go_wp2
        exact ⟨⟨k + 1, by omega, by go_num, HR.out, HRB.out⟩, by simp [intOf]; omega⟩
    · obtain rfl : k = len := by omega
      rw [Nat.sub_self, List.replicate_zero, List.append_nil, List.take_of_length_le (by rw [HL.out]; exact Nat.le_refl _)] at hrow
      go_wp2
      go_ret
      exact ⟨rfl, hrow, hb⟩
set_option maxHeartbeats 1000000 in
theorem toStore_any (a : Option Addr) (len cap : Nat) (l : List Sg) (c : Int) (w : World) (hx : ArgG w a len l) (hl : len ≤ 1048576) :
    Calls Tryd.prog 7 #[.agg #[.slice a len cap, .int .i64 c]] w fun e w' => ∃ b, e = .returned (.agg #[.slice (some ⟨b, 0, none⟩) len len, .int .i64 c]) ∧ w.heap.size ≤ b ∧ RowG w' b l ∧ Below w.heap.size w w' := by
  have ha2 := below_a2 w (.cells #[.slice a len cap, .int .i64 c] 24) (.cells #[.slice none 0 0, .int .i64 0] 28)
  go_enter Tryd.func7, Tryd.ntmps7
  go_wp2_with fail
  refine (toSegS_any a len cap l _ (hx.later (below_a3 w _ _ _)) hl).mono ?_
  rintro e w1 ⟨rfl, hr1, hb1⟩
  have K0 := (blk_a w #[.slice a len cap, .int .i64 c] 24 (.cells #[.slice none 0 0, .int .i64 0] 28) (.cells #[.slice none 0 0, .int .i64 0] 28)).later hb1
  have K1 := (blk_b w #[.slice none 0 0, .int .i64 0] 28 (.cells #[.slice a len cap, .int .i64 c] 24) (.cells #[.slice none 0 0, .int .i64 0] 28)).later hb1
  have K2 := (blk_c w #[.slice none 0 0, .int .i64 0] 28 (.cells #[.slice a len cap, .int .i64 c] 24) (.cells #[.slice none 0 0, .int .i64 0] 28)).later hb1
  obtain ⟨s0, s1⟩ := K0.c2
  obtain ⟨t0, t1⟩ := K1.c2
  obtain ⟨d0, d1⟩ := K2.c2
  have f0 := K2.free 0
  have f1 := K2.free 1
  have g0 := K1.free 0
  have g1 := K1.free 1
  have HK1 := hideB2 K1
  have HR := hideB2 hr1
  have HB := hideB2 (below_then (below_a3 w _ _ _) hb1)
  have hsz : (((w.alloc (.cells #[.slice a len cap, .int .i64 c] 24)).alloc (.cells #[.slice none 0 0, .int .i64 0] 28)).alloc (.cells #[.slice none 0 0, .int .i64 0] 28)).heap.size = w.heap.size + 1 + 1 + 1 := by simp
  rw [hsz] at HR ⊢
  clear K0 K1 K2 hr1 hb1 hsz hx
  go_wp2
  refine bodyPost_ret (results_cellS rfl _ _ _ rfl ((HK1.out.oth2 (g := w.heap.size + 1 + 1) (by omega) _ _).set2 _ _) Tryd.underlying28 Tryd.infoStore) rfl ⟨w.heap.size + 1 + 1 + 1, rfl, by omega, ?_, ?_⟩
  · exact (HR.out.oth2 (g := w.heap.size + 1 + 1) (by omega) _ _).oth2 (g := w.heap.size + 1) (by omega) _ _
  · exact below_set2 (below_set2 HB.out (by omega) _ _) (by omega) _ _
set_option maxHeartbeats 400000 in
theorem eqSeg_same (d : ByteArray) (s : Int) (w : World) :
    Calls Tryd.prog 31 #[.agg #[.string d, .int .i64 s], .agg #[.string d, .int .i64 s]] w fun e w' => e = .returned (.bool true) ∧ Below w.heap.size w w' := by
  go_enter Tryd.func31, Tryd.ntmps31
  go_wp2
  go_ret
  exact ⟨rfl, below_a2 w _ _⟩
/-- A slice of segments: nil, or a row. -/
def SlG (w : World) (v : Value) (l : List Sg) : Prop := (v = .slice none 0 0 ∧ l = []) ∨ ∃ b cap, v = .slice (some ⟨b, 0, none⟩) l.length cap ∧ RowG w b l
theorem SlG.later {w w' : World} {v : Value} {l : List Sg} (h : SlG w v l) (k : Below w.heap.size w w') : SlG w' v l := by
  rcases h with h | ⟨b, cap, e, hr⟩
  · exact .inl h
  · exact .inr ⟨b, cap, e, hr.keep k⟩
theorem RowG.sl {w : World} {b n : Nat} {l : List Sg} (h : RowG w b l) (hn : l.length = n) (cap : Nat) : SlG w (.slice (some ⟨b, 0, none⟩) n cap) l := .inr ⟨b, cap, by rw [hn], h⟩
theorem SlG.one {w : World} {v : Value} {l : List Sg} (h : SlG w v l) : v.oneCell' = true := by
  rcases h with ⟨rfl, _⟩ | ⟨b, cap, rfl, _⟩ <;> rfl
theorem SlG.form {w : World} {v : Value} {l : List Sg} (h : SlG w v l) : ∃ a c, v = .slice a l.length c := by
  rcases h with ⟨rfl, rfl⟩ | ⟨b, cap, rfl, _⟩
  · exact ⟨none, 0, rfl⟩
  · exact ⟨_, _, rfl⟩
theorem SlG.row {w : World} {a : Option Addr} {n c : Nat} {l : List Sg} (h : SlG w (.slice a n c) l) (hl : 0 < l.length) : ∃ b, a = some ⟨b, 0, none⟩ ∧ RowG w b l := by
  rcases h with ⟨_, rfl⟩ | ⟨b, cap, e, hr⟩
  · simp at hl
  · injection e with e1; exact ⟨b, e1, hr⟩
set_option maxHeartbeats 1000000 in
theorem eqSegS_same (va vb : Value) (l : List Sg) (w : World) (ha : SlG w va l) (hb : SlG w vb l) (hm : l.length ≤ 1048576) :
    Calls Tryd.prog 20 #[va, vb] w fun e w' => e = .returned (.bool true) ∧ Below w.heap.size w w' := by
  obtain ⟨a1, c1, rfl⟩ := ha.form
  obtain ⟨a2, c2, rfl⟩ := hb.form
  have HA := hideB2 ha
  have HB := hideB2 hb
  clear ha hb
  generalize hn : l.length = n at *
  have HN := hideB2 hn
  clear hn
  go_enter Tryd.func20, Tryd.ntmps20
  go_wp2
  go_loopw [5] (fun i wr => ∃ k : Nat, k ≤ n ∧ i = .int .i64 k ∧ Below w.heap.size w wr) (fun i _ => n - (intOf i).toNat)
  case atStart => exact ⟨0, Nat.zero_le _, rfl, Below.refl _ _⟩
  case round =>
    obtain ⟨k, hk, rfl, hb⟩ := hrel
    by_cases hlt : k < n
    · obtain ⟨b1, rfl, hr1⟩ := HA.out.row (by rw [HN.out]; omega)
      obtain ⟨b2, rfl, hr2⟩ := HB.out.row (by rw [HN.out]; omega)
      have p0 := (hr1.keep hb).dat k (by rw [HN.out]; exact hlt)
      have p1 := (hr1.keep hb).saf k (by rw [HN.out]; exact hlt)
      have q0 := (hr2.keep hb).dat k (by rw [HN.out]; exact hlt)
      have q1 := (hr2.keep hb).saf k (by rw [HN.out]; exact hlt)
      clear hr1 hr2
      generalize sgAt l k = x at *
      obtain ⟨d, s⟩ := x
      simp only at p0 p1 q0 q1
      have HBW := hideB2 hb
      clear hb
      go_wp2
      go_region_with (go_at_call 31; refine (eqSeg_same _ _ _).mono ?_; rintro e w2 ⟨rfl, hb2⟩)
      all_goals
        have HB3 := hideB2 (HBW.out.drew.trans (hb2.mono HBW.out.drew.size))
        clear hb2
        go_wp2
        exact ⟨⟨k + 1, by omega, by go_num, HB3.out⟩, by simp [intOf]; omega⟩
    · go_wp2
      go_ret
      exact ⟨rfl, hb⟩
set_option maxHeartbeats 1000000 in
theorem eqStore_same (va vb : Value) (l : List Sg) (c : Int) (w : World) (ha : SlG w va l) (hb : SlG w vb l) (hm : l.length ≤ 1048576) :
    Calls Tryd.prog 9 #[.agg #[va, .int .i64 c], .agg #[vb, .int .i64 c]] w fun e w' => e = .returned (.bool true) ∧ Below w.heap.size w w' := by
  have o1 := ha.one
  have o2 := hb.one
  have HAL := hideB2 (ha.later (below_a2 w (.cells #[va, .int .i64 c] 28) (.cells #[vb, .int .i64 c] 28)))
  have HBL := hideB2 (hb.later (below_a2 w (.cells #[va, .int .i64 c] 28) (.cells #[vb, .int .i64 c] 28)))
  have A1 := ((Blk.new w #[va, .int .i64 c] 28).alloc (.cells #[vb, .int .i64 c] 28))
  have A2 := Blk.new (w.alloc (.cells #[va, .int .i64 c] 28)) #[vb, .int .i64 c] 28
  have hsz : (w.alloc (.cells #[va, .int .i64 c] 28)).heap.size = w.heap.size + 1 := by simp
  rw [hsz] at A2
  have HB := hideB2 (below_a2 w (.cells #[va, .int .i64 c] 28) (.cells #[vb, .int .i64 c] 28))
  have H1 := hideB2 A1
  have H2 := hideB2 A2
  clear ha hb A1 A2 hsz
  go_enter Tryd.func9, Tryd.ntmps9
  go_wp2_with fail
  refine (eqSegS_same va vb l _ HAL.out HBL.out hm).mono ?_
  rintro e w1 ⟨rfl, hb1⟩
  obtain ⟨p0, p1⟩ := (H1.out.later hb1).c2
  obtain ⟨q0, q1⟩ := (H2.out.later hb1).c2
  have HB3 := hideB2 (below_then HB.out hb1)
  clear hb1 H1 H2
  go_wp2
  go_ret
  exact ⟨rfl, HB3.out⟩
end Go.Proofs.YtknpolmenfdheacDoor
