/-
  Chapter 5: fields as pairs of texts, and rows of fields in memory.
-/
import Derived.Test.YtaelopjalfapgacBK2
namespace Go.Proofs.Ytaelopjalfapgac
set_option linter.unusedVariables false
set_option linter.unusedSimpArgs false
open Go.RowKit
/-- A field: its name and its value. -/
abbrev Fd := ByteArray × ByteArray
def fd0 : Fd := (⟨#[]⟩, ⟨#[]⟩)
/-- Number j, or the empty one. -/
def fdAt (l : List Fd) (j : Nat) : Fd := l.getD j fd0
theorem fdAt_get {l : List Fd} {j : Nat} (h : j < l.length) : fdAt l j = l[j] := by
  unfold fdAt; rw [List.getD, List.getElem?_eq_getElem h]; rfl
/-- All bytes together. -/
def szF (x : Fd) : Nat := x.1.size + x.2.size
def totF (l : List Fd) : Nat := (l.map szF).sum
theorem totF_nil : totF [] = 0 := rfl
theorem totF_app (a b : List Fd) : totF (a ++ b) = totF a + totF b := by simp [totF]
theorem totF_one (s : Fd) : totF [s] = szF s := by simp [totF]
theorem takeF_next (l : List Fd) (k : Nat) (h : k < l.length) : l.take (k + 1) = l.take k ++ [fdAt l k] := by
  rw [List.take_succ_eq_append_getElem h, fdAt_get h]
theorem totF_next (l : List Fd) (k : Nat) (h : k < l.length) : totF (l.take (k + 1)) = totF (l.take k) + szF (fdAt l k) := by
  rw [takeF_next l k h, totF_app, totF_one]
theorem totF_take (l : List Fd) (k : Nat) : totF (l.take k) ≤ totF l := by
  conv => rhs; rw [← List.take_append_drop k l]
  rw [totF_app]; omega
theorem totF_at (l : List Fd) (k : Nat) (h : k < l.length) : totF (l.take k) + szF (fdAt l k) ≤ totF l := by
  rw [← totF_next l k h]; exact totF_take l _
/-- A row of fields in memory: block b, two cells each. -/
structure RowF (w : World) (b : Nat) (l : List Fd) : Prop where
  dat : ∀ j, j < l.length → w.cell? ⟨b, j * 2, none⟩ = some (.string (fdAt l j).1)
  saf : ∀ j, j < l.length → w.cell? ⟨b, j * 2 + 1, none⟩ = some (.string (fdAt l j).2)
  free : ∀ j, w.frozen? ⟨b, j, none⟩ = false
  lt : b < w.heap.size
theorem RowF.later {w w' : World} {b B : Nat} {l : List Fd} (h : RowF w b l) (k : Below B w w') (hb : b < B) : RowF w' b l :=
  ⟨fun j hj => by rw [k.cell (p := ⟨b, j * 2, none⟩) hb]; exact h.dat j hj, fun j hj => by rw [k.cell (p := ⟨b, j * 2 + 1, none⟩) hb]; exact h.saf j hj, fun j => by rw [k.frozen (p := ⟨b, j, none⟩) hb]; exact h.free j, Nat.lt_of_lt_of_le h.lt k.size⟩
theorem RowF.keep {w w' : World} {b : Nat} {l : List Fd} (h : RowF w b l) (k : Below w.heap.size w w') : RowF w' b l := h.later k h.lt
theorem RowF.other {w : World} {b b' : Nat} {l : List Fd} (h : RowF w b l) (hne : b' ≠ b) (k : Nat) (v : Value) : RowF (w.setCell ⟨b', k, none⟩ v) b l :=
  ⟨fun j hj => by rw [World.cell?_setCell_other _ _ _ _ (by intro hh; injection hh with h1 _; exact hne h1)]; exact h.dat j hj,
   fun j hj => by rw [World.cell?_setCell_other _ _ _ _ (by intro hh; injection hh with h1 _; exact hne h1)]; exact h.saf j hj,
   fun j => by rw [World.frozen?_setCell]; exact h.free j, by simpa [World.setCell] using h.lt⟩
theorem RowF.oth2 {w : World} {b g : Nat} {l : List Fd} (h : RowF w b l) (hne : g ≠ b) (x y : Value) : RowF ((w.setCell ⟨g, 0, none⟩ x).setCell ⟨g, 1, none⟩ y) b l := (h.other hne 0 x).other hne 1 y
theorem RowF.drewN {w : World} {b : Nat} {l : List Fd} (h : RowF w b l) (n : Nat) : RowF (w.drewN n) b l := h.keep (below_drewN' w n)
/-- Number k gets new bytes and a new mark, cell by cell. -/
theorem RowF.set {w : World} {b : Nat} {l : List Fd} (h : RowF w b l) (k : Nat) (d s : ByteArray) (hk : k < l.length) :
    RowF ((w.setCell ⟨b, k * 2, none⟩ (.string d)).setCell ⟨b, k * 2 + 1, none⟩ (.string s)) b (l.set k (d, s)) := by
  have hat : ∀ j, j < l.length → fdAt (l.set k (d, s)) j = if j = k then (d, s) else fdAt l j := by
    intro j hj
    rw [fdAt_get (by rw [List.length_set]; exact hj), List.getElem_set]
    by_cases e : j = k
    · subst e; simp
    · rw [if_neg (Ne.symm e), if_neg e, fdAt_get hj]
  refine ⟨fun j hj => ?_, fun j hj => ?_, fun j => ?_, by simpa [World.setCell] using h.lt⟩
  · rw [List.length_set] at hj
    rw [World.cell?_setCell_other _ _ _ _ (by intro hh; injection hh with _ h2; omega), hat j hj]
    by_cases e : j = k
    · subst e
      rw [World.cell?_setCell_same _ _ _ (h.dat j hj)]
      simp
    · rw [World.cell?_setCell_other _ _ _ _ (by intro hh; injection hh with _ h2; omega), h.dat j hj, if_neg e]
  · rw [List.length_set] at hj
    rw [hat j hj]
    by_cases e : j = k
    · subst e
      rw [World.cell?_setCell_same (u := .string (fdAt l j).2) _ _ _ (by rw [World.cell?_setCell_other _ _ _ _ (by intro hh; injection hh with _ h2; omega)]; exact h.saf j hj)]
      simp
    · rw [World.cell?_setCell_other _ _ _ _ (by intro hh; injection hh with _ h2; omega), World.cell?_setCell_other _ _ _ _ (by intro hh; injection hh with _ h2; omega), h.saf j hj, if_neg e]
  · rw [World.frozen?_setCell, World.frozen?_setCell]
    exact h.free j
theorem Try.infoF : (Try.prog.info? 51).map (fun i => (i.zero, i.size, i.bytes)) = some (some (.agg #[.string ⟨#[]⟩, .string ⟨#[]⟩]), 2, 32) := by kernel_rfl
theorem rowF_made {w w' : World} {n : Nat} (h : w'.ownsRow w.heap.size 51 2 (.slice (some ⟨w.heap.size, 0, none⟩) n n) n (madeCells (Value.agg #[.string ⟨#[]⟩, .string ⟨#[]⟩]).cells (n * 2)).toList) : RowF w' w.heap.size (List.replicate n fd0) := by
  have hat : ∀ j, j < n → fdAt (List.replicate n fd0) j = fd0 := fun j hj => by rw [fdAt_get (by simpa using hj)]; simp
  refine ⟨fun j hj => ?_, fun j hj => ?_, fun j => h.frozenAt j, (h.lt w.heap.size rfl).2⟩
  · rw [List.length_replicate] at hj
    rw [h.cellAt (j * 2) (by omega), hat j hj]
    exact (made2 _ _ n j hj).1
  · rw [List.length_replicate] at hj
    rw [h.cellAt (j * 2 + 1) (by omega), hat j hj]
    exact (made2 _ _ n j hj).2
theorem wp_mkF {ops : Array Oper} {rest : List Oper} {o : Oper} {a : Act} {Q : Exit → Act → World → Prop} {w : World} (hg : o.guard = none) (l c : Operand) (hop : o.op = Op.makeSlice 27 l c)
    (n : Nat) (L C : Int) (hl : a.eval l = .int .i64 L) (hc : a.eval c = .int .i64 C) (hL : L = (n : Int)) (hC : C = (n : Int)) (hn : n ≤ 1048576)
    (hK : ∀ w', RowF w' w.heap.size (List.replicate n fd0) → Below w.heap.size w w' → wpList Try.prog ops Q rest (a.put o.dst (.slice (some ⟨w.heap.size, 0, none⟩) n n)) w') :
    wpList Try.prog ops Q (o :: rest) a w := by
  obtain ⟨i0, hi, hz0, hz1, hz2⟩ := info_parts Try.infoF
  refine wpList_make_full w hg l c 27 hop w.heap.size 51 i0 _ 2 Try.underlying27 hi hz0 hz1 .i64 .i64 L C n hl hc hL hC (by rw [hz2]; omega) (by unfold maxLen; omega) (Nat.le_refl _) ?_
  intro w' hown hgr
  exact hK w' (rowF_made hown) ⟨hgr.os, hgr.tape, hgr.output, hgr.size, fun k hk => hgr.block k hk (by simp)⟩
/-- A slice of fields that came in. -/
def ArgF (w : World) (a : Option Addr) (len : Nat) (l : List Fd) : Prop :=
  l.length = len ∧ (len = 0 ∨ ∃ b off, a = some ⟨b, off, none⟩ ∧ b < w.heap.size ∧ ∀ i, i < len → w.cell? ⟨b, off + i * 2, none⟩ = some (.string (fdAt l i).1) ∧ w.cell? ⟨b, off + i * 2 + 1, none⟩ = some (.string (fdAt l i).2))
theorem ArgF.later {w w' : World} {a : Option Addr} {len : Nat} {l : List Fd} (h : ArgF w a len l) (k : Below w.heap.size w w') : ArgF w' a len l := by
  obtain ⟨h1, h2⟩ := h
  refine ⟨h1, ?_⟩
  rcases h2 with h2 | ⟨b, off, e, hb, hc⟩
  · exact .inl h2
  · exact .inr ⟨b, off, e, Nat.lt_of_lt_of_le hb k.size, fun i hi => ⟨by rw [k.cell (p := ⟨b, off + i * 2, none⟩) hb]; exact (hc i hi).1, by rw [k.cell (p := ⟨b, off + i * 2 + 1, none⟩) hb]; exact (hc i hi).2⟩⟩
set_option maxHeartbeats 400000 in
theorem eqField_same (d s : ByteArray) (w : World) :
    Calls Try.prog 40 #[.agg #[.string d, .string s], .agg #[.string d, .string s]] w fun e w' => e = .returned (.bool true) ∧ Below w.heap.size w w' := by
  go_enter Try.func40, Try.ntmps40
  go_wp2
  go_ret
  exact ⟨rfl, below_a2 w _ _⟩
/-- A slice of fields: nil, or a row. -/
def SlF (w : World) (v : Value) (l : List Fd) : Prop := (v = .slice none 0 0 ∧ l = []) ∨ ∃ b cap, v = .slice (some ⟨b, 0, none⟩) l.length cap ∧ RowF w b l
theorem SlF.later {w w' : World} {v : Value} {l : List Fd} (h : SlF w v l) (k : Below w.heap.size w w') : SlF w' v l := by
  rcases h with h | ⟨b, cap, e, hr⟩
  · exact .inl h
  · exact .inr ⟨b, cap, e, hr.keep k⟩
theorem RowF.sl {w : World} {b n : Nat} {l : List Fd} (h : RowF w b l) (hn : l.length = n) (cap : Nat) : SlF w (.slice (some ⟨b, 0, none⟩) n cap) l := .inr ⟨b, cap, by rw [hn], h⟩
theorem SlF.one {w : World} {v : Value} {l : List Fd} (h : SlF w v l) : v.oneCell' = true := by
  rcases h with ⟨rfl, _⟩ | ⟨b, cap, rfl, _⟩ <;> rfl
theorem SlF.form {w : World} {v : Value} {l : List Fd} (h : SlF w v l) : ∃ a c, v = .slice a l.length c := by
  rcases h with ⟨rfl, rfl⟩ | ⟨b, cap, rfl, _⟩
  · exact ⟨none, 0, rfl⟩
  · exact ⟨_, _, rfl⟩
theorem SlF.row {w : World} {a : Option Addr} {n c : Nat} {l : List Fd} (h : SlF w (.slice a n c) l) (hl : 0 < l.length) : ∃ b, a = some ⟨b, 0, none⟩ ∧ RowF w b l := by
  rcases h with ⟨_, rfl⟩ | ⟨b, cap, e, hr⟩
  · simp at hl
  · injection e with e1; exact ⟨b, e1, hr⟩
set_option maxHeartbeats 1000000 in
theorem eqFieldS_same (va vb : Value) (l : List Fd) (w : World) (ha : SlF w va l) (hb : SlF w vb l) (hm : l.length ≤ 1048576) :
    Calls Try.prog 26 #[va, vb] w fun e w' => e = .returned (.bool true) ∧ Below w.heap.size w w' := by
  obtain ⟨a1, c1, rfl⟩ := ha.form
  obtain ⟨a2, c2, rfl⟩ := hb.form
  have HA := hideB2 ha
  have HB := hideB2 hb
  clear ha hb
  generalize hn : l.length = n at *
  have HN := hideB2 hn
  clear hn
  go_enter Try.func26, Try.ntmps26
  go_wp2
  go_loopw [5] (fun i wr => ∃ k : Nat, k ≤ n ∧ i = .int .i64 k ∧ Below w.heap.size w wr) (fun i _ => n - (intOf i).toNat)
  case atStart => exact ⟨0, Nat.zero_le _, rfl, Below.refl _ _⟩
  case round =>
    obtain ⟨k, hk, rfl, hb⟩ := hrel
    by_cases hlt : k < n
    · obtain ⟨b1, rfl, hr1⟩ := HA.out.row (by rw [HN.out]; omega)
      obtain ⟨b2, rfl, hr2⟩ := HB.out.row (by rw [HN.out]; omega)
      have p0 := (hr1.keep hb).dat k (by rw [HN.out]; exact hlt)
      have p1 := (hr1.keep hb).saf k (by rw [HN.out]; exact hlt)
      have q0 := (hr2.keep hb).dat k (by rw [HN.out]; exact hlt)
      have q1 := (hr2.keep hb).saf k (by rw [HN.out]; exact hlt)
      clear hr1 hr2
      generalize fdAt l k = x at *
      obtain ⟨d, s⟩ := x
      simp only at p0 p1 q0 q1
      have HBW := hideB2 hb
      clear hb
      go_wp2
      go_region_with (go_at_call 40; refine (eqField_same _ _ _).mono ?_; rintro e w2 ⟨rfl, hb2⟩)
      all_goals
        have HB3 := hideB2 (HBW.out.drew.trans (hb2.mono HBW.out.drew.size))
        clear hb2
        go_wp2
        exact ⟨⟨k + 1, by omega, by go_num, HB3.out⟩, by simp [intOf]; omega⟩
    · go_wp2
      go_ret
      exact ⟨rfl, hb⟩
end Go.Proofs.Ytaelopjalfapgac
