/-
  Chapter 4: rows of segments of the call's own: cloned, written, put behind.
-/
import Derived.Test.YtknpolmenfdheaaDoorG4
import Derived.Lib.SliceRun
namespace Go.Proofs.YtknpolmenfdheaaDoor
set_option linter.unusedVariables false
set_option linter.unusedSimpArgs false
open Go.RowKit
/-- The cells of a row of segments. -/
def cellsG (l : List Sg) : List Value := l.flatMap fun s => [.string s.1, .int .i64 s.2]
theorem cellsG_app (a b : List Sg) : cellsG (a ++ b) = cellsG a ++ cellsG b := by simp [cellsG]
theorem cellsG_cons (s : Sg) (l : List Sg) : cellsG (s :: l) = .string s.1 :: .int .i64 s.2 :: cellsG l := rfl
theorem cellsG_len (l : List Sg) : (cellsG l).length = l.length * 2 := by
  induction l with
  | nil => rfl
  | cons s l ih => rw [cellsG_cons, List.length_cons, List.length_cons, ih, List.length_cons]; omega
theorem sgAt_zero (s : Sg) (l : List Sg) : sgAt (s :: l) 0 = s := rfl
theorem sgAt_succ (s : Sg) (l : List Sg) (j : Nat) : sgAt (s :: l) (j + 1) = sgAt l j := rfl
theorem cellsG_at (l : List Sg) : ∀ j, j < l.length → (cellsG l)[j * 2]? = some (.string (sgAt l j).1) ∧ (cellsG l)[j * 2 + 1]? = some (.int .i64 (sgAt l j).2) := by
  induction l with
  | nil => intro j h; simp at h
  | cons s l ih =>
    intro j h
    cases j with
    | zero => rw [cellsG_cons]; exact ⟨rfl, rfl⟩
    | succ j =>
      rw [cellsG_cons, sgAt_succ, show (j + 1) * 2 = j * 2 + 1 + 1 by omega]
      exact ih j (by simpa using h)
theorem cellsG_set (l : List Sg) (d : ByteArray) (s : Int) : ∀ k, ((cellsG l).set (k * 2) (.string d)).set (k * 2 + 1) (.int .i64 s) = cellsG (l.set k (d, s)) := by
  induction l with
  | nil => intro k; rfl
  | cons x l ih =>
    intro k
    cases k with
    | zero => rfl
    | succ k =>
      rw [cellsG_cons, List.set_cons_succ, cellsG_cons, show (k + 1) * 2 = k * 2 + 1 + 1 by omega, List.set_cons_succ, List.set_cons_succ, List.set_cons_succ, List.set_cons_succ, ih k]
theorem cellsG_one (l : List Sg) : ∀ u ∈ cellsG l, u.oneCell' = true := by
  intro u hu
  simp only [cellsG, List.mem_flatMap] at hu
  obtain ⟨s, _, hs⟩ := hu
  simp at hs
  rcases hs with rfl | rfl <;> rfl
theorem cellsG_take (l : List Sg) (m : Nat) : (cellsG l).take (m * 2) = cellsG (l.take m) := by
  induction l generalizing m with
  | nil => simp [cellsG]
  | cons x l ih =>
    cases m with
    | zero => rfl
    | succ m => rw [cellsG_cons, List.take_succ_cons, show (m + 1) * 2 = m * 2 + 1 + 1 by omega, List.take_succ_cons, List.take_succ_cons, ih m, cellsG_cons]
theorem sgAt_lt_eq {l l' : List Sg} (h : l.length = l'.length) (hh : ∀ j, j < l.length → sgAt l j = sgAt l' j) : l = l' := by
  refine List.ext_getElem h fun j h1 h2 => ?_
  have := hh j h1
  rwa [sgAt_get h1, sgAt_get h2] at this
/-- A row of the call's own: block g, room for cap segments, l stands in it. -/
def GB (w : World) (g cap : Nat) (l : List Sg) : Prop := ∃ cur, w.heap[g]? = some (.cells cur 34 (0, 0)) ∧ l.length ≤ cap ∧ cap ≤ maxLen ∧ cur.size = cap * 2 ∧ cur.toList.take (l.length * 2) = cellsG l
theorem GB.lt {w : World} {g cap : Nat} {l : List Sg} (h : GB w g cap l) : g < w.heap.size := by
  obtain ⟨cur, hg, _⟩ := h
  exact (Array.getElem?_eq_some_iff.1 hg).1
theorem GB.own {w : World} {g cap : Nat} {l : List Sg} (h : GB w g cap l) {base : Nat} (hb : base ≤ g) : w.ownsRow base 34 2 (.slice (some ⟨g, 0, none⟩) l.length cap) l.length (cellsG l) := by
  obtain ⟨cur, hg, h1, h2, h3, h4⟩ := h
  exact ⟨cellsG_len l, .inr ⟨g, cap, cur, rfl, hb, hg, h1, h2, h3, h4⟩⟩
theorem GB.of {w : World} {base g cap n : Nat} {l : List Sg} (h : w.ownsRow base 34 2 (.slice (some ⟨g, 0, none⟩) n cap) n (cellsG l)) (hn : l.length = n) : base ≤ g ∧ GB w g cap l := by
  rcases h.2 with ⟨h', _⟩ | ⟨g', cap', cur, h', hb, hg, hnc, hcm, hcs, htake⟩
  · simp at h'
  · simp only [Value.slice.injEq, Option.some.injEq, Addr.mk.injEq, and_true, true_and] at h'
    obtain ⟨rfl, rfl⟩ := h'
    exact ⟨hb, cur, hg, by omega, hcm, hcs, by rw [hn]; exact htake⟩
theorem GB.row {w : World} {g cap : Nat} {l : List Sg} (h : GB w g cap l) : RowG w g l := by
  have ho := h.own (Nat.le_refl g)
  refine ⟨fun j hj => ?_, fun j hj => ?_, fun j => ho.frozenAt j, h.lt⟩
  · rw [ho.cellAt (j * 2) (by omega)]; exact (cellsG_at l j hj).1
  · rw [ho.cellAt (j * 2 + 1) (by omega)]; exact (cellsG_at l j hj).2
theorem GB.kept {w w' : World} {g cap B : Nat} {l : List Sg} (h : GB w g cap l) (k : Below B w w') (hb : g < B) : GB w' g cap l := by
  obtain ⟨cur, hg, r⟩ := h
  exact ⟨cur, by rw [k.block g hb]; exact hg, r⟩
theorem GB.later {w w' : World} {g cap : Nat} {l : List Sg} (h : GB w g cap l) (k : Below w.heap.size w w') : GB w' g cap l := h.kept k h.lt
theorem GB.other {w : World} {g b' cap : Nat} {l : List Sg} (h : GB w g cap l) (hne : b' ≠ g) (j : Nat) (v : Value) : GB (w.setCell ⟨b', j, none⟩ v) g cap l := by
  obtain ⟨cur, hg, r⟩ := h
  exact ⟨cur, by simp [World.setCell, Array.getElem?_modify, hne, hg], r⟩
theorem GB.oth2 {w : World} {g b' cap : Nat} {l : List Sg} (h : GB w g cap l) (hne : b' ≠ g) (x y : Value) : GB ((w.setCell ⟨b', 0, none⟩ x).setCell ⟨b', 1, none⟩ y) g cap l := (h.other hne 0 x).other hne 1 y
theorem GB.drewN {w : World} {g cap : Nat} {l : List Sg} (h : GB w g cap l) (n : Nat) : GB (w.drewN n) g cap l := h
/-- Number k gets new bytes and a new mark. -/
theorem GB.set {w : World} {g cap : Nat} {l : List Sg} (h : GB w g cap l) (k : Nat) (d : ByteArray) (s : Int) : GB ((w.setCell ⟨g, k * 2, none⟩ (.string d)).setCell ⟨g, k * 2 + 1, none⟩ (.int .i64 s)) g cap (l.set k (d, s)) := by
  have h1 := (((h.own (Nat.le_refl g)).stored (k * 2) (.string d)).1.stored (k * 2 + 1) (.int .i64 s)).1
  rw [cellsG_set] at h1
  exact (GB.of h1 (by simp)).2
theorem set_same {l : List Sg} {k : Nat} {d : ByteArray} {s : Int} (h : sgAt l k = (d, s)) (hk : k < l.length) : l.set k (d, s) = l := by
  rw [sgAt_get hk] at h; rw [← h]; simp
/-- Number k gets new bytes. -/
theorem GB.setD {w : World} {g cap : Nat} {l : List Sg} (h : GB w g cap l) (k : Nat) (d : ByteArray) (hk : k < l.length) : GB (w.setCell ⟨g, k * 2, none⟩ (.string d)) g cap (l.set k (d, (sgAt l k).2)) := by
  have h1 := ((h.own (Nat.le_refl g)).stored (k * 2) (.string d)).1
  have h2 : (cellsG l).set (k * 2) (.string d) = cellsG (l.set k (d, (sgAt l k).2)) := by
    rw [← cellsG_set]
    symm
    have hlt : k * 2 + 1 < (cellsG l).length := by rw [cellsG_len]; omega
    have e := (cellsG_at l k hk).2
    rw [List.getElem?_eq_getElem hlt] at e
    injection e with e
    refine List.ext_getElem (by simp) fun j j1 j2 => ?_
    rw [List.getElem_set]
    by_cases ej : k * 2 + 1 = j
    · subst ej
      rw [if_pos rfl, List.getElem_set_ne (by omega)]
      exact e.symm
    · rw [if_neg ej]
  rw [h2] at h1
  exact (GB.of h1 (by simp)).2
/-- Number k gets a new mark. -/
theorem GB.setS {w : World} {g cap : Nat} {l : List Sg} (h : GB w g cap l) (k : Nat) (s : Int) (hk : k < l.length) : GB (w.setCell ⟨g, k * 2 + 1, none⟩ (.int .i64 s)) g cap (l.set k ((sgAt l k).1, s)) := by
  have h1 := ((h.own (Nat.le_refl g)).stored (k * 2 + 1) (.int .i64 s)).1
  have h2 : (cellsG l).set (k * 2 + 1) (.int .i64 s) = cellsG (l.set k ((sgAt l k).1, s)) := by
    rw [← cellsG_set]
    have hlt : k * 2 < (cellsG l).length := by rw [cellsG_len]; omega
    have e := (cellsG_at l k hk).1
    rw [List.getElem?_eq_getElem hlt] at e
    injection e with e
    congr 1
    refine List.ext_getElem (by simp) fun j j1 j2 => ?_
    rw [List.getElem_set]
    by_cases ej : k * 2 = j
    · subst ej
      rw [if_pos rfl]
      exact e
    · rw [if_neg ej]
  rw [h2] at h1
  exact (GB.of h1 (by simp)).2
/-- The first m of them. -/
theorem GB.cut {w : World} {g cap : Nat} {l : List Sg} (h : GB w g cap l) (m : Nat) (hm : m ≤ l.length) : GB w g cap (l.take m) := by
  obtain ⟨cur, hg, h1, h2, h3, h4⟩ := h
  have hl : (l.take m).length = m := by rw [List.length_take]; omega
  refine ⟨cur, hg, by omega, h2, h3, ?_⟩
  rw [hl, ← cellsG_take, ← h4, List.take_take, show min (m * 2) (l.length * 2) = m * 2 by omega]
theorem GB.sl {w : World} {g cap n : Nat} {l : List Sg} (h : GB w g cap l) (hn : l.length = n) : SlG w (.slice (some ⟨g, 0, none⟩) n cap) l := h.row.sl hn cap
theorem none_ownG (w : World) : (w.alloc (.cells #[] 34)).ownsRow w.heap.size 34 2 (.slice (some ⟨w.heap.size, 0, none⟩) 0 0) 0 [] :=
  ⟨by simp, .inr ⟨w.heap.size, 0, #[], rfl, Nat.le_refl _, heap_alloc_new w _, Nat.le_refl _, by decide, by simp, by simp⟩⟩
/-- append([]Seg{}, l...). -/
theorem wp_appG {ops : Array Oper} {rest : List Oper} {o : Oper} {a : Act} {Q : Exit → Act → World → Prop} {W : World} (hgd : o.guard = none) (s x : Operand)
    (ho : o.op = .call { callee := .builtin .append, args := #[s, x], argTypes := #[23, 23] }) (c cap n : Nat) (l : List Sg) (hn : l.length = n) (h1 : 0 < n) (h2 : n ≤ 1048576)
    (hs : a.eval s = .slice (some ⟨W.heap.size, 0, none⟩) 0 0) (hx : a.eval x = .slice (some ⟨c, 0, none⟩) n cap) (hr : RowG W c l)
    (k : ∀ w' g cap', W.heap.size ≤ g → GB w' g cap' l → Below W.heap.size W w' → wpList Tryd.prog ops Q rest (a.put o.dst (.slice (some ⟨g, 0, none⟩) n cap')) w') :
    wpList Tryd.prog ops Q (o :: rest) a (W.alloc (.cells #[] 34)) := by
  obtain ⟨i0, hi, hz0, hz1, hz2⟩ := info_parts Tryd.infoG
  refine wpList_append_own _ hgd s x 23 ho W.heap.size 34 i0 _ 2 24 Tryd.underlying23 hi hz0 hz1 hz2 rfl (by decide) _ 0 [] hs (none_ownG W) ⟨c, 0, none⟩ n cap (cellsG l) hx (by rw [cellsG_len, hn]) ?_ (cellsG_one l) (by unfold maxLen; omega) (by omega) (by simp) ?_
  · intro j v hv
    have hj : j < l.length * 2 := by have := (List.getElem?_eq_some_iff.1 hv).1; rwa [cellsG_len] at this
    rw [Addr.add_lit, Nat.zero_add, (below_a1 W _).cell (p := ⟨c, j, none⟩) hr.lt, ← hv]
    rcases Nat.mod_two_eq_zero_or_one j with e | e
    · obtain ⟨q, rfl⟩ : ∃ q, j = q * 2 := ⟨j / 2, by omega⟩
      rw [hr.dat q (by omega), (cellsG_at l q (by omega)).1]
    · obtain ⟨q, rfl⟩ : ∃ q, j = q * 2 + 1 := ⟨j / 2, by omega⟩
      rw [hr.saf q (by omega), (cellsG_at l q (by omega)).2]
  intro v' w' hown hgrow _
  have hbel : Below W.heap.size W w' := (below_a1 W _).grown hgrow (by simp) (fun k hk => by
    have e : (Value.slice (some ⟨W.heap.size, 0, none⟩) 0 0).ownBlock = some W.heap.size := rfl
    rw [e] at hk
    cases hk
    exact Nat.le_refl _)
  rw [Nat.zero_add, List.nil_append] at hown
  rcases hown.2 with ⟨_, h2⟩ | ⟨g, cap', cur, e1, _⟩
  · omega
  · subst e1
    obtain ⟨hb, hgb⟩ := GB.of hown hn
    exact k w' g cap' hb hgb hbel
/-- append(l, Seg{}), l a row of the call's own. -/
theorem wp_appG1 {ops : Array Oper} {rest : List Oper} {o : Oper} {a : Act} {Q : Exit → Act → World → Prop} {W : World} (hgd : o.guard = none) (s x : Operand)
    (ho : o.op = .call { callee := .builtin .append, args := #[s, x], argTypes := #[23, 23] }) (g cap n B : Nat) (l : List Sg) (hn : l.length = n) (h2 : n ≤ 1048576) (hB : B ≤ g)
    (hs : a.eval s = .slice (some ⟨g, 0, none⟩) n cap) (hx : a.eval x = .slice (some ⟨W.heap.size, 0, none⟩) 1 1) (hr : GB W g cap l)
    (k : ∀ w' g' cap', B ≤ g' → GB w' g' cap' (l ++ [sg0]) → Below B W w' → (∀ b, b < W.heap.size → b ≠ g → w'.heap[b]? = W.heap[b]?) → wpList Tryd.prog ops Q rest (a.put o.dst (.slice (some ⟨g', 0, none⟩) (n + 1) cap')) w') :
    wpList Tryd.prog ops Q (o :: rest) a (W.alloc (.cells #[.string ⟨#[]⟩, .int .i64 0] 34)) := by
  obtain ⟨i0, hi, hz0, hz1, hz2⟩ := info_parts Tryd.infoG
  have hra := (hr.later (below_a1 W (.cells #[.string ⟨#[]⟩, .int .i64 0] 34))).own hB
  rw [hn] at hra
  refine wpList_append_own _ hgd s x 23 ho B 34 i0 _ 2 24 Tryd.underlying23 hi hz0 hz1 hz2 rfl (by decide) _ n (cellsG l) hs hra ⟨W.heap.size, 0, none⟩ 1 1 (cellsG [sg0]) hx (by rw [cellsG_len]; rfl) ?_ (cellsG_one _) (by unfold maxLen; omega) (by omega) (by have := hr.lt; simp; omega) ?_
  · intro j v hv
    have hj : j < 2 := by have := (List.getElem?_eq_some_iff.1 hv).1; rwa [cellsG_len] at this
    rw [Addr.add_lit, Nat.zero_add, (Blk.new W _ _).cell j, ← hv]
    rcases j with _ | _ | j
    · rfl
    · rfl
    · omega
  intro v' w' hown hgrow _
  rw [← cellsG_app] at hown
  have hbel : Below B W w' := by
    refine ⟨hgrow.os, hgrow.tape, hgrow.output, by have := hgrow.size; simp at this; omega, fun b hb => ?_⟩
    have hlt := hr.lt
    rw [hgrow.block b (by simp; omega) (by intro e; simp [Value.ownBlock] at e; omega)]
    exact heap_alloc_old W _ (by omega)
  rcases hown.2 with ⟨_, h2⟩ | ⟨g', cap', cur, e1, _⟩
  · omega
  · subst e1
    obtain ⟨hb, hgb⟩ := GB.of hown (by simp [hn])
    refine k w' g' cap' hb hgb hbel (fun b hb1 hb2 => ?_)
    rw [hgrow.block b (by simp; omega) (by intro e; simp [Value.ownBlock] at e; exact hb2 e)]
    exact heap_alloc_old W _ hb1
theorem GB.ne {w : World} {g cap b : Nat} {l : List Sg} {c : Array Value} {t : TypeId} (h : GB w g cap l) (hb : Blk w b c t) (ht : t ≠ 34) : b ≠ g := by
  rintro rfl
  obtain ⟨cur, hg, _⟩ := h
  unfold Blk at hb
  rw [hb] at hg
  injection hg with hg
  injection hg with _ h2
  exact ht h2
/-- A result that lies in a cell, and its second one. -/
theorem Blk.of_heap {w w' : World} {b : Nat} {c : Array Value} {t : TypeId} (h : Blk w b c t) (e : w'.heap[b]? = w.heap[b]?) : Blk w' b c t := by
  unfold Blk at *; rw [e]; exact h
set_option maxHeartbeats 1000000 in
theorem Clone_any (c cap n : Nat) (l : List Sg) (w : World) (hr : RowG w c l) (hn : l.length = n) (h1 : 0 < n) (h2 : n ≤ 1048576) :
    Calls Tryd.prog 56 #[.slice (some ⟨c, 0, none⟩) n cap] w fun e w' => ∃ g cap', e = .returned (.slice (some ⟨g, 0, none⟩) n cap') ∧ w.heap.size ≤ g ∧ GB w' g cap' l ∧ Below w.heap.size w w' := by
  have HR := hideB2 hr
  have HN := hideB2 hn
  have H1 := hideB2 h1
  have H2 := hideB2 h2
  clear hr hn h1 h2
  have qT := fun (w : World) => Lib.run_eql_slice_nil (P := Tryd.prog) w 23 34 (some ⟨c, 0, none⟩) n cap 0 0 Tryd.underlying23
  go_enter Tryd.func56, Tryd.ntmps56
  go_wp2_with (at_builtin; refine wp_appG rfl _ _ rfl c cap n l HN.out H1.out H2.out rfl rfl HR.out ?_; intro w1 g cap' hg hgb hbl)
  go_ret
  exact ⟨g, cap', rfl, hg, hgb, hbl⟩
end Go.Proofs.YtknpolmenfdheaaDoor
