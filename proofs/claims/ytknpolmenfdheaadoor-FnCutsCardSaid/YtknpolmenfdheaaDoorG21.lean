/-
  The drawing functions of chapter 4: a store that may be none.
-/
import Derived.Test.YtknpolmenfdheaaDoorG20
namespace Go.Proofs.YtknpolmenfdheaaDoor
set_option linter.unusedVariables false
set_option linter.unusedSimpArgs false
open Go.RowKit
theorem SlG.kp {p : Nat} {w w' : World} {s : Value} {l : List Sg} (h : SlG w s l) (k : Kp p w w') (hne : ∀ g, s.ownBlock = some g → g ≠ p) : SlG w' s l := by
  rcases h with h | ⟨b, cap, rfl, hr⟩
  · exact .inl h
  · exact .inr ⟨b, cap, rfl, hr.kp k (hne b rfl)⟩
/-- append([]Seg{s}, l...). -/
theorem wp_appG2 {ops : Array Oper} {rest : List Oper} {o : Oper} {a : Act} {Q : Exit → Act → World → Prop} {W : World} (hgd : o.guard = none) (s x : Operand)
    (ho : o.op = .call { callee := .builtin .append, args := #[s, x], argTypes := #[23, 23] }) (c cap n : Nat) (y : Sg) (l : List Sg) (hn : l.length = n) (h1 : 0 < n) (h2 : n ≤ 1048576)
    (hs : a.eval s = .slice (some ⟨W.heap.size, 0, none⟩) 1 1) (hx : a.eval x = .slice (some ⟨c, 0, none⟩) n cap) (hr : RowG W c l)
    (k : ∀ w' g cap', W.heap.size ≤ g → GB w' g cap' (y :: l) → Below W.heap.size W w' → wpList Tryd.prog ops Q rest (a.put o.dst (.slice (some ⟨g, 0, none⟩) (1 + n) cap')) w') :
    wpList Tryd.prog ops Q (o :: rest) a (W.alloc (.cells #[.string y.1, .int .i64 y.2] 34)) := by
  obtain ⟨i0, hi, hz0, hz1, hz2⟩ := info_parts Tryd.infoG
  have hown0 : (W.alloc (.cells #[.string y.1, .int .i64 y.2] 34)).ownsRow W.heap.size 34 2 (.slice (some ⟨W.heap.size, 0, none⟩) 1 1) 1 (cellsG [y]) :=
    ⟨rfl, .inr ⟨W.heap.size, 1, _, rfl, Nat.le_refl _, heap_alloc_new W _, Nat.le_refl _, by decide, rfl, rfl⟩⟩
  refine wpList_append_own _ hgd s x 23 ho W.heap.size 34 i0 _ 2 24 Tryd.underlying23 hi hz0 hz1 hz2 rfl (by decide) _ 1 (cellsG [y]) hs hown0 ⟨c, 0, none⟩ n cap (cellsG l) hx (by rw [cellsG_len, hn]) ?_ (cellsG_one l) (by unfold maxLen; omega) (by omega) (by simp) ?_
  · intro j v hv
    have hj : j < l.length * 2 := by have := (List.getElem?_eq_some_iff.1 hv).1; rwa [cellsG_len] at this
    rw [Addr.add_lit, Nat.zero_add, (below_a1 W _).cell (p := ⟨c, j, none⟩) hr.lt, ← hv]
    rcases Nat.mod_two_eq_zero_or_one j with e | e
    · obtain ⟨q, rfl⟩ : ∃ q, j = q * 2 := ⟨j / 2, by omega⟩
      rw [hr.dat q (by omega), (cellsG_at l q (by omega)).1]
    · obtain ⟨q, rfl⟩ : ∃ q, j = q * 2 + 1 := ⟨j / 2, by omega⟩
      rw [hr.saf q (by omega), (cellsG_at l q (by omega)).2]
  intro v' w' hown hgrow _
  have hbel : Below W.heap.size W w' := (below_a1 W _).grown hgrow (by simp) (fun k hk => by
    have e : (Value.slice (some ⟨W.heap.size, 0, none⟩) 1 1).ownBlock = some W.heap.size := rfl
    rw [e] at hk
    cases hk
    exact Nat.le_refl _)
  rw [← cellsG_app] at hown
  rcases hown.2 with ⟨_, h2⟩ | ⟨g, cap', cur, e1, _⟩
  · omega
  · subst e1
    obtain ⟨hb, hgb⟩ := GB.of hown (by simp; omega)
    exact k w' g cap' hb hgb hbel
theorem DS.putC {p : Nat} {w wr : World} {q : Nat} {l : List Sg} {c : Int} {g cap : Nat} (h : DS p w wr q l c g cap) (c' : Int) : DS p w (wr.setCell ⟨q, 1, none⟩ (.int .i64 c')) q l c' g cap := by
  have hp := h.plt
  have hq := h.qge
  exact ⟨h.blk.set 1 _, h.row.other (h.row.ne h.blk store_ne_seg) _ _, h.ge, h.qge, h.st.setNew (g := q) (by omega) _ _, h.kp.setNew (by omega) _ _, h.plt, h.res.other (by omega) _ _⟩
theorem DS.putS {p : Nat} {w wr : World} {q : Nat} {l l' : List Sg} {c : Int} {g cap g' cap' : Nat} (h : DS p w wr q l c g cap) (hg : w.heap.size ≤ g') (hr : GB wr g' cap' l') : DS p w (wr.setCell ⟨q, 0, none⟩ (.slice (some ⟨g', 0, none⟩) l'.length cap')) q l' c g' cap' := by
  have hp := h.plt
  have hq := h.qge
  exact ⟨h.blk.set 0 _, hr.other (hr.ne h.blk store_ne_seg) _ _, hg, h.qge, h.st.setNew (g := q) (by omega) _ _, h.kp.setNew (by omega) _ _, h.plt, h.res.other (by omega) _ _⟩
/-- Number i is written anew. -/
theorem DS.rowSet {p : Nat} {w wr : World} {q : Nat} {l : List Sg} {c : Int} {g cap : Nat} (h : DS p w wr q l c g cap) (i : Nat) (d : ByteArray) (s : Int) : DS p w ((wr.setCell ⟨g, i * 2, none⟩ (.string d)).setCell ⟨g, i * 2 + 1, none⟩ (.int .i64 s)) q (l.set i (d, s)) c g cap := by
  have hp := h.plt
  have hg := h.ge
  have hr := h.row.ne h.res store_ne_seg
  have hb := h.row.ne h.blk store_ne_seg
  exact ⟨by rw [List.length_set]; exact (h.blk.other (Ne.symm hb) _ _).other (Ne.symm hb) _ _, h.row.set i d s, h.ge, h.qge, (h.st.setNew (g := g) (by omega) _ _).setNew (g := g) (by omega) _ _, (h.kp.setNew (by omega) _ _).setNew (by omega) _ _, h.plt, (h.res.other (Ne.symm hr) _ _).other (Ne.symm hr) _ _⟩
theorem DS.rowSafe {p : Nat} {w wr : World} {q : Nat} {l : List Sg} {c : Int} {g cap : Nat} (h : DS p w wr q l c g cap) (i : Nat) (s : Int) (hi : i < l.length) : DS p w (wr.setCell ⟨g, i * 2 + 1, none⟩ (.int .i64 s)) q (l.set i ((sgAt l i).1, s)) c g cap := by
  have hp := h.plt
  have hg := h.ge
  have hr := h.row.ne h.res store_ne_seg
  have hb := h.row.ne h.blk store_ne_seg
  exact ⟨by rw [List.length_set]; exact h.blk.other (Ne.symm hb) _ _, h.row.setS i s hi, h.ge, h.qge, h.st.setNew (g := g) (by omega) _ _, h.kp.setNew (by omega) _ _, h.plt, h.res.other (Ne.symm hr) _ _⟩
theorem totG_set (l : List Sg) (i : Nat) (y : Sg) (h : i < l.length) : totG (l.set i y) + (sgAt l i).1.size = totG l + y.1.size := by
  induction l generalizing i with
  | nil => simp at h
  | cons x l ih =>
    have e1 : ∀ (z : Sg) (m : List Sg), totG (z :: m) = z.1.size + totG m := fun z m => by simp [totG]
    cases i with
    | zero => rw [List.set_cons_zero, e1, e1, sgAt_zero]; omega
    | succ i =>
      have := ih i (by simpa using h)
      rw [List.set_cons_succ, e1, e1, sgAt_succ]; omega
/-- The length of the list in the variable at q. -/
def lenAt (wr : World) (q : Nat) : Nat := match wr.cell? ⟨q, 0, none⟩ with | some (.slice _ n _) => n | _ => 0
theorem DS.lenAt {p : Nat} {w wr : World} {q : Nat} {l : List Sg} {c : Int} {g cap : Nat} (h : DS p w wr q l c g cap) : lenAt wr q = l.length := by
  unfold Go.Proofs.YtknpolmenfdheaaDoor.lenAt
  rw [h.blk.cell 0]
  rfl
/-- What is drawn: a store, or a list and a number that are none. -/
def Bent (w w' : World) (v : Value) (l : List Sg) (c : Int) : Prop := ∃ s, v = .agg #[s, .int .i64 c] ∧ SlG w' s l ∧ l.length ≤ 41 ∧ totG l ≤ 60041 ∧ -1 ≤ c ∧ c ≤ 60001 ∧ ∀ g, s.ownBlock = some g → w.heap.size ≤ g
theorem DS.bent {p : Nat} {w wr : World} {q : Nat} {l : List Sg} {c : Int} {g cap : Nat} (h : DS p w wr q l c g cap) (h1 : l.length ≤ 41) (h2 : totG l ≤ 60041) (h3 : -1 ≤ c) (h4 : c ≤ 60001) :
    Bent w ((wr.setCell ⟨w.heap.size, 0, none⟩ (.slice (some ⟨g, 0, none⟩) l.length cap)).setCell ⟨w.heap.size, 1, none⟩ (.int .i64 c)) (.agg #[.slice (some ⟨g, 0, none⟩) l.length cap, .int .i64 c]) l c ∧
    Kp p w ((wr.setCell ⟨w.heap.size, 0, none⟩ (.slice (some ⟨g, 0, none⟩) l.length cap)).setCell ⟨w.heap.size, 1, none⟩ (.int .i64 c)) ∧ Drw ((wr.setCell ⟨w.heap.size, 0, none⟩ (.slice (some ⟨g, 0, none⟩) l.length cap)).setCell ⟨w.heap.size, 1, none⟩ (.int .i64 c)) p := by
  have hp := h.plt
  refine ⟨⟨_, rfl, (h.row.oth2 (h.row.ne h.res store_ne_seg) _ _).sl rfl, h1, h2, h3, h4, fun g' e => ?_⟩, (h.kp.setNew (Nat.le_refl _) _ _).setNew (Nat.le_refl _) _ _, (h.st.setNew (g := w.heap.size) hp _ _).setNew (g := w.heap.size) hp _ _⟩
  injection e with e
  subst e
  exact h.ge
set_option maxHeartbeats 8000000 in
theorem l4bent_any (p : Nat) (w : World) (hd : Drw w p) :
    Calls Tryd.prog 33 #[.pointer (some ⟨p, 0, none⟩)] w fun e w' => (∃ v l c, e = .returned v ∧ Bent w w' v l c) ∧ Kp p w w' ∧ Drw w' p := by
  have hplt := hd.lt
  have R0 := Blk.new w #[.slice none 0 0, .int .i64 0] 25
  have ba := below_a1 w (.cells #[.slice none 0 0, .int .i64 0] 25)
  have hd1 := hd.kept ba
  have hk1 : Kp p w (w.alloc (.cells #[.slice none 0 0, .int .i64 0] 25)) := Kp.of_below ba
  have hsz1 : (w.alloc (.cells #[.slice none 0 0, .int .i64 0] 25)).heap.size = w.heap.size + 1 := by simp
  have HSZ := hideB2 hsz1
  clear hd ba hsz1
  go_enter Tryd.func33, Tryd.ntmps33
  go_wp2_with fail
  generalize w.alloc (.cells #[.slice none 0 0, .int .i64 0] 25) = W1 at *
  refine (l4draw_any p _ hd1).mono ?_
  rintro e w2 ⟨⟨g, cap, l, c, rfl, hq, hg, hgb⟩, hk2, hd2⟩
  obtain ⟨hc1, hc2, q1, q2, q3, q4⟩ := storeQ_iff.1 hq
  have ba2 := below_a1 w2 (.cells #[.slice (some ⟨g, 0, none⟩) l.length cap, .int .i64 c] 25)
  have S2 := Blk.new w2 #[.slice (some ⟨g, 0, none⟩) l.length cap, .int .i64 c] 25
  have hs2 := hk2.size
  have D2 : DS p w (w2.alloc (.cells #[.slice (some ⟨g, 0, none⟩) l.length cap, .int .i64 c] 25)) w2.heap.size l c g cap :=
    ⟨S2, hgb.later ba2, by have := HSZ.out; omega, by have := HSZ.out; omega, hd2.kept ba2, (hk1.trans hk2).trans (Kp.of_below ba2), hplt, (R0.kp hk2 (by omega)).later ba2⟩
  clear S2 hgb ba2 R0 hd2 hk1 hk2 hd1 hs2 HSZ q3
  go_wp2_with fail
  generalize w2.heap.size = q at *
  generalize w2.alloc (.cells #[.slice (some ⟨g, 0, none⟩) l.length cap, .int .i64 c] 25) = W2 at *
  refine (l1Once_any p 6 _ D2.st (by omega)).mono ?_
  rintro e w3 ⟨⟨b3, rfl⟩, hk3, hd3⟩
  have D3 := D2.draw hk3 hd3
  clear D2 hk3 hd3 hg
  cases b3 with
  | false =>
    obtain ⟨p0, p1⟩ := D3.blk.c2
    obtain ⟨r0, r1⟩ := D3.res.c2
    have f0 := D3.res.free 0
    have f1 := D3.res.free 1
    have HD := hideB2 D3
    clear D3
    go_wp2
    obtain ⟨B1, B2, B3⟩ := HD.out.bent (by omega) (by omega) (by omega) (by omega)
    exact bodyPost_ret (results_cellS rfl _ _ _ rfl (HD.out.res.set2 _ _) Tryd.underlying25 Tryd.infoStore) rfl ⟨⟨_, l, c, rfl, B1⟩, B2, B3⟩
  | true =>
    obtain ⟨p0, p1⟩ := D3.blk.c2
    go_wp2_with fail
    refine (l1Below_any p (l.length : Int) _ D3.st (by omega)).mono ?_
    rintro e w4 ⟨⟨i, hi, _, _, rfl⟩, hk4, hd4⟩
    have hil : (i : Int) < (l.length : Int) := hi (by omega)
    have D4 := D3.draw hk4 hd4
    clear D3 hk4 hd4 hi p0 p1
    go_wp2_with fail
    refine (l1Below_any p 5 _ D4.st (by omega)).mono ?_
    rintro e w5 ⟨⟨z, hz, _, _, rfl⟩, hk5, hd5⟩
    have hz5 : (z : Int) < 5 := hz (by omega)
    have D5 := D4.draw hk5 hd5
    clear D4 hk5 hd5 hz
    have hlm : l.length ≤ 1048576 := by omega
    have htm : totG l ≤ 1099511627776 := by omega
    have hin : i < l.length := by omega
    by_cases hz0 : z = 0
    · subst hz0
      have HU := hideB2 (show ∀ (W : World), SlG W (.slice (some ⟨g, 0, none⟩) l.length cap) l → Calls Tryd.prog 31 #[.agg #[.slice (some ⟨g, 0, none⟩) l.length cap, .int .i64 c]] W (fun e w' => e = .returned (.int .i64 (totG l : Int)) ∧ Below W.heap.size W w') from fun W h => by
        have h := sUsed_any _ l c W h hlm htm
        rw [if_pos hq] at h
        exact h)
      have E5 := D5.later (Below.refl _ w5).drew
      have ht0 : (totG l : Int) ≤ 60000 := by omega
      have ht1 : (0 : Int) ≤ (totG l : Int) := by omega
      have HB1 := hideB2 (show l.length ≤ 41 by omega)
      have HB2 := hideB2 (show totG l ≤ 60041 by omega)
      generalize (totG l : Int) = U at *
      have hwU : IntKind.i64.wrap (U - 1) = U - 1 := by rw [IntKind.wrap_i64]; omega
      obtain ⟨p0, p1⟩ := E5.blk.c2
      clear D5 hq q4
      go_wp2
      go_region_with (first
        | (go_at_call 31; first | (refine (HU.out _ D6.sl).mono ?_; rintro e w7 ⟨rfl, hb7⟩; have D7 := D6.later hb7; obtain ⟨s0, s1⟩ := D7.blk.c2) | (refine (HU.out _ E5.sl).mono ?_; rintro e w6 ⟨rfl, hb6⟩; have D6 := E5.later hb6; obtain ⟨u0, u1⟩ := D6.blk.c2))
        | (go_at_call 53; refine (l1PickInt_of (fun z => -1 ≤ z ∧ z ≤ 60001) p w7.heap.size 4 4 _ ?_ ?_ ?_ (by omega) (by omega)).mono ?_; exact D7.st.alloc _; (have := D7.st.lt; omega); (intro j hj; rcases j with _ | _ | _ | _ | j; exact cell_newP w7 _ _ _ 0 (-1) rfl (by omega); exact cell_newP w7 _ _ _ 1 60001 rfl (by omega); exact cell_newP w7 _ _ _ 2 U rfl (by omega); exact cell_newP w7 _ _ _ 3 (U - 1) rfl (by omega); omega); rintro e w8 ⟨⟨y, hy, rfl⟩, hk8, hd8⟩; have D8 := (D7.later (below_a1 w7 _)).draw hk8 hd8; obtain ⟨v0, v1⟩ := D8.blk.c2; have fv1 := D8.blk.free 1))
      all_goals
        have D9 := D8.putC y
        clear p0 p1 u0 u1 s0 s1 v0 v1 fv1 HU
        obtain ⟨e0, e1⟩ := D9.blk.c2
        obtain ⟨r0, r1⟩ := D9.res.c2
        have f0 := D9.res.free 0
        have f1 := D9.res.free 1
        have HD := hideB2 D9
        clear D9 D8 D7 D6 E5
        go_wp2
        obtain ⟨B1, B2, B3⟩ := HD.out.bent HB1.out HB2.out hy.1 hy.2
        exact bodyPost_ret (results_cellS rfl _ _ _ rfl (HD.out.res.set2 _ _) Tryd.underlying25 Tryd.infoStore) rfl ⟨⟨_, _, _, rfl, B1⟩, B2, B3⟩
    · have hz0b : ((z : Int) == 0) = false := by rw [beq_eq_false_iff_ne]; omega
      by_cases hz1 : z = 1
      · subst hz1
        have hts := totG_set l i
        have hdz := totG_at l i hin
        have hi0 : (0 : Int) ≤ (i : Int) := by omega
        have hiw : IntKind.i64.wrap (i : Int) = (i : Int) := by rw [IntKind.wrap_i64]; omega
        have hd0 := D5.row.row.dat i hin
        have hd1 := D5.row.row.saf i hin
        have hd0a := fun o => (D5.later (below_a1 w5 o)).row.row.dat i hin
        obtain ⟨p0, p1⟩ := D5.blk.c2
        have ka := fun o => (D5.blk.alloc o).cell 0
        have HD5 := hideB2 D5
        have hw5 := D5.st.lt
        have HSAFE := hideB2 (fun (w8 : World) (D8 : DS p w w8 q l c g cap) (y : Int) => D8.rowSafe i y hin)
        have HSAF := hideB2 (fun (w8 : World) (D8 : DS p w w8 q l c g cap) => D8.row.row.saf i hin)
        have HB1 := hideB2 (fun y : Int => show (l.set i ((sgAt l i).1, y)).length ≤ 41 by rw [List.length_set]; omega)
        have HB2 := hideB2 (fun y : Int => show totG (l.set i ((sgAt l i).1, y)) ≤ 60041 by have := hts ((sgAt l i).1, y) hin; simp only at this; omega)
        clear D5 hq q4 hts hdz
        have hsd : (sgAt l i).1.size ≤ 1099511627776 := by have := totG_at l i hin; omega
        generalize hy0 : (sgAt l i).1 = d at *
        generalize (sgAt l i).2 = sf at *
        clear hy0
        have hwd : IntKind.i64.wrap ((d.size : Int) + 1) = (d.size : Int) + 1 := by rw [IntKind.wrap_i64]; omega
        go_wp2
        go_region_with (go_at_call 53; refine (l1PickInt_of (fun _ => True) p w5.heap.size 3 3 _ ?_ ?_ ?_ (by omega) (by omega)).mono ?_; exact (HD5.out.st.alloc _).drew; omega; (intro j hj; rcases j with _ | _ | _ | j; exact cell_newP w5 _ _ _ 0 (-1) rfl trivial; exact cell_newP w5 _ _ _ 1 ((d.size : Int) + 1) rfl trivial; exact cell_newP w5 _ _ _ 2 0 rfl trivial; omega); rintro e w8 ⟨⟨y, _, rfl⟩, hk8, hd8⟩; have D8 := (HD5.out.later (below_a1 w5 _).drew).draw hk8 hd8; obtain ⟨v0, v1⟩ := D8.blk.c2; have hs8 := HSAF.out _ D8; have hfs := D8.row.row.free (i * 2 + 1))
        all_goals
          have D9 := HSAFE.out _ D8 y
          clear p0 p1 v0 v1 hs8 hfs ka hd0 hd1 hd0a
          obtain ⟨e0, e1⟩ := D9.blk.c2
          obtain ⟨r0, r1⟩ := D9.res.c2
          have f0 := D9.res.free 0
          have f1 := D9.res.free 1
          have HD := hideB2 D9
          rw [List.length_set] at e0
          clear D9 D8
          have HLS := hideB2 (show (l.set i (d, y)).length = l.length from List.length_set ..)
          go_wp2
          obtain ⟨B1, B2, B3⟩ := HD.out.bent (HB1.out y) (HB2.out y) (by omega) (by omega)
          rw [HLS.out] at B1 B2 B3
          exact bodyPost_ret (results_cellS rfl _ _ _ rfl (HD.out.res.set2 _ _) Tryd.underlying25 Tryd.infoStore) rfl ⟨⟨_, _, _, rfl, B1⟩, B2, B3⟩
      · have hz1b : ((z : Int) == 1) = false := by rw [beq_eq_false_iff_ne]; omega
        by_cases hz2 : z = 2
        · subst hz2
          have hts := totG_set l i sg0 hin
          have hi0 : (0 : Int) ≤ (i : Int) := by omega
          have hd0 := D5.row.row.dat i hin
          have hd1 := D5.row.row.saf i hin
          have hf0 := D5.row.row.free (i * 2)
          have hf1 := D5.row.row.free (i * 2 + 1)
          obtain ⟨p0, p1⟩ := D5.blk.c2
          have D9 := D5.rowSet i ⟨#[]⟩ 0
          have HB1 := hideB2 (show (l.set i (⟨#[]⟩, 0)).length ≤ 41 by rw [List.length_set]; omega)
          have HB2 := hideB2 (show totG (l.set i (⟨#[]⟩, 0)) ≤ 60041 by have e : totG (l.set i (⟨#[]⟩, 0)) = totG (l.set i sg0) := rfl; rw [e]; have : sg0.1.size = 0 := rfl; omega)
          obtain ⟨e0, e1⟩ := D9.blk.c2
          obtain ⟨r0, r1⟩ := D9.res.c2
          have f0 := D9.res.free 0
          have f1 := D9.res.free 1
          have HD := hideB2 D9
          rw [List.length_set] at e0
          have HLS := hideB2 (show (l.set i (⟨#[]⟩, 0)).length = l.length from List.length_set ..)
          clear D9 D5 hq q4 hts
          generalize (sgAt l i).1 = d at *
          generalize (sgAt l i).2 = sf at *
          go_wp2
          obtain ⟨B1, B2, B3⟩ := HD.out.bent HB1.out HB2.out (by omega) (by omega)
          rw [HLS.out] at B1 B2 B3
          exact bodyPost_ret (results_cellS rfl _ _ _ rfl (HD.out.res.set2 _ _) Tryd.underlying25 Tryd.infoStore) rfl ⟨⟨_, _, _, rfl, B1⟩, B2, B3⟩
        · have hz2b : ((z : Int) == 2) = false := by rw [beq_eq_false_iff_ne]; omega
          by_cases hz3 : z = 3
          · subst hz3
            obtain ⟨p0, p1⟩ := D5.blk.c2
            have fq := D5.blk.free 0
            have Q6 := D5.blk.set 0 (.slice none 0 0)
            have hqg := D5.qge
            have hp := D5.plt
            have R6 := D5.res.other (b' := q) (by omega) 0 (.slice none 0 0)
            have K6 := D5.kp.setNew (g := q) (by omega) 0 (.slice none 0 0)
            have d6 := D5.st.setNew (g := q) (by omega) 0 (.slice none 0 0)
            have e0 : (w5.setCell ⟨q, 0, none⟩ (.slice none 0 0)).cell? ⟨q, 0, none⟩ = some (.slice none 0 0) := Q6.cell 0
            have e1 : (w5.setCell ⟨q, 0, none⟩ (.slice none 0 0)).cell? ⟨q, 1, none⟩ = some (.int .i64 c) := Q6.cell 1
            obtain ⟨r0, r1⟩ := R6.c2
            have f0 := R6.free 0
            have f1 := R6.free 1
            have HR6 := hideB2 R6
            have HK6 := hideB2 K6
            have Hd6 := hideB2 d6
            clear D5 hq q4 Q6 R6 K6 d6
            go_wp2
            refine bodyPost_ret (results_cellS rfl _ _ _ rfl (HR6.out.set2 _ _) Tryd.underlying25 Tryd.infoStore) rfl ⟨⟨_, [], c, rfl, _, rfl, .inl ⟨rfl, rfl⟩, by simp, by simp [totG], by omega, by omega, fun g' e => by cases e⟩, (HK6.out.setNew (Nat.le_refl _) _ _).setNew (Nat.le_refl _) _ _, (Hd6.out.setNew (g := w.heap.size) hp _ _).setNew (g := w.heap.size) hp _ _⟩
          · have hz3b : ((z : Int) == 3) = false := by rw [beq_eq_false_iff_ne]; omega
            have HD5 := hideB2 D5
            clear D5 hq
            go_wp2
            go_loopw [18] (fun _ wr => ∃ (L : List Sg) (g' cap' : Nat), DS p w wr q L c g' cap' ∧ 1 ≤ L.length ∧ L.length ≤ 41 ∧ totG L ≤ 60000 + L.length) (fun _ wr => 41 - lenAt wr q)
            case atStart => exact ⟨l, g, cap, HD5.out, q1, by omega, by omega⟩
            case round =>
              obtain ⟨L, g', cap', hD, h1, h41, htl⟩ := hrel
              have HLA := hideB2 hD.lenAt
              have E5 := hD.later (Below.refl _ wr).drew
              obtain ⟨p0, p1⟩ := E5.blk.c2
              have hplt2 := hD.plt
              clear HD5 hD
              go_wp2
              go_region_with (go_at_call 34; refine (l1Below_any p 2 _ ?_ (by omega)).mono ?_; exact E5.st; rintro e w6 ⟨⟨z6, hz6, _, _, rfl⟩, hk6, hd6⟩; have D6 := E5.draw hk6 hd6; obtain ⟨u0, u1⟩ := D6.blk.c2; have hz62 : (z6 : Int) < 2 := hz6 (by omega); have hw6 : IntKind.i64.wrap (40 + (z6 : Int)) = 40 + (z6 : Int) := (by rw [IntKind.wrap_i64]; omega))
              all_goals
                by_cases hlt : (L.length : Int) < 40 + (z6 : Int)
                · have hdec : decide ((L.length : Int) < 40 + (z6 : Int)) = true := decide_eq_true hlt
                  have hr6 := D6.row.row
                  have u0a := fun o => (D6.blk.alloc o).cell 0
                  have hs6 := D6.kp.size
                  have HD6 := hideB2 D6
                  have HR6 := hideB2 hr6
                  clear p0 p1 E5 D6 hr6 hk6 hd6 hz6
                  go_wp2_with (at_builtin; go_must (refine wp_appG2 rfl _ _ rfl g' cap' L.length (⟨#[120]⟩, 1) L rfl (by omega) (by omega) rfl rfl HR6.out ?_); intro w7 g7 cap7 hg7 hgb7 hb7; have D7 := HD6.out.later hb7; obtain ⟨s0, s1⟩ := D7.blk.c2; have fs0 := D7.blk.free 0; have HD8 := hideB2 (D7.putS (by omega) hgb7); clear D7 hgb7 hb7)
                  have hl8 : ((⟨#[120]⟩, 1) :: L : List Sg).length = 1 + L.length := by simp; omega
                  have hD8 := HD8.out
                  have hla := hD8.lenAt
                  rw [hl8] at hD8 hla
                  refine ⟨⟨(⟨#[120]⟩, 1) :: L, g7, cap7, hD8, by omega, by omega, ?_⟩, ?_⟩
                  · have e9 : totG ((⟨#[120]⟩, 1) :: L) = 1 + totG L := by
                      have e8 : totG ((⟨#[120]⟩, 1) :: L) = (⟨#[120]⟩ : ByteArray).size + totG L := by simp [totG]
                      rw [e8]; rfl
                    rw [e9]; omega
                  · have := HLA.out
                    omega
                · have fq1 := D6.blk.free 1
                  have D9 := D6.putC 60000
                  clear p0 p1
                  obtain ⟨e0, e1⟩ := D9.blk.c2
                  obtain ⟨r0, r1⟩ := D9.res.c2
                  have f0 := D9.res.free 0
                  have f1 := D9.res.free 1
                  have HD := hideB2 D9
                  clear D9 D6 E5
                  go_wp2
                  obtain ⟨B1, B2, B3⟩ := HD.out.bent h41 (by omega) (by omega) (by omega)
                  exact bodyPost_ret (v := .agg #[.slice (some ⟨g', 0, none⟩) L.length cap', .int .i64 60000]) (results_cellS rfl _ _ _ rfl (HD.out.res.set2 _ _) Tryd.underlying25 Tryd.infoStore) rfl ⟨⟨_, rfl, L, 60000, B1⟩, B2, B3⟩
end Go.Proofs.YtknpolmenfdheaaDoor
