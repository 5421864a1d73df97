/-
  Chapter 4: copies of stores (the specification's side).
-/
import Derived.Test.YtknpolmenfdheaaDoorG3
import Derived.Test.YtknpolmenfdheaaDoorG8
import Derived.Deep.RegionLawGrows
namespace Go.Proofs.YtknpolmenfdheaaDoor
set_option linter.unusedVariables false
set_option linter.unusedSimpArgs false
open Go.RowKit
/-- append([]Seg{}, l...), as one step of a region that draws. -/
theorem step_appG {ops : Array Oper} {o : Oper} {a : Act} {W : World} {K : Act → World → Prop} {Q : Exit → Act → World → Prop} {E : Prop} (hgd : o.guard = none) (s x : Operand)
    (ho : o.op = .call { callee := .builtin .append, args := #[s, x], argTypes := #[23, 23] }) (g c cap n : Nat) (l : List Sg) (hn : l.length = n) (h1 : 0 < n) (h2 : n ≤ 1048576)
    (hs : a.eval s = .slice (some ⟨g, 0, none⟩) 0 0) (hx : a.eval x = .slice (some ⟨c, 0, none⟩) n cap) (hr : RowG W c l)
    (k : ∀ w' g cap', W.heap.size ≤ g → GB w' g cap' l → Below W.heap.size W w' → K (a.put o.dst (.slice (some ⟨g, 0, none⟩) n cap')) w') :
    if Region.wanted o (yielded ops a.tmps) = true then Oper.wp Tryd.prog o a W K Q else E := by
  obtain ⟨i0, hi, hz0, hz1, hz2⟩ := info_parts Tryd.infoG
  refine step_append_grows hgd s x 23 ho 34 i0 _ 2 24 Tryd.underlying23 hi hz0 hz1 hz2 rfl (by decide) (some ⟨g, 0, none⟩) 0 0 [] hs (fun h => by cases h) rfl (fun b hb j u hu => by simp at hu) ⟨c, 0, none⟩ n cap (cellsG l) hx (by rw [cellsG_len, hn]) ?_ (cellsG_one l) (by omega) (by unfold maxLen; omega) (by omega) ?_
  · intro j v hv
    have hj : j < l.length * 2 := by have := (List.getElem?_eq_some_iff.1 hv).1; rwa [cellsG_len] at this
    rw [Addr.add_lit, Nat.zero_add, ← hv]
    rcases Nat.mod_two_eq_zero_or_one j with e | e
    · obtain ⟨q, rfl⟩ : ∃ q, j = q * 2 := ⟨j / 2, by omega⟩
      rw [hr.dat q (by omega), (cellsG_at l q (by omega)).1]
    · obtain ⟨q, rfl⟩ : ∃ q, j = q * 2 + 1 := ⟨j / 2, by omega⟩
      rw [hr.saf q (by omega), (cellsG_at l q (by omega)).2]
  intro v' w' hown hgrow
  rw [Nat.zero_add, List.nil_append] at hown
  rcases hown.2 with ⟨_, h2⟩ | ⟨g', cap', cur, e1, _⟩
  · omega
  · subst e1
    obtain ⟨hb, hgb⟩ := GB.of hown hn
    exact k w' g' cap' hb hgb ⟨hgrow.os, hgrow.tape, hgrow.output, hgrow.size, fun b hb => hgrow.block b hb (by intro h; cases h)⟩
set_option maxHeartbeats 2000000 in
theorem l4copy_any (b c0 n : Nat) (l : List Sg) (c : Int) (w : World) (hr : RowG w b l) (hn : l.length = n) (h1 : 0 < n) (h2 : n ≤ 1048576) :
    Calls Tryd.prog 39 #[.agg #[.slice (some ⟨b, 0, none⟩) n c0, .int .i64 c]] w fun e w' => ∃ g cap, e = .returned (.agg #[.slice (some ⟨g, 0, none⟩) n cap, .int .i64 c]) ∧ w.heap.size ≤ g ∧ GB w' g cap l ∧ Below w.heap.size w w' := by
  have HN := hideB2 hn
  have A0 := (Blk.new w #[.slice (some ⟨b, 0, none⟩) n c0, .int .i64 c] 25).alloc (.cells #[.slice none 0 0, .int .i64 0] 25)
  have A1 := Blk.new (w.alloc (.cells #[.slice (some ⟨b, 0, none⟩) n c0, .int .i64 c] 25)) #[.slice none 0 0, .int .i64 0] 25
  have hsz : (w.alloc (.cells #[.slice (some ⟨b, 0, none⟩) n c0, .int .i64 c] 25)).heap.size = w.heap.size + 1 := by simp
  rw [hsz] at A1
  have ha := below_a2 w (.cells #[.slice (some ⟨b, 0, none⟩) n c0, .int .i64 c] 25) (.cells #[.slice none 0 0, .int .i64 0] 25)
  have hr1 := hr.keep ha
  have HSZ := hideB2 (show w.heap.size + 2 ≤ ((w.alloc (.cells #[.slice (some ⟨b, 0, none⟩) n c0, .int .i64 c] 25)).alloc (.cells #[.slice none 0 0, .int .i64 0] 25)).heap.size by simp)
  clear hsz hr hn
  go_enter Tryd.func39, Tryd.ntmps39
  go_wp2
  generalize hW : (w.alloc (.cells #[.slice (some ⟨b, 0, none⟩) n c0, .int .i64 c] 25)).alloc (.cells #[.slice none 0 0, .int .i64 0] 25) = W at *
  clear hW
  obtain ⟨k0, k1⟩ := A0.c2
  have ka := fun o => (A0.alloc o).cell 0
  have kb := fun o => (A0.alloc o).cell 1
  have HR := hideB2 (hr1.keep (w' := (W.alloc (.cells #[] 34)).drew) (below_a1 W _).drew)
  have HA1 := hideB2 (A1.alloc (.cells #[] 34)).drew
  have HA0 := hideB2 (A0.alloc (.cells #[] 34)).drew
  have HB := hideB2 (below_then ha (below_a1 W (.cells #[] 34))).drew
  clear hr1 ha A0 A1
  go_region_law (refine step_appG rfl (.tmp 3) (.tmp 5) rfl W.heap.size b c0 n l HN.out h1 h2 (by simp [Act.eval, Act.put]) (by simp [Act.eval, Act.put]) HR.out ?_; intro w2 g cap' hg hgb hb2; have j1 : w2.cell? ⟨w.heap.size, 1, none⟩ = some (.int .i64 c) := (HA0.out.later hb2).cell 1; have t0 : w2.cell? ⟨w.heap.size + 1, 0, none⟩ = some (.slice none 0 0) := (HA1.out.later hb2).cell 0; have t1 : w2.cell? ⟨w.heap.size + 1, 1, none⟩ = some (.int .i64 0) := (HA1.out.later hb2).cell 1; have f0 := (HA1.out.later hb2).free 0; have f1 := (HA1.out.later hb2).free 1)
  all_goals
    have HK2 := hideB2 (HA1.out.later hb2)
    have HG := hideB2 hgb
    have HB2 := hideB2 (below_then HB.out hb2)
    have hge : w.heap.size + 1 < g := by have := HSZ.out; simp at hg; omega
    clear hgb hb2 hg
    go_wp2
    refine bodyPost_ret (results_cellS rfl _ _ _ rfl (HK2.out.set2 _ _) Tryd.underlying25 Tryd.infoStore) rfl ⟨g, cap', rfl, by omega, HG.out.oth2 (by omega) _ _, below_set2 HB2.out (by omega) _ _⟩
end Go.Proofs.YtknpolmenfdheaaDoor
