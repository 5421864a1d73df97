/-
  Chapter 5: rows of fields of the call's own; counts by name in a map. The program's side of Without. · Chapter 5: those that do not have a name; one put in. Both sides. · Chapter 5: Without, the specification's side; With, both sides. · Chapter 6: marks on a message; what a reader hands back. · Chapter 10: the laws' copies and sizes of an exchange. · Chapter 6: a message written; the program's side. · Chapter 6: a message's head and bytes; the program's side. · Chapter 6: of what kind a message is, its head and its bytes; the specification's side. · Chapter 6: the first line, of a request or an answer; the specification's side.
-/
import Derived.Test.YthdgeepedofleaaGreatDoorJ2
import Derived.Test.YthdgeepedofleaaGreatDoorJ8
import Derived.Test.YthdgeepedofleaaGreatDoorJ3
import Derived.Maps.OwnOps
import Derived.Maps.OwnSet
import Derived.Deep.AppendLies
import Derived.Deep.DeepCutAuto
import Derived.Test.YthdgeepedofleaaGreatDoorJ4
import Derived.Test.YthdgeepedofleaaGreatDoorJ5
import Derived.Test.YthdgeepedofleaaGreatDoorJ1
namespace Go.Proofs.YthdgeepedofleaaGreatDoor
set_option linter.unusedVariables false
set_option linter.unusedSimpArgs false
open Go.RowKit Go.Maps
/-- The value v is a slice of the call's own that holds the fields l; nothing that was there in w0 has turned. -/
structure BufF (w0 w : World) (v : Value) (l : List Fd) : Prop where
  below : Below w0.heap.size w0 w
  own : w.ownsRow w0.heap.size 88 2 v l.length (cellsF l)
theorem BufF.start (w : World) : BufF w w (.slice none 0 0) [] := ⟨Below.refl _ _, World.ownsRow_nil _ _ _ _⟩
theorem BufF.alloc {w0 w : World} {v : Value} {l : List Fd} (h : BufF w0 w v l) (o : Obj) : BufF w0 (w.alloc o) v l := ⟨h.below.alloc h.below.size o, h.own.alloc o⟩
theorem BufF.form {w0 w : World} {v : Value} {l : List Fd} (h : BufF w0 w v l) : ∃ (a : Option Addr) (c : Nat), v = .slice a l.length c := by
  rcases h.own.2 with ⟨h1, h2⟩ | ⟨g, cap, cur, h1, _⟩
  · exact ⟨none, 0, by rw [h1, h2]⟩
  · exact ⟨_, _, h1⟩
theorem BufF.later {w0 w w' : World} {v : Value} {l : List Fd} (h : BufF w0 w v l) (hb : Below w.heap.size w w') : BufF w0 w' v l := by
  refine ⟨h.below.trans (hb.mono h.below.size), ?_⟩
  exact h.own.kept (row := none) ⟨hb.os, hb.tape, hb.output, hb.size, fun k hk _ => hb.block k hk⟩ (by
    cases hv : v.ownBlock with
    | none => exact Or.inl rfl
    | some g => exact Or.inr (by intro e; cases e))
/-- Its memory is none of an elder world's. -/
theorem BufF.base {w0 w1 w : World} {v : Value} {l : List Fd} (h : BufF w0 w v l) (hb : Below w1.heap.size w1 w0) : BufF w1 w v l := by
  refine ⟨below_then hb h.below, h.own.1, ?_⟩
  rcases h.own.2 with h2 | ⟨g, cap, cur, h1, hg, r⟩
  · exact .inl h2
  · exact .inr ⟨g, cap, cur, h1, Nat.le_trans hb.size hg, r⟩
/-- What is handed back: a slice of fields, its memory new. -/
def AnsF (w0 w' : World) (s : Value) (L : List Fd) : Prop := SlF w' s L ∧ (∀ g, s.ownBlock = some g → w0.heap.size ≤ g) ∧ Below w0.heap.size w0 w'
theorem BufF.ans {w0 w : World} {v : Value} {l : List Fd} (h : BufF w0 w v l) : AnsF w0 w v l := by
  have ho := h.own
  rcases h.own.2 with ⟨h1, h2⟩ | ⟨g, cap, cur, h1, hg, hh, _⟩
  · refine ⟨.inl ⟨h1, List.eq_nil_of_length_eq_zero h2⟩, fun g hg => ?_, h.below⟩
    rw [h1] at hg; cases hg
  · have hlt := (h.own.lt g (by rw [h1]; rfl)).2
    rw [h1] at ho
    refine ⟨.inr ⟨g, cap, h1, ⟨fun j hj => ?_, fun j hj => ?_, fun j => ho.frozenAt j, hlt⟩⟩, fun g' hg' => ?_, h.below⟩
    · rw [ho.cellAt (j * 2) (by omega)]; exact (cellsF_at l j hj).1
    · rw [ho.cellAt (j * 2 + 1) (by omega)]; exact (cellsF_at l j hj).2
    · rw [h1] at hg'
      injection hg' with hg'
      subst hg'; exact hg
theorem wp_fapp {ops : Array Oper} {rest : List Oper} {o : Oper} {a : Act} {Q : Exit → Act → World → Prop} {w0 W : World} (hgd : o.guard = none) (s x : Operand)
    (ho : o.op = .call { callee := .builtin .append, args := #[s, x], argTypes := #[48, 48] }) (v : Value) (l : List Fd) (hs : a.eval s = v) (hbuf : BufF w0 W v l)
    (d t : ByteArray) (hx : a.eval x = .slice (some ⟨W.heap.size, 0, none⟩) 1 1) (hlen : l.length ≤ 1048576)
    (h : ∀ v' W', BufF w0 W' v' (l ++ [(d, t)]) → W.grownBy W' v.ownBlock → wpList Tryz.prog ops Q rest (a.put o.dst v') W') :
    wpList Tryz.prog ops Q (o :: rest) a (W.alloc (.cells #[.string d, .string t] 88)) := by
  obtain ⟨i0, hi, hz0, hz1, hz2⟩ := info_parts Tryz.infoF
  refine wpList_append_own _ hgd s x 48 ho w0.heap.size 88 i0 _ 2 32 Tryz.underlying48 hi hz0 hz1 hz2 rfl (by decide) v l.length (cellsF l) hs (hbuf.own.alloc _) ⟨W.heap.size, 0, none⟩ 1 1 (cellsF [(d, t)]) hx (by rw [cellsF_len]; rfl) ?_ (cellsF_one _) (by unfold maxLen; omega) (by omega) (by have := hbuf.below.size; simp; omega) ?_
  · intro j u hu
    have hj : j < 2 := by have := (List.getElem?_eq_some_iff.1 hu).1; rwa [cellsF_len] at this
    rw [Addr.add_lit, Nat.zero_add, (Blk.new W _ _).cell j, ← hu]
    rcases j with _ | _ | j
    · rfl
    · rfl
    · omega
  intro v' W' hown hgrow _
  refine h v' W' ⟨?_, ?_⟩ ((World.grownBy_alloc W _ _).trans hgrow)
  · refine (hbuf.alloc _).below.grown hgrow (by have := hbuf.below.size; simp; omega) ?_
    intro k hk
    exact (hbuf.own.lt k hk).1
  · rw [List.length_append, List.length_singleton, cellsF_app]
    exact hown
/-- A block that is a map is none of a row. -/
theorem own_ne_map {w : World} {base : Nat} {e : TypeId} {size : Nat} {v : Value} {n : Nat} {xs : List Value} (h : w.ownsRow base e size v n xs) {b : Nat} {es : Array MapEntry} {c : Nat} (hb : w.heap[b]? = some (.map es c)) : some b ≠ v.ownBlock := by
  intro hh
  rcases h.2 with ⟨h1, _⟩ | ⟨g, cap, cur, h1, _, hg, _⟩
  · rw [h1] at hh; cases hh
  · rw [h1] at hh
    injection hh with hh
    subst hh
    rw [hb] at hg
    cases hg
theorem below_gb {w w' : World} (h : Below w.heap.size w w') (r : Option Nat) : w.grownBy w' r := ⟨h.os, h.tape, h.output, h.size, fun k hk _ => h.block k hk⟩
/-- Is it the folded name of one of them? -/
def hasNm (l : List Fd) (s : List UInt8) : Bool := l.any fun x => s == (foldB x.1).data.toList
theorem hasNm_next (l : List Fd) (k : Nat) (h : k < l.length) (s : List UInt8) : hasNm (l.take (k + 1)) s = (hasNm (l.take k) s || s == (foldB (fdAt l k).1).data.toList) := by
  unfold hasNm
  rw [takeF_next l k h, List.any_append]; simp
theorem hasNm_mem {l : List Fd} {x : Fd} (h : x ∈ l) : hasNm l (foldB x.1).data.toList = true := by
  unfold hasNm
  rw [List.any_eq_true]
  exact ⟨x, h, by simp⟩
end Go.Proofs.YthdgeepedofleaaGreatDoor
namespace Go.Proofs.YthdgeepedofleaaGreatDoor
set_option linter.unusedVariables false
set_option linter.unusedSimpArgs false
open Go.RowKit Go.Maps
/-- Is the text among these? -/
def inNl (ns : List ByteArray) (s : ByteArray) : Bool := ns.any fun t => s.data.toList == t.data.toList
def elseL (l : List Fd) (ns : List ByteArray) : List Fd := l.filter fun x => !inNl ns (foldB x.1)
theorem elseL_one (l : List Fd) (n : ByteArray) : elseL l [foldB n] = l.filter fun x => !nameIs n x := by
  unfold elseL
  congr 1
  funext x
  simp [inNl, nameIs, eqB, ByteArray.toList_eq]
theorem withoutL_yes {l : List Fd} {n : ByteArray} (h : fieldsQ l = true) : withoutL l n = elseL l [foldB n] := by unfold withoutL; rw [if_pos h, elseL_one]
theorem withoutL_no {l : List Fd} {n : ByteArray} (h : fieldsQ l = false) : withoutL l n = [] := by unfold withoutL; rw [h]; rfl
theorem elseL_next (l : List Fd) (ns : List ByteArray) (k : Nat) (h : k < l.length) : elseL (l.take (k + 1)) ns = elseL (l.take k) ns ++ (if inNl ns (foldB (fdAt l k).1) = true then [] else [fdAt l k]) := by
  unfold elseL
  rw [keepF_next l _ k h]
  cases inNl ns (foldB (fdAt l k).1) <;> simp
theorem elseL_len (l : List Fd) (ns : List ByteArray) : (elseL l ns).length ≤ l.length := List.length_filter_le _ _
def leftP (l : List Fd) (ns : List ByteArray) (s : List UInt8) : Bool := hasNm l s && !(ns.any fun t => s == t.data.toList)
theorem leftP_next (l : List Fd) (ns : List ByteArray) (k : Nat) (h : k < ns.length) (s : List UInt8) : leftP l (ns.take (k + 1)) s = (leftP l (ns.take k) s && !(s == (txAt ns k).data.toList)) := by
  unfold leftP
  rw [List.take_succ_eq_append_getElem h, List.any_append, txAt_get h]
  simp only [List.any_cons, List.any_nil, Bool.or_false, Bool.not_or, Bool.and_assoc]
theorem leftP_at {l : List Fd} {ns : List ByteArray} {x : Fd} (h : x ∈ l) : leftP l ns (foldB x.1).data.toList = !inNl ns (foldB x.1) := by
  unfold leftP inNl
  rw [hasNm_mem h, Bool.true_and]
theorem fdAt_mem {l : List Fd} {k : Nat} (h : k < l.length) : fdAt l k ∈ l := by rw [fdAt_get h]; exact List.getElem_mem h
end Go.Proofs.YthdgeepedofleaaGreatDoor
namespace Go.Proofs.YthdgeepedofleaaGreatDoor
set_option linter.unusedVariables false
set_option linter.unusedSimpArgs false
open Go.RowKit Go.Maps
theorem keepN_next (l : List Fd) (n : ByteArray) (k : Nat) (h : k < l.length) : (l.take (k + 1)).filter (fun x => !nameIs n x) = (l.take k).filter (fun x => !nameIs n x) ++ (if nameIs n (fdAt l k) = true then [] else [fdAt l k]) := by
  rw [keepF_next l _ k h]
  cases nameIs n (fdAt l k) <;> simp
set_option maxHeartbeats 2000000 in
theorem sWithout_any (v : Value) (l : List Fd) (n : ByteArray) (w : World) (hv : SlF w v l) (hl : l.length ≤ 1048576) (ht : totF l ≤ 1099511627776) (hn : n.size ≤ maxLen) :
    Calls Tryz.prog 122 #[v, .string n] w fun e w' => ∃ v', e = .returned v' ∧ BufF w w' v' (withoutL l n) := by
  obtain ⟨a, c0, rfl⟩ := hv.form
  cases hq : fieldsQ l
  · have HF := hideB2 (withoutL_no (n := n) hq)
    have HQ := hideB2 hq
    clear hq
    go_enter Tryz.func122, Tryz.ntmps122
    go_wp2_with (go_at_call 130; refine (sFieldsOk_any _ l _ hv hl ht).mono ?_; rintro e w2 ⟨rfl, hb2⟩; rw [HQ.out])
    go_ret
    exact ⟨_, rfl, by rw [HF.out]; exact (BufF.start w).later hb2⟩
  · have HF := hideB2 (show withoutL l n = l.filter (fun x => !nameIs n x) by unfold withoutL; rw [if_pos hq])
    have HQ := hideB2 hq
    have HV := hideB2 hv
    have hl20 := (fieldsQ_iff.1 hq).1
    have HFQ := hideB2 (fun j (hj : j < l.length) => fieldQ_sizes (fieldsQ_at hq hj))
    have HNN := hideB2 hn
    clear hq hl hn
    generalize hm : l.length = m at *
    have HM := hideB2 hm
    clear hm hv
    go_enter Tryz.func122, Tryz.ntmps122
    go_wp2_with (go_at_call 130; refine (sFieldsOk_any _ l _ HV.out (by rw [HM.out]; omega) ht).mono ?_; rintro e w2 ⟨rfl, hb2⟩; rw [HQ.out])
    go_loopw [5, 6] (fun o i wr => ∃ k : Nat, k ≤ m ∧ i = .int .i64 k ∧ BufF w wr o ((l.take k).filter (fun x => !nameIs n x))) (fun _ i _ => m - (intOf i).toNat)
    case atStart => exact ⟨0, Nat.zero_le _, rfl, (BufF.start w).later hb2⟩
    case round =>
      obtain ⟨k, hk, rfl, hbuf⟩ := hrel
      by_cases hlt : k < m
      · have hklt : k < l.length := by rw [HM.out]; exact hlt
        obtain ⟨b, rfl, hr⟩ := HV.out.row (by omega)
        have p0 := (hr.later hbuf.below hr.lt).dat k hklt
        have p1 := (hr.later hbuf.below hr.lt).saf k hklt
        have hsz := HFQ.out k (by rw [HM.out] at hklt; exact hklt)
        have HR := hideB2 (hr.later hbuf.below hr.lt)
        have HKL := hideB2 hklt
        have HNX := hideB2 (keepN_next l n k hklt)
        have hvl : ((l.take k).filter (fun x => !nameIs n x)).length ≤ 20 := by
          have := List.length_filter_le (fun x => !nameIs n x) (l.take k)
          rw [List.length_take] at this; omega
        have HVL := hideB2 hvl
        clear hr hvl hb2
        generalize hx : fdAt l k = x at *
        have HX := hideB2 hx
        clear hx
        obtain ⟨d, s⟩ := x
        simp only at p0 p1 hsz
        have hd : d.size ≤ maxLen := by unfold maxLen; omega
        have HD := hideB2 hd
        clear hsz hd hklt
        generalize (l.take k).filter (fun x => !nameIs n x) = L at *
        cases hc : nameIs n (d, s)
        · have HC := hideB2 (show eqB (foldB d) (foldB n) = false from hc)
          rw [hc] at HNX
          clear hc
          go_wp2_with (first | (go_at_call 164; refine (sSameFold_any d n _ HD.out HNN.out).mono ?_; rintro e w3 ⟨rfl, hb3⟩; rw [HC.out]; have q0 := (HR.out.keep hb3).dat k HKL.out; have q1 := (HR.out.keep hb3).saf k HKL.out; rw [HX.out] at q0 q1; simp only at q0 q1; have hbuf3 := hbuf.later hb3) | (at_builtin; refine wp_fapp rfl (.tmp 24) (.tmp 29) rfl _ _ rfl hbuf3 d s rfl (by have := HVL.out; omega) ?_; intro v2 W2 hbuf4 hgrow4))
          refine ⟨⟨k + 1, by omega, by go_num, ?_⟩, by simp [intOf]; omega⟩
          rw [HNX.out]
          exact hbuf4
        · have HC := hideB2 (show eqB (foldB d) (foldB n) = true from hc)
          rw [hc] at HNX
          clear hc
          go_wp2_with (go_at_call 164; refine (sSameFold_any d n _ HD.out HNN.out).mono ?_; rintro e w3 ⟨rfl, hb3⟩; rw [HC.out])
          refine ⟨⟨k + 1, by omega, by go_num, ?_⟩, by simp [intOf]; omega⟩
          rw [HNX.out]
          have := hbuf.later hb3
          simpa using this
      · obtain rfl : k = m := by omega
        have HE := hideB2 (show (l.take k).filter (fun x => !nameIs n x) = withoutL l n by rw [HF.out, List.take_of_length_le (by rw [HM.out]; exact Nat.le_refl _)])
        rw [HE.out] at hbuf
        clear HE
        go_wp2
        go_ret
        exact ⟨_, rfl, hbuf⟩
theorem withL_no1 {l : List Fd} {f : Fd} (h : fieldsQ l = false) : withL l f = [] := by unfold withL; rw [if_neg (by rw [h]; simp)]
theorem withL_no2 {l : List Fd} {f : Fd} (h : fieldQ f = false) : withL l f = [] := by unfold withL; rw [if_neg (by rw [h]; simp)]
theorem withL_yes {l : List Fd} {f : Fd} (h : fieldsQ l = true) (h2 : fieldQ f = true) : withL l f = if (withoutL l f.1).length < 20 then withoutL l f.1 ++ [f] else [] := by
  unfold withL withoutL
  rw [if_pos h]
  by_cases h3 : (l.filter (fun x => !nameIs f.1 x)).length < 20
  · rw [if_pos ⟨h, h2, h3⟩, if_pos h3]
  · rw [if_neg (fun hh => h3 hh.2.2), if_neg h3]
theorem withoutL_len (l : List Fd) (n : ByteArray) : (withoutL l n).length ≤ 20 := by
  unfold withoutL
  split
  · rename_i h
    exact Nat.le_trans (List.length_filter_le _ _) (fieldsQ_iff.1 h).1
  · simp
theorem withL_len (l : List Fd) (f : Fd) : (withL l f).length ≤ 20 := by
  unfold withL
  split
  · rename_i h
    rw [List.length_append, List.length_singleton]; omega
  · simp
/-- append(x, f) inside a region that draws: f lies in block N. -/
theorem step_fapp {ops : Array Oper} {o : Oper} {a : Act} {W : World} {K : Act → World → Prop} {Q : Exit → Act → World → Prop} {E : Prop} (hgd : o.guard = none) (s x : Operand)
    (ho : o.op = .call { callee := .builtin .append, args := #[s, x], argTypes := #[48, 48] }) (w0 : World) (v : Value) (l : List Fd) (hs : a.eval s = v) (hbuf : BufF w0 W v l) (N : Nat) (d t : ByteArray)
    (hx : a.eval x = .slice (some ⟨N, 0, none⟩) 1 1) (hN : Blk W N #[.string d, .string t] 88) (hlen : l.length ≤ 20)
    (k : ∀ v' W', BufF w0 W' v' (l ++ [(d, t)]) → K (a.put o.dst v') W') :
    if Region.wanted o (yielded ops a.tmps) = true then Oper.wp Tryz.prog o a W K Q else E := by
  obtain ⟨i0, hi, hz0, hz1, hz2⟩ := info_parts Tryz.infoF
  refine step_append_lies W hgd s x 48 ho w0.heap.size 88 i0 _ 2 32 Tryz.underlying48 hi hz0 hz1 hz2 rfl (by decide) v l.length (cellsF l) hs hbuf.own ⟨N, 0, none⟩ 1 1 (cellsF [(d, t)]) hx (by rw [cellsF_len]; rfl) ?_ (cellsF_one _) (by omega) (by unfold maxLen; omega) (by omega) hbuf.below.size _ rfl ?_
  · intro j u hu
    have hj : j < 2 := by have := (List.getElem?_eq_some_iff.1 hu).1; rwa [cellsF_len] at this
    rw [Addr.add_lit, Nat.zero_add, hN.cell j, ← hu]
    rcases j with _ | _ | j
    · rfl
    · rfl
    · omega
  intro g cap w' hown hgrow _ _
  refine k _ w' ⟨?_, ?_⟩
  · refine hbuf.below.grown hgrow hbuf.below.size ?_
    intro j hj
    exact (hbuf.own.lt j hj).1
  · rw [List.length_append, List.length_singleton, cellsF_app]
    exact hown
end Go.Proofs.YthdgeepedofleaaGreatDoor
namespace Go.Proofs.YthdgeepedofleaaGreatDoor
set_option linter.unusedVariables false
set_option linter.unusedSimpArgs false
open Go.RowKit
/-- A message as a value, its fields the slice v. -/
def mgV (g : Mg) (v : Value) : Value := .agg #[.string g.me, .string g.ta, .int .i64 g.st, .string g.re, .bool g.ba, v, .string g.bo]
def hdM : Except Int (Fl × List Fd × Nat) → Mg
  | .ok (h, fs, _) => ⟨h.1, h.2.1, h.2.2.1, h.2.2.2, false, fs, ⟨#[]⟩⟩
  | .error _ => mg0
def hdN : Except Int (Fl × List Fd × Nat) → Nat
  | .ok (_, _, m) => m
  | .error _ => 0
theorem hdM_len (answer : Bool) (s : ByteArray) : (hdM (hdX answer s)).fs.length ≤ 20 := by
  cases h : hdX answer s with
  | error c => exact Nat.zero_le _
  | ok x =>
    obtain ⟨⟨a, b, n, r⟩, fs, m⟩ := x
    exact (hdX_facts h).2.2.2.2.1
theorem results_cellTT {fn : Func} {p u x : Tmp} {ty : TypeId} (h : fn.results = #[.cell p ty, .tmp u, .tmp x]) (tmps : Array Value) (P : Program) (w : World) {b : Nat} {c : Array Value} {t : TypeId} {fs : Array Field} (hp : tmps.getD p undef = .pointer (some ⟨b, 0, none⟩)) (hB : Blk w b c t)
    (hu : P.underlying ty = some (.struct fs)) (hi : (P.info? ty).map (·.size) = some c.size) : (results fn tmps).run P w = .ok (.tuple #[.agg c, tmps.getD u undef, tmps.getD x undef]) w := by
  have hrun := run_loadVar_row (P := P) w b t ty c (0, 0) _ hB hu rfl hi
  have ha : (asAddr (tmps.getD p undef)).run P w = .ok ⟨b, 0, none⟩ w := by rw [hp]; rfl
  have he : (results fn tmps).run P w = ((asAddr (tmps.getD p undef)).run P w).andThen fun a w₁ => ((loadVar ty a).run P w₁).andThen fun v w₂ => .ok (.tuple #[v, tmps.getD u undef, tmps.getD x undef]) w₂ := by
    simp only [results, h]
    simp [Sem.run_bind, Result.andThen]
  rw [he, ha]
  show ((loadVar ty ⟨b, 0, none⟩).run P w).andThen _ = _
  rw [hrun]
  rfl
/-- The cells of a message. -/
def mgA (g : Mg) (v : Value) : Array Value := #[.string g.me, .string g.ta, .int .i64 g.st, .string g.re, .bool g.ba, v, .string g.bo]
theorem mgV_eq (g : Mg) (v : Value) : mgV g v = .agg (mgA g v) := rfl
set_option maxHeartbeats 1000000 in
theorem markMsg_any (me ta re bo : ByteArray) (st : Int) (ba : Bool) (fa : Option Addr) (fn fc : Nat) (fs : List Fd) (w : World) (hv : SlF w (.slice fa fn fc) fs) (hm : fs.length ≤ 1048576) :
    Calls Tryz.prog 29 #[.agg #[.string me, .string ta, .int .i64 st, .string re, .bool ba, .slice fa fn fc, .string bo], .int .i64 1] w fun e w' => e = .returned (.int .i64 (1 + 2 * (fs.length : Int))) ∧ SlF w' (.slice fa fn fc) (marksF fs.length) ∧ w.grownBy w' (Value.slice fa fn fc).ownBlock := by
  have hb := below_a1 w (.cells #[.string me, .string ta, .int .i64 st, .string re, .bool ba, .slice fa fn fc, .string bo] 50)
  have HV := hideB2 (hv.later hb)
  have HB := hideB2 (grown_then (grown_refl w (Value.slice fa fn fc).ownBlock) hb)
  have HM := hideB2 hm
  clear hv hb hm
  go_enter Tryz.func29, Tryz.ntmps29
  go_wp2_with (go_at_call 50; refine (markFieldS_any _ fs _ HV.out HM.out).mono ?_; rintro e w2 ⟨rfl, hs2, hg2⟩)
  go_ret
  exact ⟨rfl, hs2, World.grownBy.trans HB.out hg2⟩
set_option maxHeartbeats 1000000 in
theorem heldMsg_any (me ta re bo : ByteArray) (st : Int) (ba : Bool) (fa : Option Addr) (fn fc n : Nat) (w : World) (hv : SlF w (.slice fa fn fc) (marksF n)) (hm : n ≤ 1048576) :
    Calls Tryz.prog 30 #[.agg #[.string me, .string ta, .int .i64 st, .string re, .bool ba, .slice fa fn fc, .string bo], .int .i64 1] w fun e w' => e = .returned (.int .i64 (1 + 2 * (n : Int))) ∧ Below w.heap.size w w' := by
  have hb := below_a1 w (.cells #[.string me, .string ta, .int .i64 st, .string re, .bool ba, .slice fa fn fc, .string bo] 50)
  have HV := hideB2 (hv.later hb)
  have HB := hideB2 hb
  have HM := hideB2 hm
  have hneg : ¬ 1 + 2 * (n : Int) < 0 := by omega
  clear hv hb hm
  go_enter Tryz.func30, Tryz.ntmps30
  go_wp2_with (go_at_call 51; refine (heldFieldS_any _ n _ HV.out HM.out).mono ?_; rintro e w2 ⟨rfl, hb2⟩)
  go_ret
  exact ⟨rfl, below_then HB.out hb2⟩
end Go.Proofs.YthdgeepedofleaaGreatDoor
namespace Go.Proofs.YthdgeepedofleaaGreatDoor
set_option linter.unusedVariables false
set_option linter.unusedSimpArgs false
open Go.RowKit
theorem Blk.c6 {w : World} {g : Nat} {a b c d e f : Value} {t : TypeId} (H : Blk w g #[a, b, c, d, e, f] t) : w.cell? ⟨g, 0, none⟩ = some a ∧ w.cell? ⟨g, 1, none⟩ = some b ∧ w.cell? ⟨g, 2, none⟩ = some c ∧ w.cell? ⟨g, 3, none⟩ = some d ∧ w.cell? ⟨g, 4, none⟩ = some e ∧ w.cell? ⟨g, 5, none⟩ = some f := ⟨H.cell 0, H.cell 1, H.cell 2, H.cell 3, H.cell 4, H.cell 5⟩
set_option maxHeartbeats 1000000 in
theorem szExch_any (si ak wh : Int) (ur rq an : ByteArray) (left : Int) (w : World) (d1 : ur.size ≤ maxLen) (d2 : rq.size ≤ maxLen) (d3 : an.size ≤ maxLen) (h0 : 0 ≤ left) (h1 : left ≤ 1048576) :
    Calls Tryz.prog 19 #[.agg #[.int .i64 si, .int .i64 ak, .int .i64 wh, .string ur, .string rq, .string an], .int .i64 left] w fun e w' => e = .returned (.int .i64 (if (ur.size : Int) + (rq.size : Int) + (an.size : Int) ≤ left then left - (ur.size : Int) - (rq.size : Int) - (an.size : Int) else -1)) ∧ Below w.heap.size w w' := by
  have HB := hideB2 (below_a1 w (.cells #[.int .i64 si, .int .i64 ak, .int .i64 wh, .string ur, .string rq, .string an] 42))
  unfold maxLen at d1 d2 d3
  by_cases g1 : left - (ur.size : Int) < 0
  · rw [if_neg (by omega)]
    go_enter Tryz.func19, Tryz.ntmps19
    go_wp2
    go_ret
    exact ⟨rfl, HB.out⟩
  · by_cases g2 : left - (ur.size : Int) - (rq.size : Int) < 0
    · rw [if_neg (by omega)]
      go_enter Tryz.func19, Tryz.ntmps19
      go_wp2
      go_ret
      exact ⟨rfl, HB.out⟩
    · by_cases g3 : left - (ur.size : Int) - (rq.size : Int) - (an.size : Int) < 0
      · rw [if_neg (by omega)]
        go_enter Tryz.func19, Tryz.ntmps19
        go_wp2
        go_ret
        exact ⟨rfl, HB.out⟩
      · rw [if_pos (by omega)]
        go_enter Tryz.func19, Tryz.ntmps19
        go_wp2
        go_ret
        exact ⟨rfl, HB.out⟩
set_option maxHeartbeats 1000000 in
theorem toExch_any (si ak wh : Int) (ur rq an : ByteArray) (w : World) :
    Calls Tryz.prog 20 #[.agg #[.int .i64 si, .int .i64 ak, .int .i64 wh, .string ur, .string rq, .string an]] w fun e w' => e = .returned (.agg #[.int .i64 si, .int .i64 ak, .int .i64 wh, .string ur, .string rq, .string an]) ∧ Below w.heap.size w w' := by
  go_enter Tryz.func20, Tryz.ntmps20
  go_wp2
  refine bodyPost_ret (v := .agg #[.int .i64 si, .int .i64 ak, .int .i64 wh, .string ur, .string rq, .string an]) (by simp [results, Tryz.results20, go_sem]) rfl ⟨rfl, below_a3 w _ _ _⟩
end Go.Proofs.YthdgeepedofleaaGreatDoor
namespace Go.Proofs.YthdgeepedofleaaGreatDoor
set_option linter.unusedVariables false
set_option linter.unusedSimpArgs false
open Go.RowKit
theorem unfr_next (l : List Fd) (k : Nat) (h : k < l.length) : unfrL (l.take (k + 1)) = unfrL (l.take k) ++ (if frmN (fdAt l k).1 = true then [] else [fdAt l k]) := by
  unfold unfrL
  rw [keepF_next l _ k h]
  cases frmN (fdAt l k).1 <;> simp
theorem eqB_cl {s : ByteArray} : eqB s clN = (s.toList == [99, 111, 110, 116, 101, 110, 116, 45, 108, 101, 110, 103, 116, 104]) := by unfold eqB; rw [ByteArray.toList_eq clN]; rfl
theorem eqB_te {s : ByteArray} : eqB s teN = (s.toList == [116, 114, 97, 110, 115, 102, 101, 114, 45, 101, 110, 99, 111, 100, 105, 110, 103]) := by unfold eqB; rw [ByteArray.toList_eq teN]; rfl
theorem eqB_tr {s : ByteArray} : eqB s trN = (s.toList == [116, 114, 97, 105, 108, 101, 114]) := by unfold eqB; rw [ByteArray.toList_eq trN]; rfl
theorem frmN_eq (d : ByteArray) : frmN d = ((foldB d).toList == [99, 111, 110, 116, 101, 110, 116, 45, 108, 101, 110, 103, 116, 104] || (foldB d).toList == [116, 114, 97, 110, 115, 102, 101, 114, 45, 101, 110, 99, 111, 100, 105, 110, 103] || (foldB d).toList == [116, 114, 97, 105, 108, 101, 114]) := by
  unfold frmN; rw [eqB_cl, eqB_te, eqB_tr]
set_option maxHeartbeats 4000000 in
theorem unframed_any (v : Value) (l : List Fd) (w : World) (hv : SlF w v l) (hl : l.length ≤ 20) (hn : ∀ j, j < l.length → (fdAt l j).1.size ≤ 40) :
    Calls Tryz.prog 180 #[v] w fun e w' => ∃ v', e = .returned v' ∧ BufF w w' v' (unfrL l) := by
  obtain ⟨a, c0, rfl⟩ := hv.form
  have HV := hideB2 hv
  have HNM := hideB2 hn
  clear hv hn
  generalize hm : l.length = m at *
  have HM := hideB2 hm
  clear hm
  go_enter Tryz.func180, Tryz.ntmps180
  go_wp2
  go_loopw [3, 8] (fun o i wr => ∃ k : Nat, k ≤ m ∧ i = .int .i64 k ∧ BufF w wr o (unfrL (l.take k))) (fun _ i _ => m - (intOf i).toNat)
  case atStart => exact ⟨0, Nat.zero_le _, rfl, BufF.start w⟩
  case round =>
    obtain ⟨k, hk, rfl, hbuf⟩ := hrel
    by_cases hlt : k < m
    · have hklt : k < l.length := by rw [HM.out]; exact hlt
      obtain ⟨b, rfl, hr⟩ := HV.out.row (by omega)
      have p0 := (hr.later hbuf.below hr.lt).dat k hklt
      have p1 := (hr.later hbuf.below hr.lt).saf k hklt
      have hsz := HNM.out k hlt
      have HNX := hideB2 (unfr_next l k hklt)
      have hvl : (unfrL (l.take k)).length ≤ 20 := by
        have := List.length_filter_le (fun x : Fd => !frmN x.1) (l.take k)
        rw [List.length_take] at this
        unfold unfrL
        omega
      have HVL := hideB2 hvl
      clear hr hvl
      generalize fdAt l k = x at *
      obtain ⟨d, s⟩ := x
      simp only at p0 p1 hsz HNX
      have hd : d.size ≤ maxLen := by unfold maxLen; omega
      have HFold := hideB2 (fun W => Fold_any d W hd)
      have A1 := hideB2 (Blk.new wr #[.string d, .string s] 88)
      have Bf := hideB2 (hbuf.alloc (.cells #[.string d, .string s] 88))
      clear hsz hd hklt hbuf
      generalize unfrL (l.take k) = L at *
      rw [frmN_eq] at HNX
      generalize foldB d = F at *
      cases h1 : (F.toList == [99, 111, 110, 116, 101, 110, 116, 45, 108, 101, 110, 103, 116, 104])
      · cases h2 : (F.toList == [116, 114, 97, 110, 115, 102, 101, 114, 45, 101, 110, 99, 111, 100, 105, 110, 103])
        · cases h3 : (F.toList == [116, 114, 97, 105, 108, 101, 114])
          · rw [h1, h2, h3] at HNX
            go_wp2_with (first | (go_at_call 184; refine (HFold.out _).mono ?_; rintro e w3 ⟨rfl, hb3⟩; obtain ⟨q0, q1⟩ := (A1.out.later hb3).c2; have hbuf3 := Bf.out.later hb3) | (at_builtin; refine wp_fapp rfl (.tmp 15) (.tmp 17) rfl _ _ rfl hbuf3 d s rfl (by have := HVL.out; omega) ?_; intro v2 W2 hbuf4 hgrow4))
            refine ⟨⟨k + 1, by omega, by go_num, ?_⟩, by simp [intOf]; omega⟩
            rw [HNX.out]
            exact hbuf4
          · rw [h1, h2, h3] at HNX
            go_wp2_with (first | (go_at_call 184; refine (HFold.out _).mono ?_; rintro e w3 ⟨rfl, hb3⟩))
            refine ⟨⟨k + 1, by omega, by go_num, ?_⟩, by simp [intOf]; omega⟩
            rw [HNX.out]
            have := Bf.out.later hb3
            simpa using this
        · rw [h1, h2] at HNX
          go_wp2_with (first | (go_at_call 184; refine (HFold.out _).mono ?_; rintro e w3 ⟨rfl, hb3⟩))
          refine ⟨⟨k + 1, by omega, by go_num, ?_⟩, by simp [intOf]; omega⟩
          rw [HNX.out]
          have := Bf.out.later hb3
          simpa using this
      · rw [h1] at HNX
        go_wp2_with (first | (go_at_call 184; refine (HFold.out _).mono ?_; rintro e w3 ⟨rfl, hb3⟩))
        refine ⟨⟨k + 1, by omega, by go_num, ?_⟩, by simp [intOf]; omega⟩
        rw [HNX.out]
        have := Bf.out.later hb3
        simpa using this
    · obtain rfl : k = m := by omega
      have HE := hideB2 (show unfrL (l.take k) = unfrL l by rw [List.take_of_length_le (by rw [HM.out]; exact Nat.le_refl _)])
      rw [HE.out] at hbuf
      clear HE
      go_wp2
      go_ret
      exact ⟨_, rfl, hbuf⟩
theorem ownQ_no1 {l : List Fd} (h : fieldsQ l = false) : ownQ l = false := by unfold ownQ; rw [h]; rfl
theorem ownQ_no2 {l : List Fd} (h : ¬ (l.length : Int) < 20) : ownQ l = false := by
  unfold ownQ; rw [show decide (l.length < 20) = false from decide_eq_false (by omega)]; simp
theorem ownQ_yes {l : List Fd} (h : fieldsQ l = true) (h2 : (l.length : Int) < 20) : ownQ l = (((unfrL l).length : Int) == (l.length : Int)) := by
  unfold ownQ
  rw [h, show decide (l.length < 20) = true from decide_eq_true (by omega), Bool.true_and, Bool.true_and]
  cases hf : frmL l
  · have := unfr_len.2 hf
    rw [this]; simp
  · have h3 : ¬ (unfrL l).length = l.length := fun h4 => by rw [unfr_len.1 h4] at hf; cases hf
    have h4 : ¬ ((unfrL l).length : Int) = (l.length : Int) := by omega
    have h5 : (((unfrL l).length : Int) == (l.length : Int)) = false := beq_eq_false_iff_ne.2 h4
    rw [h5]; rfl
set_option maxHeartbeats 1000000 in
theorem ownFieldsOk_any (v : Value) (l : List Fd) (w : World) (hv : SlF w v l) (hl : l.length ≤ 1048576) (ht : totF l ≤ 1099511627776) :
    Calls Tryz.prog 190 #[v] w fun e w' => e = .returned (.bool (ownQ l)) ∧ Below w.heap.size w w' := by
  have HF := hideB2 (fun W h => FieldsOk_any v l W h hl ht)
  have HU := hideB2 (fun W h h1 h2 => unframed_any v l W h h1 h2)
  have HV := hideB2 hv
  obtain ⟨a, c0, rfl⟩ := hv.form
  clear hv
  cases hq : fieldsQ l
  · have HQ := hideB2 (ownQ_no1 hq)
    have HQ2 := hideB2 hq
    clear hq
    go_enter Tryz.func190, Tryz.ntmps190
    go_wp2_with (go_at_call 217; refine (HF.out _ HV.out).mono ?_; rintro e w' ⟨rfl, hb⟩; rw [HQ2.out])
    go_ret
    exact ⟨ret_bool HQ.out, hb⟩
  · by_cases h2 : (l.length : Int) < 20
    · have HQ := hideB2 (ownQ_yes hq h2)
      have HQ2 := hideB2 hq
      have HS := hideB2 (fun j (hj : j < l.length) => (fieldQ_sizes (fieldsQ_at hq hj)).1)
      clear hq
      generalize hm : l.length = m at *
      have HM := hideB2 hm
      clear hm
      generalize unfrL l = U at *
      go_enter Tryz.func190, Tryz.ntmps190
      go_wp2_with (first | (go_at_call 217; refine (HF.out _ HV.out).mono ?_; rintro e w' ⟨rfl, hb⟩; rw [HQ2.out]) | (go_at_call 180; refine (HU.out _ (HV.out.later hb) (by omega) HS.out).mono ?_; rintro e w2 ⟨v2, rfl, hb2⟩; obtain ⟨a2, c2, rfl⟩ := hb2.form))
      go_ret
      exact ⟨ret_bool HQ.out, below_then hb hb2.below⟩
    · have HQ := hideB2 (ownQ_no2 h2)
      have HQ2 := hideB2 hq
      clear hq
      generalize hm : l.length = m at *
      go_enter Tryz.func190, Tryz.ntmps190
      go_wp2_with (first | (go_at_call 217; refine (HF.out _ HV.out).mono ?_; rintro e w' ⟨rfl, hb⟩; rw [HQ2.out]))
      go_ret
      exact ⟨ret_bool HQ.out, hb⟩
/-- The first line, as bytes. -/
def firstB (m : Mg) : ByteArray := ⟨(firstL m).toArray⟩
theorem firstB_req {m : Mg} (h : eqB m.me ⟨#[]⟩ = false) : firstB m = m.me ++ ⟨#[32]⟩ ++ m.ta ++ ⟨#[32]⟩ ++ ⟨#[72, 84, 84, 80, 47, 49, 46, 49]⟩ := by
  apply bytes_ext
  simp [firstB, firstL, h, Go.Joins.data_append]
theorem firstB_ans {m : Mg} (h : eqB m.me ⟨#[]⟩ = true) : firstB m = ⟨#[72, 84, 84, 80, 47, 49, 46, 49, 32]⟩ ++ decT m.st ++ ⟨#[32]⟩ ++ m.re := by
  apply bytes_ext
  simp [firstB, firstL, h, Go.Joins.data_append]
theorem firstB_size {m : Mg} (h1 : m.me.size ≤ 1048576) (h2 : m.ta.size ≤ 1048576) (h3 : m.re.size ≤ 1048576) : (firstB m).size ≤ 2097200 := by
  have hd := decT_size m.st
  rw [← len_data] at hd h1 h2 h3
  show (firstL m).toArray.size ≤ _
  unfold firstL
  split
  · simp only [List.size_toArray, List.length_append, List.length_cons, List.length_nil]; omega
  · simp only [List.size_toArray, List.length_append, List.length_cons, List.length_nil]; omega
set_option maxHeartbeats 1000000 in
theorem firstText_any (me ta re bo : ByteArray) (st : Int) (ba : Bool) (fa : Option Addr) (fn fc : Nat) (fs : List Fd) (w : World) (hme : me.size ≤ 1048576) (hta : ta.size ≤ 1048576) (hre : re.size ≤ 1048576) (htab : Tab10 w) :
    Calls Tryz.prog 192 #[.agg #[.string me, .string ta, .int .i64 st, .string re, .bool ba, .slice fa fn fc, .string bo]] w fun e w' => e = .returned (.string (firstB ⟨me, ta, st, re, ba, fs, bo⟩)) ∧ Below w.heap.size w w' := by
  have HB := hideB2 (below_a1 w (.cells #[.string me, .string ta, .int .i64 st, .string re, .bool ba, .slice fa fn fc, .string bo] 50))
  have A1 := hideB2 (Blk.new w #[.string me, .string ta, .int .i64 st, .string re, .bool ba, .slice fa fn fc, .string bo] 50)
  cases h1 : eqB me ⟨#[]⟩
  · have HQ := hideB2 (firstB_req (m := ⟨me, ta, st, re, ba, fs, bo⟩) h1)
    rw [eqB_nil] at h1
    go_enter Tryz.func192, Tryz.ntmps192
    go_wp2
    go_ret
    exact ⟨ret_str HQ.out, HB.out⟩
  · have HQ := hideB2 (firstB_ans (m := ⟨me, ta, st, re, ba, fs, bo⟩) h1)
    rw [eqB_nil] at h1
    have HD := hideB2 (fun W h => DecText_all st W h)
    have hds := decT_size st
    have HT := hideB2 htab
    simp only at HQ
    generalize decT st = D at *
    clear htab
    go_enter Tryz.func192, Tryz.ntmps192
    go_wp2
    go_cut [2] (fun c wc => c = .string (firstB ⟨me, ta, st, re, ba, fs, bo⟩) ∧ Below w.heap.size w wc)
    case first =>
      go_region_with (go_at_call 59; refine (HD.out _ (tab_later HT.out (by first | exact HB.out | exact HB.out.drew))).mono ?_; rintro e w' ⟨rfl, hb⟩; obtain ⟨p0, p1, p2, p3, p4, p5, p6⟩ := (A1.out.drew.later hb).c7)
      all_goals
        go_wp2_with fail
        go_meet
        refine ⟨?_, ?_⟩
        · rw [HQ.out]
        · exact below_then HB.out.drew hb
    case rest =>
      obtain ⟨rfl, hb3⟩ := hcut
      go_wp2
      go_ret
      exact ⟨rfl, hb3⟩
end Go.Proofs.YthdgeepedofleaaGreatDoor
namespace Go.Proofs.YthdgeepedofleaaGreatDoor
set_option linter.unusedVariables false
set_option linter.unusedSimpArgs false
open Go.RowKit
theorem dropWhile_none {α : Type} {p : α → Bool} : ∀ {l : List α}, (∀ x ∈ l, p x = false) → l.dropWhile p = l
  | [], _ => rfl
  | a :: l, h => by rw [List.dropWhile_cons_of_neg (by rw [h a (by simp)]; simp)]
theorem trimL_none {l : List UInt8} (h : ∀ x ∈ l, gap8 x = false) : trimL l = l := by
  unfold trimL
  rw [dropWhile_none h, dropWhile_none (fun x hx => h x (List.mem_reverse.1 hx)), List.reverse_reverse]
theorem dig_plain {b : UInt8} (h : dig8 b = true) : plain8 b = true ∧ gap8 b = false := by
  have h1 := (dig8_iff b).1 h
  constructor
  · unfold plain8 plainP
    have h2 : (32 : Int) ≤ (b.toNat : Int) := by omega
    have h3 : ((b.toNat : Int) != 127) = true := by rw [bne_iff_ne]; omega
    simp [h2, h3]
  · unfold gap8 gapP
    have h2 : ((b.toNat : Int) == 32) = false := beq_eq_false_iff_ne.2 (by omega)
    have h3 : ((b.toNat : Int) == 9) = false := beq_eq_false_iff_ne.2 (by omega)
    rw [h2, h3]; rfl
theorem decB_value {n : Nat} (h : n ≤ 999999999999999) : valQ (decB n) = true := by
  have hd := allDig_dec n
  unfold allDig at hd
  rw [List.all_eq_true] at hd
  have hl := decDigits_len n h
  rw [valQ_iff]
  refine ⟨?_, ?_, ?_⟩
  · show (Lib.decDigits n).toArray.size ≤ 190
    simp; omega
  · unfold plnB
    rw [List.all_eq_true]
    intro x hx
    exact (dig_plain (hd x hx)).1
  · apply bytes_ext
    show trimL (Lib.decDigits n) = Lib.decDigits n
    exact trimL_none fun x hx => (dig_plain (hd x hx)).2
theorem tok_clW : tokB clW = true := by kernel_rfl
theorem clW_field {n : Nat} (h : n ≤ 999999999999999) : fieldQ (clW, decB n) = true := by
  rw [fieldQ_iff]
  exact ⟨by show (14 : Nat) ≤ 40; omega, tok_clW, decB_value h⟩
theorem decT_nat {n : Nat} (h : n ≤ 999999999999999) : decT (n : Int) = decB n := by
  unfold decT; rw [if_pos ⟨by omega, by omega⟩, Int.toNat_natCast]
theorem lenL_yes {m : Mg} (h : tellsQ m = true) (hb : m.bo.size ≤ 1048576) : lenL m = (ftextB (clW, decT (m.bo.size : Int))).data.toList ++ [13, 10] := by
  unfold lenL
  rw [if_pos h, decT_nat (by omega)]
  unfold ftextB
  rw [if_pos (clW_field (by omega))]
  rfl
theorem lenL_no {m : Mg} (h : tellsQ m = false) : lenL m = [] := by unfold lenL; rw [h]; rfl
/-- What is written ahead of field k. -/
def preB (m : Mg) (k : Nat) : ByteArray := ⟨(firstL m ++ [13, 10] ++ linesL (m.fs.take k)).toArray⟩
theorem preB_zero (m : Mg) : preB m 0 = firstB m ++ ⟨#[13, 10]⟩ := by
  apply bytes_ext
  simp [preB, firstB, linesL, Go.Joins.data_append]
theorem preB_next (m : Mg) (k : Nat) (h : k < m.fs.length) : preB m (k + 1) = preB m k ++ (ftextB (fdAt m.fs k) ++ ⟨#[13, 10]⟩) := by
  apply bytes_ext
  simp [preB, linesL_next m.fs k h, Go.Joins.data_append]
theorem preB_size {m : Mg} (h1 : m.me.size ≤ 1048576) (h2 : m.ta.size ≤ 1048576) (h3 : m.re.size ≤ 1048576) (hl : m.fs.length ≤ 20) (k : Nat) : (preB m k).size ≤ 2200000 := by
  have hf := firstB_size h1 h2 h3
  have hf' : (firstL m).length ≤ 2097200 := by
    have : (firstB m).size = (firstL m).length := by show (firstL m).toArray.size = _; simp
    omega
  have hk := linesL_len (m.fs.take k)
  have hk2 : (m.fs.take k).length ≤ 20 := by rw [List.length_take]; omega
  show (firstL m ++ [13, 10] ++ linesL (m.fs.take k)).toArray.size ≤ _
  simp only [List.size_toArray, List.length_append, List.length_cons, List.length_nil]
  omega
theorem headB_yes {m : Mg} (h : tellsQ m = true) (hb : m.bo.size ≤ 1048576) : headB m = preB m m.fs.length ++ (ftextB (clW, decT (m.bo.size : Int)) ++ ⟨#[13, 10]⟩) ++ ⟨#[13, 10]⟩ := by
  apply bytes_ext
  simp [headB, headL, preB, lenL_yes h hb, Go.Joins.data_append]
theorem headB_no {m : Mg} (h : tellsQ m = false) : headB m = preB m m.fs.length ++ ⟨#[13, 10]⟩ := by
  apply bytes_ext
  simp [headB, headL, preB, lenL_no h, Go.Joins.data_append]
set_option maxHeartbeats 4000000 in
theorem headText_any (me ta re bo : ByteArray) (st : Int) (ba : Bool) (fa : Option Addr) (fn fc : Nat) (fs : List Fd) (w : World) (hv : SlF w (.slice fa fn fc) fs) (hn : fs.length = fn) (hq : fieldsQ fs = true) (hme : me.size ≤ 1048576) (hta : ta.size ≤ 1048576) (hre : re.size ≤ 1048576) (hbo : bo.size ≤ 1048576) (htab : Tab10 w) :
    Calls Tryz.prog 142 #[.agg #[.string me, .string ta, .int .i64 st, .string re, .bool ba, .slice fa fn fc, .string bo]] w fun e w' => e = .returned (.string (headB ⟨me, ta, st, re, ba, fs, bo⟩)) ∧ Below w.heap.size w w' := by
  have HB := hideB2 (below_a1 w (.cells #[.string me, .string ta, .int .i64 st, .string re, .bool ba, .slice fa fn fc, .string bo] 50))
  have A1 := hideB2 (Blk.new w #[.string me, .string ta, .int .i64 st, .string re, .bool ba, .slice fa fn fc, .string bo] 50)
  have HV := hideB2 hv
  have HN := hideB2 hn
  have HT := hideB2 htab
  have hl20 : fn ≤ 20 := by rw [← hn]; exact (fieldsQ_iff.1 hq).1
  have HFQ := hideB2 (fun j (hj : j < fs.length) => fieldQ_sizes (fieldsQ_at hq hj))
  have H0 := hideB2 (fun W h => firstText_any me ta re bo st ba fa fn fc fs W hme hta hre h)
  have H1 := hideB2 (fun W => tellsLength_any me ta re bo st ba fa fn fc fs W)
  have P0 := hideB2 (preB_zero ⟨me, ta, st, re, ba, fs, bo⟩)
  have PN := hideB2 (fun k h => preB_next ⟨me, ta, st, re, ba, fs, bo⟩ k h)
  have PS := hideB2 (fun k => preB_size (m := ⟨me, ta, st, re, ba, fs, bo⟩) hme hta hre (by rw [← HN.out] at hl20; exact hl20) k)
  have hf0 := firstB_size (m := ⟨me, ta, st, re, ba, fs, bo⟩) hme hta hre
  have HY := hideB2 (fun h => headB_yes (m := ⟨me, ta, st, re, ba, fs, bo⟩) h hbo)
  have HO := hideB2 (fun h => headB_no (m := ⟨me, ta, st, re, ba, fs, bo⟩) h)
  have hds := decT_size (bo.size : Int)
  have HD := hideB2 (fun W h => DecText_all (bo.size : Int) W h)
  have hft := ftextB_size (x := (clW, decT (bo.size : Int)))
  have HF := hideB2 (fun W => FieldText_any clW (decT (bo.size : Int)) W (by decide) (by unfold maxLen; omega))
  unfold clW at HF hft HY
  clear hv hn htab hq
  generalize headB ⟨me, ta, st, re, ba, fs, bo⟩ = H at *
  generalize tellsQ ⟨me, ta, st, re, ba, fs, bo⟩ = T at *
  generalize firstB ⟨me, ta, st, re, ba, fs, bo⟩ = B0 at *
  generalize hPB : preB ⟨me, ta, st, re, ba, fs, bo⟩ = PB at *
  clear hPB
  simp only at HY HO PN
  generalize decT (bo.size : Int) = D at *
  go_enter Tryz.func142, Tryz.ntmps142
  go_wp2_with fail
  refine (H0.out _ (tab_later HT.out HB.out)).mono ?_
  rintro e w1 ⟨rfl, hb1⟩
  have A2 := hideB2 (A1.out.later hb1)
  have HB2 := hideB2 (below_then HB.out hb1)
  clear hb1 HB A1
  obtain ⟨p0, p1, p2, p3, p4, p5, p6⟩ := A2.out.c7
  go_wp2
  go_loopw [3, 12] (fun o i wr => ∃ k : Nat, k ≤ fn ∧ i = .int .i64 k ∧ o = .string (PB k) ∧ Below w1.heap.size w1 wr) (fun _ i _ => fn - (intOf i).toNat)
  case atStart => exact ⟨0, Nat.zero_le _, rfl, by rw [P0.out], Below.refl _ _⟩
  case round =>
    obtain ⟨k, hk, rfl, rfl, hb⟩ := hrel
    have hps := PS.out k
    clear p0 p1 p2 p3 p4 p5 p6
    by_cases hlt : k < fn
    · have hklt : k < fs.length := by rw [HN.out]; exact hlt
      obtain ⟨b, rfl, hr⟩ := HV.out.row (by omega)
      have hr2 := (hr.keep HB2.out).keep hb
      have q0 := hr2.dat k hklt
      have q1 := hr2.saf k hklt
      have hsz := HFQ.out k hklt
      have HNX := hideB2 (PN.out k hklt)
      have hfs := ftextB_size (x := fdAt fs k)
      have HBW := hideB2 hb
      clear hr hr2 hb hklt
      generalize fdAt fs k = x at *
      obtain ⟨d, s⟩ := x
      simp only at q0 q1 hsz
      have HFT := hideB2 (fun W => FieldText_any d s W (by unfold maxLen; omega) (by unfold maxLen; omega))
      generalize ftextB (d, s) = F at *
      generalize PB k = P at *
      go_wp2_with (go_at_call 193; refine (HFT.out _).mono ?_; rintro e w3 ⟨rfl, hb3⟩)
      refine ⟨⟨k + 1, by omega, by go_num, ?_, below_then (below_then HBW.out (below_a1 wr _)) hb3⟩, by simp [intOf]; omega⟩
      rw [HNX.out]
    · obtain rfl : k = fn := by omega
      obtain ⟨p0, p1, p2, p3, p4, p5, p6⟩ := (A2.out.later hb).c7
      have HBW := hideB2 (below_then HB2.out hb)
      have A3 := hideB2 (A2.out.later hb)
      have HT3 := hideB2 (tab_later HT.out HBW.out)
      clear hb
      cases T
      · have HE := hideB2 (HO.out rfl)
        rw [HN.out] at HE
        generalize PB k = P at *
        go_wp2_with (go_at_call 194; refine (H1.out _).mono ?_; rintro e w3 ⟨rfl, hb3⟩)
        go_ret
        exact ⟨ret_str HE.out, below_then HBW.out hb3⟩
      · have HE := hideB2 (HY.out rfl)
        rw [HN.out] at HE
        generalize PB k = P at *
        generalize ftextB (⟨#[67, 111, 110, 116, 101, 110, 116, 45, 76, 101, 110, 103, 116, 104]⟩, D) = F at *
        go_wp2_with (first
          | (go_at_call 194; refine (H1.out _).mono ?_; rintro e w3 ⟨rfl, hb3⟩; obtain ⟨r0, r1, r2, r3, r4, r5, r6⟩ := (A3.out.later hb3).c7)
          | (go_at_call 59; refine (HD.out _ (tab_later HT3.out hb3)).mono ?_; rintro e w4 ⟨rfl, hb4⟩)
          | (go_at_call 193; refine (HF.out _).mono ?_; rintro e w5 ⟨rfl, hb5⟩))
        go_ret
        exact ⟨ret_str HE.out, below_then (below_then (below_then HBW.out hb3) hb4) hb5⟩
theorem msgQ_no1 {m : Mg} (h : ownQ m.fs = false) : msgQ m = false := by unfold msgQ; rw [h]; rfl
theorem msgQ_no2 {m : Mg} (h : ¬ (m.bo.size : Int) ≤ 600) : msgQ m = false := by unfold msgQ; rw [decide_eq_false h]; simp
theorem msgQ_no3 {m : Mg} (h : kindQ m = false) : msgQ m = false := by unfold msgQ; rw [h]; simp
theorem msgQ_yes {m : Mg} (h1 : ownQ m.fs = true) (h2 : (m.bo.size : Int) ≤ 600) (h3 : kindQ m = true) : msgQ m = decide (((headB m).size : Int) ≤ 1500) := by
  unfold msgQ; rw [h1, decide_eq_true h2, h3]; rfl
theorem headB_small {m : Mg} (h1 : m.me.size ≤ 1048576) (h2 : m.ta.size ≤ 1048576) (h3 : m.re.size ≤ 1048576) (hl : m.fs.length ≤ 20) (hb : m.bo.size ≤ 1048576) : (headB m).size ≤ 2300000 := by
  have hp := preB_size h1 h2 h3 hl m.fs.length
  have hp' : (firstL m ++ [13, 10] ++ linesL (m.fs.take m.fs.length)).toArray.size ≤ 2200000 := hp
  rw [List.take_length] at hp'
  simp only [List.size_toArray, List.length_append, List.length_cons, List.length_nil] at hp'
  have hlen : (lenL m).length ≤ 50 := by
    unfold lenL
    split
    · have hd := decDigits_len m.bo.size (by omega)
      have hc : clW.data.toList.length = 14 := rfl
      simp only [List.length_append, List.length_cons, List.length_nil, hc]; omega
    · simp
  rw [headB_size]
  unfold headL
  simp only [List.length_append, List.length_cons, List.length_nil]
  omega
set_option maxHeartbeats 4000000 in
theorem MsgOk_any (me ta re bo : ByteArray) (st : Int) (ba : Bool) (fa : Option Addr) (fn fc : Nat) (fs : List Fd) (w : World) (hv : SlF w (.slice fa fn fc) fs) (hn : fs.length = fn) (hl : fs.length ≤ 1048576) (ht : totF fs ≤ 1099511627776) (hme : me.size ≤ 1048576) (hta : ta.size ≤ 1048576) (hre : re.size ≤ 1048576) (hbo : bo.size ≤ 1048576) (htab : Tab10 w) :
    Calls Tryz.prog 141 #[.agg #[.string me, .string ta, .int .i64 st, .string re, .bool ba, .slice fa fn fc, .string bo]] w fun e w' => e = .returned (.bool (msgQ ⟨me, ta, st, re, ba, fs, bo⟩)) ∧ Below w.heap.size w w' := by
  have HB := hideB2 (below_a1 w (.cells #[.string me, .string ta, .int .i64 st, .string re, .bool ba, .slice fa fn fc, .string bo] 50))
  have A1 := hideB2 (Blk.new w #[.string me, .string ta, .int .i64 st, .string re, .bool ba, .slice fa fn fc, .string bo] 50)
  have HV := hideB2 hv
  have HN := hideB2 hn
  have HT := hideB2 htab
  have HO := hideB2 (fun W h => ownFieldsOk_any (.slice fa fn fc) fs W h hl ht)
  have HK := hideB2 (fun W => kindOk_any me ta re bo st ba fa fn fc fs W (by unfold maxLen; omega) (by unfold maxLen; omega) (by unfold maxLen; omega))
  clear hv hn htab hl ht
  cases h1 : ownQ fs
  · have HE := hideB2 (msgQ_no1 (m := ⟨me, ta, st, re, ba, fs, bo⟩) h1)
    have H1 := hideB2 h1
    clear h1
    go_enter Tryz.func141, Tryz.ntmps141
    go_wp2_with (go_at_call 190; refine (HO.out _ (HV.out.later HB.out)).mono ?_; rintro e w1 ⟨rfl, hb1⟩; rw [H1.out])
    go_ret
    exact ⟨ret_bool HE.out, below_then HB.out hb1⟩
  · have hq := (ownQ_iff.1 h1).1
    have hl20 := (fieldsQ_iff.1 hq).1
    have HX := hideB2 (fun W h h' => headText_any me ta re bo st ba fa fn fc fs W h HN.out hq hme hta hre hbo h')
    have hsm := headB_small (m := ⟨me, ta, st, re, ba, fs, bo⟩) hme hta hre hl20 hbo
    by_cases h2 : (bo.size : Int) ≤ 600
    · cases h3 : kindQ ⟨me, ta, st, re, ba, fs, bo⟩
      · have HE := hideB2 (msgQ_no3 (m := ⟨me, ta, st, re, ba, fs, bo⟩) h3)
        have H1 := hideB2 h1
        have H3 := hideB2 h3
        clear h1 h3 hq hl20 hsm
        go_enter Tryz.func141, Tryz.ntmps141
        go_wp2_with (first
          | (go_at_call 190; refine (HO.out _ (HV.out.later HB.out)).mono ?_; rintro e w1 ⟨rfl, hb1⟩; rw [H1.out]; obtain ⟨p0, p1, p2, p3, p4, p5, p6⟩ := (A1.out.later hb1).c7)
          | (go_at_call 191; refine (HK.out _).mono ?_; rintro e w2 ⟨rfl, hb2⟩; rw [H3.out]))
        go_ret
        exact ⟨ret_bool HE.out, below_then (below_then HB.out hb1) hb2⟩
      · have HE := hideB2 (msgQ_yes (m := ⟨me, ta, st, re, ba, fs, bo⟩) h1 h2 h3)
        have H1 := hideB2 h1
        have H3 := hideB2 h3
        clear h1 h3 hq hl20
        generalize headB ⟨me, ta, st, re, ba, fs, bo⟩ = H at *
        go_enter Tryz.func141, Tryz.ntmps141
        go_wp2_with (first
          | (go_at_call 190; refine (HO.out _ (HV.out.later HB.out)).mono ?_; rintro e w1 ⟨rfl, hb1⟩; rw [H1.out]; obtain ⟨p0, p1, p2, p3, p4, p5, p6⟩ := (A1.out.later hb1).c7)
          | (go_at_call 191; refine (HK.out _).mono ?_; rintro e w2 ⟨rfl, hb2⟩; rw [H3.out]; have HB12 := hideB2 (below_then (below_then HB.out hb1) hb2); obtain ⟨r0, r1, r2, r3, r4, r5, r6⟩ := ((A1.out.later hb1).later hb2).c7)
          | (go_at_call 142; refine (HX.out _ (HV.out.later HB12.out) (tab_later HT.out HB12.out)).mono ?_; rintro e w3 ⟨rfl, hb3⟩))
        go_ret
        exact ⟨ret_bool HE.out, below_then HB12.out hb3⟩
    · have HE := hideB2 (msgQ_no2 (m := ⟨me, ta, st, re, ba, fs, bo⟩) h2)
      have H1 := hideB2 h1
      clear h1 hq hl20 hsm
      go_enter Tryz.func141, Tryz.ntmps141
      go_wp2_with (go_at_call 190; refine (HO.out _ (HV.out.later HB.out)).mono ?_; rintro e w1 ⟨rfl, hb1⟩; rw [H1.out]; obtain ⟨p0, p1, p2, p3, p4, p5, p6⟩ := (A1.out.later hb1).c7)
      go_ret
      exact ⟨ret_bool HE.out, below_then HB.out hb1⟩
theorem msgQ_sizes {m : Mg} (h : msgQ m = true) : fieldsQ m.fs = true ∧ m.bo.size ≤ 600 ∧ (headB m).size ≤ 1500 := by
  obtain ⟨h1, h2, _, h4⟩ := msgQ_iff.1 h
  exact ⟨(ownQ_iff.1 h1).1, h2, h4⟩
set_option maxHeartbeats 2000000 in
theorem WriteMsg_any (me ta re bo : ByteArray) (st : Int) (ba : Bool) (fa : Option Addr) (fn fc : Nat) (fs : List Fd) (w : World) (hv : SlF w (.slice fa fn fc) fs) (hn : fs.length = fn) (hl : fs.length ≤ 1048576) (ht : totF fs ≤ 1099511627776) (hme : me.size ≤ 1048576) (hta : ta.size ≤ 1048576) (hre : re.size ≤ 1048576) (hbo : bo.size ≤ 1048576) (htab : Tab10 w) :
    Calls Tryz.prog 105 #[.agg #[.string me, .string ta, .int .i64 st, .string re, .bool ba, .slice fa fn fc, .string bo]] w fun e w' => e = .returned (.string (wmsgB ⟨me, ta, st, re, ba, fs, bo⟩)) ∧ Below w.heap.size w w' := by
  have HB := hideB2 (below_a1 w (.cells #[.string me, .string ta, .int .i64 st, .string re, .bool ba, .slice fa fn fc, .string bo] 50))
  have A1 := hideB2 (Blk.new w #[.string me, .string ta, .int .i64 st, .string re, .bool ba, .slice fa fn fc, .string bo] 50)
  have HV := hideB2 hv
  have HN := hideB2 hn
  have HT := hideB2 htab
  have HM := hideB2 (fun W h h' => MsgOk_any me ta re bo st ba fa fn fc fs W h hn hl ht hme hta hre hbo h')
  clear hv hn htab hl ht
  cases h1 : msgQ ⟨me, ta, st, re, ba, fs, bo⟩
  · have HE := hideB2 (show wmsgB ⟨me, ta, st, re, ba, fs, bo⟩ = ⟨#[]⟩ by unfold wmsgB; rw [h1]; rfl)
    have H1 := hideB2 h1
    clear h1
    go_enter Tryz.func105, Tryz.ntmps105
    go_wp2_with (go_at_call 141; refine (HM.out _ (HV.out.later HB.out) (tab_later HT.out HB.out)).mono ?_; rintro e w1 ⟨rfl, hb1⟩; rw [H1.out])
    go_ret
    exact ⟨ret_str HE.out, below_then HB.out hb1⟩
  · have HE := hideB2 (show wmsgB ⟨me, ta, st, re, ba, fs, bo⟩ = headB ⟨me, ta, st, re, ba, fs, bo⟩ ++ bo by unfold wmsgB; rw [h1]; rfl)
    have H1 := hideB2 h1
    obtain ⟨hq, hz1, hz2⟩ := msgQ_sizes h1
    have HX := hideB2 (fun W h h' => headText_any me ta re bo st ba fa fn fc fs W h HN.out hq hme hta hre hbo h')
    clear h1 hq
    generalize hW : wmsgB ⟨me, ta, st, re, ba, fs, bo⟩ = WB at *
    clear hW
    generalize headB ⟨me, ta, st, re, ba, fs, bo⟩ = H at *
    go_enter Tryz.func105, Tryz.ntmps105
    go_wp2_with fail
    refine (HM.out _ (HV.out.later HB.out) (tab_later HT.out HB.out)).mono ?_
    rintro e w1 ⟨rfl, hb1⟩
    rw [H1.out]
    have HB1 := hideB2 (below_then HB.out hb1)
    have A2 := hideB2 (A1.out.later hb1)
    obtain ⟨p0, p1, p2, p3, p4, p5, p6⟩ := A2.out.c7
    have HV1 := hideB2 (HV.out.later HB1.out)
    have HT1 := hideB2 (tab_later HT.out HB1.out)
    clear hb1 A1 HB HV HT
    go_wp2
    go_cut [2] (fun c wc => c = .string WB ∧ Below w1.heap.size w1 wc)
    case first =>
      go_region_with (go_at_call 142; refine (HX.out _ (HV1.out.later (by first | exact Below.refl _ _ | exact (Below.refl _ _).drew)) (tab_later HT1.out (by first | exact Below.refl _ _ | exact (Below.refl _ _).drew))).mono ?_; rintro e w3 ⟨rfl, hb3⟩; obtain ⟨r0, r1, r2, r3, r4, r5, r6⟩ := (A2.out.drew.later hb3).c7)
      all_goals
        go_wp2_with fail
        go_meet
        refine ⟨?_, ?_⟩
        · rw [HE.out]
        · exact below_then (Below.refl _ _).drew hb3
    case rest =>
      obtain ⟨rfl, hb3⟩ := hcut
      go_wp2
      go_ret
      exact ⟨rfl, below_then HB1.out hb3⟩
end Go.Proofs.YthdgeepedofleaaGreatDoor
namespace Go.Proofs.YthdgeepedofleaaGreatDoor
set_option linter.unusedVariables false
set_option linter.unusedSimpArgs false
open Go.RowKit
set_option maxHeartbeats 400000 in
theorem l6bare_any (n : Int) (w : World) :
    Calls Tryz.prog 107 #[.int .i64 n] w fun e w' => e = .returned (.bool (bareSt n)) ∧ w' = w := by
  cases h : (n == 204)
  · rw [show bareSt n = (n == 304) by simp [bareSt, h]]
    go_enter Tryz.func107, Tryz.ntmps107
    go_wp2
    go_ret
    exact ⟨rfl, rfl⟩
  · rw [show bareSt n = true by simp [bareSt, h]]
    go_enter Tryz.func107, Tryz.ntmps107
    go_wp2
    go_ret
    exact ⟨rfl, rfl⟩
set_option maxHeartbeats 2000000 in
theorem l6framed_any (v : Value) (l : List Fd) (w : World) (hv : SlF w v l) (hl : l.length ≤ 20) (hn : ∀ j, j < l.length → (fdAt l j).1.size ≤ 40) :
    Calls Tryz.prog 131 #[v] w fun e w' => e = .returned (.bool (frmL l)) ∧ Below w.heap.size w w' := by
  obtain ⟨a, c0, rfl⟩ := hv.form
  have HV := hideB2 hv
  have HNM := hideB2 hn
  have HY := hideB2 (fun k (hk : k < l.length) h => frmL_yes (l := l) hk h)
  have HO := hideB2 (fun h => frmL_no (l := l) h)
  clear hv hn
  generalize frmL l = R at *
  generalize hm : l.length = m at *
  have HM := hideB2 hm
  clear hm
  go_enter Tryz.func131, Tryz.ntmps131
  go_wp2
  go_loopw [3] (fun i wr => ∃ k : Nat, k ≤ m ∧ i = .int .i64 k ∧ (∀ j, j < k → frmN (fdAt l j).1 = false) ∧ Below w.heap.size w wr) (fun i _ => m - (intOf i).toNat)
  case atStart => exact ⟨0, Nat.zero_le _, rfl, fun j hj => absurd hj (by omega), Below.refl _ _⟩
  case round =>
    obtain ⟨k, hk, rfl, hall, hb⟩ := hrel
    by_cases hlt : k < m
    · have hklt : k < l.length := by rw [HM.out]; exact hlt
      obtain ⟨b, rfl, hr⟩ := HV.out.row (by omega)
      have p0 := (hr.keep hb).dat k hklt
      have hsz := HNM.out k hlt
      have HYK := hideB2 (HY.out k hlt)
      have HALL := hideB2 hall
      have HBW := hideB2 hb
      clear hr hall hb HY
      generalize hx : fdAt l k = x at *
      have HX := hideB2 hx
      clear hx
      obtain ⟨d, s⟩ := x
      simp only at p0 hsz HYK
      have hd : d.size ≤ maxLen := by unfold maxLen; omega
      have HFold := hideB2 (fun W => sFold_any d W hd)
      clear hsz hd hklt
      have HFE := hideB2 (frmN_eq d)
      generalize foldB d = F at *
      generalize hFN : frmN d = fnd at *
      have HFN := hideB2 hFN
      clear hFN
      cases h1 : (F.toList == [99, 111, 110, 116, 101, 110, 116, 45, 108, 101, 110, 103, 116, 104])
      · cases h2 : (F.toList == [116, 114, 97, 110, 115, 102, 101, 114, 45, 101, 110, 99, 111, 100, 105, 110, 103])
        · cases h3 : (F.toList == [116, 114, 97, 105, 108, 101, 114])
          · rw [h1, h2, h3] at HFE
            go_wp2_with (first | (go_at_call 125; refine (HFold.out _).mono ?_; rintro e w3 ⟨rfl, hb3⟩))
            refine ⟨⟨k + 1, by omega, by go_num, fun j hj => ?_, below_then HBW.out hb3⟩, by simp [intOf]; omega⟩
            by_cases e : j = k
            · subst e; rw [HX.out]; exact HFN.out.trans HFE.out
            · exact HALL.out j (by omega)
          · rw [h1, h2, h3] at HFE
            have HR := hideB2 (HYK.out HFE.out)
            go_wp2_with (first | (go_at_call 125; refine (HFold.out _).mono ?_; rintro e w3 ⟨rfl, hb3⟩))
            go_ret
            exact ⟨ret_bool HR.out, below_then HBW.out hb3⟩
        · rw [h1, h2] at HFE
          have HR := hideB2 (HYK.out HFE.out)
          go_wp2_with (first | (go_at_call 125; refine (HFold.out _).mono ?_; rintro e w3 ⟨rfl, hb3⟩))
          go_ret
          exact ⟨ret_bool HR.out, below_then HBW.out hb3⟩
      · rw [h1] at HFE
        have HR := hideB2 (HYK.out HFE.out)
        go_wp2_with (first | (go_at_call 125; refine (HFold.out _).mono ?_; rintro e w3 ⟨rfl, hb3⟩))
        go_ret
        exact ⟨ret_bool HR.out, below_then HBW.out hb3⟩
    · obtain rfl : k = m := by omega
      have HR := hideB2 (HO.out (fun j hj => hall j hj))
      clear hall
      go_wp2
      go_ret
      exact ⟨ret_bool HR.out, hb⟩

theorem reqQ_spec (m : Mg) : reqQ m = (decide ((m.me.size : Int) ≤ 20) && tokB m.me && decide ((m.ta.size : Int) ≤ 200) && (decide (0 < (m.ta.size : Int)) && allB vis8 m.ta) && (m.st == 0) && eqB m.re ⟨#[]⟩ && !m.ba) := by
  unfold reqQ methQ targQ
  rw [show decide (0 < (m.ta.size : Int)) = decide (1 ≤ (m.ta.size : Int)) from rfl]
  cases tokB m.me <;> cases decide ((m.me.size : Int) ≤ 20) <;> cases decide (1 ≤ (m.ta.size : Int)) <;> cases decide ((m.ta.size : Int) ≤ 200) <;> rfl
set_option maxHeartbeats 4000000 in
theorem l6request_any (me ta re bo : ByteArray) (st : Int) (ba : Bool) (fa : Option Addr) (fn fc : Nat) (fs : List Fd) (w : World) (hme : me.size ≤ maxLen) (hta : ta.size ≤ maxLen) :
    Calls Tryz.prog 132 #[.agg #[.string me, .string ta, .int .i64 st, .string re, .bool ba, .slice fa fn fc, .string bo]] w fun e w' => e = .returned (.bool (reqQ ⟨me, ta, st, re, ba, fs, bo⟩)) ∧ Below w.heap.size w w' := by
  have HB := hideB2 (below_a1 w (.cells #[.string me, .string ta, .int .i64 st, .string re, .bool ba, .slice fa fn fc, .string bo] 50))
  have hme' := hme
  have hta' := hta
  unfold maxLen at hme' hta'
  cases h1 : decide ((me.size : Int) ≤ 20)
  · skip
    rw [show reqQ ⟨me, ta, st, re, ba, fs, bo⟩ = false by rw [reqQ_spec]; simp only [h1, Bool.false_and]]
    go_enter Tryz.func132, Tryz.ntmps132
    go_wp2_with (first | (go_at_call 173; refine (sToken_any _ _ hme).mono ?_; rintro e w' ⟨rfl, rfl⟩; rw [h2]) | (go_at_call 123; refine (l6visible_any _ _ hta).mono ?_; rintro e w' ⟨rfl, rfl⟩; rw [h4]))
    go_ret
    exact ⟨rfl, HB.out⟩
  · cases h2 : tokB me
    · skip
      rw [show reqQ ⟨me, ta, st, re, ba, fs, bo⟩ = false by rw [reqQ_spec]; simp only [h2, Bool.false_and, Bool.and_false]]
      go_enter Tryz.func132, Tryz.ntmps132
      go_wp2_with (first | (go_at_call 173; refine (sToken_any _ _ hme).mono ?_; rintro e w' ⟨rfl, rfl⟩; rw [h2]) | (go_at_call 123; refine (l6visible_any _ _ hta).mono ?_; rintro e w' ⟨rfl, rfl⟩; rw [h4]))
      go_ret
      exact ⟨rfl, HB.out⟩
    · cases h3 : decide ((ta.size : Int) ≤ 200)
      · skip
        rw [show reqQ ⟨me, ta, st, re, ba, fs, bo⟩ = false by rw [reqQ_spec]; simp only [h3, Bool.false_and, Bool.and_false]]
        go_enter Tryz.func132, Tryz.ntmps132
        go_wp2_with (first | (go_at_call 173; refine (sToken_any _ _ hme).mono ?_; rintro e w' ⟨rfl, rfl⟩; rw [h2]) | (go_at_call 123; refine (l6visible_any _ _ hta).mono ?_; rintro e w' ⟨rfl, rfl⟩; rw [h4]))
        go_ret
        exact ⟨rfl, HB.out⟩
      · cases h4 : (decide (0 < (ta.size : Int)) && allB vis8 ta)
        · skip
          rw [show reqQ ⟨me, ta, st, re, ba, fs, bo⟩ = false by rw [reqQ_spec]; simp only [h4, Bool.false_and, Bool.and_false]]
          go_enter Tryz.func132, Tryz.ntmps132
          go_wp2_with (first | (go_at_call 173; refine (sToken_any _ _ hme).mono ?_; rintro e w' ⟨rfl, rfl⟩; rw [h2]) | (go_at_call 123; refine (l6visible_any _ _ hta).mono ?_; rintro e w' ⟨rfl, rfl⟩; rw [h4]))
          go_ret
          exact ⟨rfl, HB.out⟩
        · cases h5 : (st == 0)
          · skip
            rw [show reqQ ⟨me, ta, st, re, ba, fs, bo⟩ = false by rw [reqQ_spec]; simp only [h5, Bool.false_and, Bool.and_false]]
            go_enter Tryz.func132, Tryz.ntmps132
            go_wp2_with (first | (go_at_call 173; refine (sToken_any _ _ hme).mono ?_; rintro e w' ⟨rfl, rfl⟩; rw [h2]) | (go_at_call 123; refine (l6visible_any _ _ hta).mono ?_; rintro e w' ⟨rfl, rfl⟩; rw [h4]))
            go_ret
            exact ⟨rfl, HB.out⟩
          · cases h6 : eqB re ⟨#[]⟩
            · skip
              rw [show reqQ ⟨me, ta, st, re, ba, fs, bo⟩ = false by rw [reqQ_spec]; simp only [h6, Bool.false_and, Bool.and_false]]
              rw [eqB_nil] at h6
              go_enter Tryz.func132, Tryz.ntmps132
              go_wp2_with (first | (go_at_call 173; refine (sToken_any _ _ hme).mono ?_; rintro e w' ⟨rfl, rfl⟩; rw [h2]) | (go_at_call 123; refine (l6visible_any _ _ hta).mono ?_; rintro e w' ⟨rfl, rfl⟩; rw [h4]))
              go_ret
              exact ⟨rfl, HB.out⟩
            · skip
              rw [show reqQ ⟨me, ta, st, re, ba, fs, bo⟩ = !ba by rw [reqQ_spec]; simp only [h1, h2, h3, h4, h5, h6, Bool.true_and]]
              rw [eqB_nil] at h6
              go_enter Tryz.func132, Tryz.ntmps132
              go_wp2_with (first | (go_at_call 173; refine (sToken_any _ _ hme).mono ?_; rintro e w' ⟨rfl, rfl⟩; rw [h2]) | (go_at_call 123; refine (l6visible_any _ _ hta).mono ?_; rintro e w' ⟨rfl, rfl⟩; rw [h4]))
              go_ret
              exact ⟨rfl, HB.out⟩
theorem ansQ_spec (m : Mg) : ansQ m = (eqB m.ta ⟨#[]⟩ && decide (200 ≤ m.st) && decide (m.st ≤ 599) && decide ((m.re.size : Int) ≤ 40) && plnB m.re) := by
  unfold ansQ stQ
  cases eqB m.ta ⟨#[]⟩ <;> cases decide (200 ≤ m.st) <;> cases decide (m.st ≤ 599) <;> rfl
set_option maxHeartbeats 4000000 in
theorem l6answer_any (me ta re bo : ByteArray) (st : Int) (ba : Bool) (fa : Option Addr) (fn fc : Nat) (fs : List Fd) (w : World) (hre : re.size ≤ maxLen) :
    Calls Tryz.prog 133 #[.agg #[.string me, .string ta, .int .i64 st, .string re, .bool ba, .slice fa fn fc, .string bo]] w fun e w' => e = .returned (.bool (ansQ ⟨me, ta, st, re, ba, fs, bo⟩ && bareQ ⟨me, ta, st, re, ba, fs, bo⟩)) ∧ Below w.heap.size w w' := by
  have HB := hideB2 (below_a1 w (.cells #[.string me, .string ta, .int .i64 st, .string re, .bool ba, .slice fa fn fc, .string bo] 50))
  have hre' := hre
  unfold maxLen at hre'
  cases h1 : eqB ta ⟨#[]⟩
  · skip
    rw [show (ansQ ⟨me, ta, st, re, ba, fs, bo⟩ && bareQ ⟨me, ta, st, re, ba, fs, bo⟩) = false by rw [ansQ_spec]; simp only [h1, Bool.false_and, Bool.and_false]]
    rw [eqB_nil] at h1
    go_enter Tryz.func133, Tryz.ntmps133
    go_wp2_with (first | (go_at_call 174; refine (l5plain_any _ _ hre).mono ?_; rintro e w' ⟨rfl, rfl⟩; rw [h5]) | (go_at_call 107; refine (l6bare_any _ _).mono ?_; rintro e w' ⟨rfl, rfl⟩))
    go_ret
    exact ⟨rfl, HB.out⟩
  · by_cases g2 : st < 200
    · have h2 : decide (200 ≤ st) = false := decide_eq_false (by omega)
      rw [show (ansQ ⟨me, ta, st, re, ba, fs, bo⟩ && bareQ ⟨me, ta, st, re, ba, fs, bo⟩) = false by rw [ansQ_spec]; simp only [h2, Bool.false_and, Bool.and_false]]
      clear h2
      rw [eqB_nil] at h1
      go_enter Tryz.func133, Tryz.ntmps133
      go_wp2_with (first | (go_at_call 174; refine (l5plain_any _ _ hre).mono ?_; rintro e w' ⟨rfl, rfl⟩; rw [h5]) | (go_at_call 107; refine (l6bare_any _ _).mono ?_; rintro e w' ⟨rfl, rfl⟩))
      go_ret
      exact ⟨rfl, HB.out⟩
    · by_cases g3 : 599 < st
      · have h3 : decide (st ≤ 599) = false := decide_eq_false (by omega)
        rw [show (ansQ ⟨me, ta, st, re, ba, fs, bo⟩ && bareQ ⟨me, ta, st, re, ba, fs, bo⟩) = false by rw [ansQ_spec]; simp only [h3, Bool.false_and, Bool.and_false]]
        clear h3
        have d2 : decide (st < 200) = false := decide_eq_false g2
        rw [eqB_nil] at h1
        go_enter Tryz.func133, Tryz.ntmps133
        go_wp2_with (first | (go_at_call 174; refine (l5plain_any _ _ hre).mono ?_; rintro e w' ⟨rfl, rfl⟩; rw [h5]) | (go_at_call 107; refine (l6bare_any _ _).mono ?_; rintro e w' ⟨rfl, rfl⟩))
        go_ret
        exact ⟨rfl, HB.out⟩
      · by_cases g4 : (40 : Int) < (re.size : Int)
        · have h4 : decide ((re.size : Int) ≤ 40) = false := decide_eq_false (by omega)
          rw [show (ansQ ⟨me, ta, st, re, ba, fs, bo⟩ && bareQ ⟨me, ta, st, re, ba, fs, bo⟩) = false by rw [ansQ_spec]; simp only [h4, Bool.false_and, Bool.and_false]]
          clear h4
          have d2 : decide (st < 200) = false := decide_eq_false g2
          have d3 : decide (599 < st) = false := decide_eq_false g3
          rw [eqB_nil] at h1
          go_enter Tryz.func133, Tryz.ntmps133
          go_wp2_with (first | (go_at_call 174; refine (l5plain_any _ _ hre).mono ?_; rintro e w' ⟨rfl, rfl⟩; rw [h5]) | (go_at_call 107; refine (l6bare_any _ _).mono ?_; rintro e w' ⟨rfl, rfl⟩))
          go_ret
          exact ⟨rfl, HB.out⟩
        · cases h5 : plnB re
          · skip
            rw [show (ansQ ⟨me, ta, st, re, ba, fs, bo⟩ && bareQ ⟨me, ta, st, re, ba, fs, bo⟩) = false by rw [ansQ_spec]; simp only [h5, Bool.false_and, Bool.and_false]]
            have d2 : decide (st < 200) = false := decide_eq_false g2
            have d3 : decide (599 < st) = false := decide_eq_false g3
            have d4 : decide ((40 : Int) < (re.size : Int)) = false := decide_eq_false g4
            rw [eqB_nil] at h1
            go_enter Tryz.func133, Tryz.ntmps133
            go_wp2_with (first | (go_at_call 174; refine (l5plain_any _ _ hre).mono ?_; rintro e w' ⟨rfl, rfl⟩; rw [h5]) | (go_at_call 107; refine (l6bare_any _ _).mono ?_; rintro e w' ⟨rfl, rfl⟩))
            go_ret
            exact ⟨rfl, HB.out⟩
          · have hA : ansQ ⟨me, ta, st, re, ba, fs, bo⟩ = true := by rw [ansQ_spec]; simp only [h1, h5]; simp; omega
            cases ba
            · rw [hA, show bareQ ⟨me, ta, st, re, false, fs, bo⟩ = !bareSt st from rfl, Bool.true_and]
              clear hA
              have d2 : decide (st < 200) = false := decide_eq_false g2
              have d3 : decide (599 < st) = false := decide_eq_false g3
              have d4 : decide ((40 : Int) < (re.size : Int)) = false := decide_eq_false g4
              rw [eqB_nil] at h1
              go_enter Tryz.func133, Tryz.ntmps133
              go_wp2_with (first | (go_at_call 174; refine (l5plain_any _ _ hre).mono ?_; rintro e w' ⟨rfl, rfl⟩; rw [h5]) | (go_at_call 107; refine (l6bare_any _ _).mono ?_; rintro e w' ⟨rfl, rfl⟩))
              go_ret
              exact ⟨rfl, HB.out⟩
            · rw [hA, show bareQ ⟨me, ta, st, re, true, fs, bo⟩ = eqB bo ⟨#[]⟩ from rfl, Bool.true_and]
              clear hA
              have d2 : decide (st < 200) = false := decide_eq_false g2
              have d3 : decide (599 < st) = false := decide_eq_false g3
              have d4 : decide ((40 : Int) < (re.size : Int)) = false := decide_eq_false g4
              rw [eqB_nil] at h1
              cases h6 : eqB bo ⟨#[]⟩
              · rw [eqB_nil] at h6
                go_enter Tryz.func133, Tryz.ntmps133
                go_wp2_with (first | (go_at_call 174; refine (l5plain_any _ _ hre).mono ?_; rintro e w' ⟨rfl, rfl⟩; rw [h5]) | (go_at_call 107; refine (l6bare_any _ _).mono ?_; rintro e w' ⟨rfl, rfl⟩))
                go_ret
                exact ⟨rfl, HB.out⟩
              · rw [eqB_nil] at h6
                go_enter Tryz.func133, Tryz.ntmps133
                go_wp2_with (first | (go_at_call 174; refine (l5plain_any _ _ hre).mono ?_; rintro e w' ⟨rfl, rfl⟩; rw [h5]) | (go_at_call 107; refine (l6bare_any _ _).mono ?_; rintro e w' ⟨rfl, rfl⟩))
                go_ret
                exact ⟨rfl, HB.out⟩
end Go.Proofs.YthdgeepedofleaaGreatDoor
namespace Go.Proofs.YthdgeepedofleaaGreatDoor
set_option linter.unusedVariables false
set_option linter.unusedSimpArgs false
open Go.RowKit
theorem aheadN_of {s : ByteArray} {k : Nat} (hk : k ≤ s.size) (hall : ∀ j, j < k → at8 s j ≠ 32) (hend : k = s.size ∨ at8 s k = 32) : aheadN s = k := by
  unfold aheadN
  rcases idxW_cases s with h | ⟨i, h, hi⟩
  · rw [if_pos h]
    rcases hend with h1 | h1
    · exact h1.symm
    · rcases Nat.lt_or_ge k s.size with h2 | h2
      · exact absurd h1 (idxW_none h k h2)
      · omega
  · rw [if_neg (by omega), h, Int.toNat_natCast]
    obtain ⟨h1, h2, h3⟩ := idxW_some h
    rcases Nat.lt_trichotomy k i with h4 | h4 | h4
    · rcases hend with h5 | h5
      · omega
      · exact absurd h5 (h3 k h4)
    · exact h4.symm
    · exact absurd h2 (hall i h4)
theorem eqB_verW {s : ByteArray} : (s.toList == [32, 72, 84, 84, 80, 47, 49, 46, 49]) = decide (s = verW) := by
  have h : eqB s verW = (s.toList == [32, 72, 84, 84, 80, 47, 49, 46, 49]) := by unfold eqB; rw [ByteArray.toList_eq verW]; rfl
  rw [← h]
  cases hh : decide (s = verW)
  · have := of_decide_eq_false hh
    cases he : eqB s verW
    · rfl
    · exact absurd (eqB_iff.1 he) this
  · exact eqB_iff.2 (of_decide_eq_true hh)
theorem eqB_verV {s : ByteArray} : (s.toList == [72, 84, 84, 80, 47, 49, 46, 49, 32]) = decide (s = verV) := by
  have h : eqB s verV = (s.toList == [72, 84, 84, 80, 47, 49, 46, 49, 32]) := by unfold eqB; rw [ByteArray.toList_eq verV]; rfl
  rw [← h]
  cases hh : decide (s = verV)
  · have := of_decide_eq_false hh
    cases he : eqB s verV
    · rfl
    · exact absurd (eqB_iff.1 he) this
  · exact eqB_iff.2 (of_decide_eq_true hh)
/-- A first line, read: the parts and whether it is one. -/
def fsPost (X : Option Fl) (e : Ending) : Prop :=
  ∃ a b n r, e = .returned (.tuple #[.agg #[.string a, .string b, .int .i64 n, .string r, .bool false, .slice none 0 0, .string ⟨#[]⟩], .bool X.isSome]) ∧ ∀ x, X = some x → x = (a, b, n, r)
theorem rq_short {s : ByteArray} (h : ¬ aheadN s + 11 ≤ s.size) : rqO s = none := by unfold rqO; rw [if_neg (by intro h1; exact h h1.1)]
theorem rq_ver {s : ByteArray} (h : ¬ s.extract (s.size - 9) s.size = verW) : rqO s = none := by unfold rqO; rw [if_neg (by intro h1; exact h h1.2.1)]
theorem rq_no {s : ByteArray} (h : reqQ (rqM (s.extract 0 (aheadN s)) (s.extract (aheadN s + 1) (s.size - 9))) = false) : rqO s = none := by unfold rqO; rw [if_neg (by intro h1; rw [h] at h1; exact absurd h1.2.2 (by simp))]
theorem rq_yes {s : ByteArray} (h1 : aheadN s + 11 ≤ s.size) (h2 : s.extract (s.size - 9) s.size = verW) (h : reqQ (rqM (s.extract 0 (aheadN s)) (s.extract (aheadN s + 1) (s.size - 9))) = true) : rqO s = some (s.extract 0 (aheadN s), s.extract (aheadN s + 1) (s.size - 9)) := by unfold rqO; rw [if_pos ⟨h1, h2, h⟩]
set_option maxRecDepth 100000 in
set_option maxHeartbeats 4000000 in
theorem l6first_any (s : ByteArray) (w : World) (hs : s.size ≤ 1048576) :
    Calls Tryz.prog 159 #[.string s] w fun e w' => fsPost ((rqO s).map fun x => (x.1, x.2, 0, ⟨#[]⟩)) e ∧ Below w.heap.size w w' := by
  have HB := hideB2 (below_a1 w (.cells #[.string ⟨#[]⟩, .string ⟨#[]⟩, .int .i64 0, .string ⟨#[]⟩, .bool false, .slice none 0 0, .string ⟨#[]⟩] 50))
  have A1 := Blk.new w #[.string ⟨#[]⟩, .string ⟨#[]⟩, .int .i64 0, .string ⟨#[]⟩, .bool false, .slice none 0 0, .string ⟨#[]⟩] 50
  have HSH := hideB2 (fun h => rq_short (s := s) h)
  have HVR := hideB2 (fun h => rq_ver (s := s) h)
  have HNO := hideB2 (fun h => rq_no (s := s) h)
  have HYS := hideB2 (fun h1 h2 h => rq_yes (s := s) h1 h2 h)
  have HAH := hideB2 (fun k (hk : k ≤ s.size) h1 h2 => aheadN_of (s := s) (k := k) hk h1 h2)
  generalize rqO s = X at *
  generalize aheadN s = A at *
  go_enter Tryz.func159, Tryz.ntmps159
  go_wp2
  generalize hW : w.alloc (.cells #[.string ⟨#[]⟩, .string ⟨#[]⟩, .int .i64 0, .string ⟨#[]⟩, .bool false, .slice none 0 0, .string ⟨#[]⟩] 50) = W1 at *
  clear hW
  obtain ⟨a0, a1, a2, a3, a4, a5, a6⟩ := A1.c7
  obtain ⟨f0, f1, f2, f3, f4, f5, f6⟩ := A1.f7
  have HA := hideB2 A1
  have hlt0 := A1.lt
  clear A1
  go_loop [4] (fun i => ∃ k : Nat, k ≤ s.size ∧ i = .int .i64 k ∧ ∀ j, j < k → at8 s j ≠ 32) (fun i => s.size - (intOf i).toNat)
  case atStart => exact ⟨0, Nat.zero_le _, rfl, fun j hj => by omega⟩
  case round =>
    obtain ⟨k, hk, rfl, hall⟩ := hrel
    have Hall := hideB2 hall
    clear hall
    by_cases hgo : k < s.size ∧ at8 s k ≠ 32
    · obtain ⟨hlt, h32⟩ := hgo
      have hat : (s[k].toNat : Int) = ((at8 s k).toNat : Int) := by rw [at8_eq s k hlt]
      have g32 : ((s[k].toNat : Int) != 32) = true := by
        have : ¬ (at8 s k).toNat = 32 := fun h => h32 (UInt8.toNat_inj.1 h)
        rw [hat]; simp; omega
      have Hn := hideB2 h32
      clear hat h32
      go_wp2
      go_round
      case rel => exact ⟨k + 1, by omega, by go_num, fun j hj => by
        rcases Nat.lt_or_ge j k with h | h
        · exact Hall.out j h
        · obtain rfl : j = k := by omega
          exact Hn.out⟩
      case measure => simp [intOf]; omega
    · have hA : A = k := HAH.out k hk Hall.out (by
        rcases Nat.lt_or_ge k s.size with h | h
        · right
          by_cases h2 : at8 s k = 32
          · exact h2
          · exact absurd ⟨h, h2⟩ hgo
        · left; omega)
      subst hA
      clear Hall HAH
      by_cases hsh : (s.size : Int) < (A : Int) + 11
      · obtain rfl : X = none := HSH.out (by omega)
        clear HSH HVR HNO HYS
        have hz7 := HA.out.set7 (.string ⟨#[]⟩) (.string ⟨#[]⟩) (.int .i64 0) (.string ⟨#[]⟩) (.bool false) (.slice none 0 0) (.string ⟨#[]⟩)
        have hb7 := below_set7 HB.out (Nat.le_refl _) (.string ⟨#[]⟩) (.string ⟨#[]⟩) (.int .i64 0) (.string ⟨#[]⟩) (.bool false) (.slice none 0 0) (.string ⟨#[]⟩)
        by_cases hlt : A < s.size
        · have g32 : ((s[A].toNat : Int) != 32) = false := by
            have h2 : at8 s A = 32 := by
              by_cases h2 : at8 s A = 32
              · exact h2
              · exact absurd ⟨hlt, h2⟩ hgo
            have hat : s[A] = at8 s A := at8_eq s A hlt
            rw [hat, h2]; rfl
          clear hgo
          go_wp2
          refine bodyPost_ret (results_cellT rfl _ _ _ rfl hz7 Tryz.underlying50 Tryz.infoMsg) rfl ⟨⟨⟨#[]⟩, ⟨#[]⟩, 0, ⟨#[]⟩, rfl, fun x hx => by cases hx⟩, hb7⟩
        · clear hgo
          go_wp2
          refine bodyPost_ret (results_cellT rfl _ _ _ rfl hz7 Tryz.underlying50 Tryz.infoMsg) rfl ⟨⟨⟨#[]⟩, ⟨#[]⟩, 0, ⟨#[]⟩, rfl, fun x hx => by cases hx⟩, hb7⟩
      · have dsh : decide ((s.size : Int) < (A : Int) + 11) = false := decide_eq_false hsh
        have hlt : A < s.size := by omega
        have g32 : ((s[A].toNat : Int) != 32) = false := by
          have h2 : at8 s A = 32 := by
            by_cases h2 : at8 s A = 32
            · exact h2
            · exact absurd ⟨hlt, h2⟩ hgo
          have hat : s[A] = at8 s A := at8_eq s A hlt
          rw [hat, h2]; rfl
        have hev := eqB_verW (s := s.extract (s.size - 9) s.size)
        have h9 : (s.size : Int) - 9 = ((s.size - 9 : Nat) : Int) := by omega
        have h9' : s.size - 9 ≤ s.size := by omega
        have h9a : A + 1 ≤ s.size - 9 := by omega
        clear hgo
        by_cases hv : s.extract (s.size - 9) s.size = verW
        · rw [decide_eq_true hv] at hev
          have HX : Hid (X = if reqQ (rqM (s.extract 0 A) (s.extract (A + 1) (s.size - 9))) = true then some (s.extract 0 A, s.extract (A + 1) (s.size - 9)) else none) := by
            show X = _
            cases hq : reqQ (rqM (s.extract 0 A) (s.extract (A + 1) (s.size - 9)))
            · rw [if_neg (by simp)]; exact HNO.out hq
            · rw [if_pos rfl]; exact HYS.out (by omega) hv hq
          have HQ := hideB2 (fun W => l6request_any (s.extract 0 A) (s.extract (A + 1) (s.size - 9)) ⟨#[]⟩ ⟨#[]⟩ 0 false none 0 0 [] W (by rw [ByteArray.size_extract]; unfold maxLen; omega) (by rw [ByteArray.size_extract]; unfold maxLen; omega))
          clear HSH HVR HNO HYS hv
          go_wp2
          clear hev g32 dsh
          go_big_region
          generalize s.extract 0 A = me at *
          generalize s.extract (A + 1) (s.size - 9) = ta at *
          have hal := below_a1 W1 (.cells #[.string me, .string ta, .int .i64 0, .string ⟨#[]⟩, .bool false, .slice none 0 0, .string ⟨#[]⟩] 50)
          have M2 := (Blk.new W1 #[.string me, .string ta, .int .i64 0, .string ⟨#[]⟩, .bool false, .slice none 0 0, .string ⟨#[]⟩] 50).drew
          have A2 := (HA.out.alloc (.cells #[.string me, .string ta, .int .i64 0, .string ⟨#[]⟩, .bool false, .slice none 0 0, .string ⟨#[]⟩] 50)).drew
          have HB2 := hideB2 (below_then HB.out hal).drew
          go_wp2
          generalize hW : World.drew _ = W2 at *
          clear hW hal HA HB a0 a1 a2 a3 a4 a5 a6 f0 f1 f2 f3 f4 f5 f6 h9 h9' h9a hsh
          generalize W1.heap.size = G at *
          obtain ⟨p0, p1, p2, p3, p4, p5, p6⟩ := M2.c7
          obtain ⟨a0, a1, a2, a3, a4, a5, a6⟩ := A2.c7
          obtain ⟨f0, f1, f2, f3, f4, f5, f6⟩ := A2.f7
          have HM2 := hideB2 M2
          have HA2 := hideB2 A2
          clear M2 A2
          have HFS : Hid (∀ e, e = .returned (.tuple #[.agg #[.string me, .string ta, .int .i64 0, .string ⟨#[]⟩, .bool false, .slice none 0 0, .string ⟨#[]⟩], .bool (reqQ ⟨me, ta, 0, ⟨#[]⟩, false, [], ⟨#[]⟩⟩)]) → fsPost (X.map fun x => (x.1, x.2, 0, ⟨#[]⟩)) e) := by
            show ∀ e, _ → _
            intro e he
            have hx := HX.out
            rw [show reqQ (⟨me, ta, 0, ⟨#[]⟩, false, [], ⟨#[]⟩⟩ : Mg) = reqQ (rqM me ta) from rfl] at he
            cases hq : reqQ (rqM me ta)
            · rw [hq] at hx he
              rw [if_neg (by simp)] at hx
              subst hx
              exact ⟨me, ta, 0, ⟨#[]⟩, he, fun x h => by cases h⟩
            · rw [hq] at hx he
              rw [if_pos rfl] at hx
              subst hx
              exact ⟨me, ta, 0, ⟨#[]⟩, he, fun x h => by cases h; rfl⟩
          go_region_with (go_at_call 132; refine (HQ.out _).mono ?_; rintro e w3 ⟨rfl, hb3⟩; (first | (have hM3 := HM2.out.drew.later hb3; have hA3 := HA2.out.drew.later hb3; obtain ⟨u0, u1, u2, u3, u4, u5, u6⟩ := hM3.c7; obtain ⟨v0, v1, v2, v3, v4, v5, v6⟩ := hA3.c7; obtain ⟨g0, g1, g2, g3, g4, g5, g6⟩ := hA3.f7) | skip))
          all_goals
            go_wp2_with fail
            first
              | exact bodyPost_ret (results_cellT rfl _ _ _ rfl ((HA2.out.drew.later hb3).set7 (.string me) (.string ta) (.int .i64 0) (.string ⟨#[]⟩) (.bool false) (.slice none 0 0) (.string ⟨#[]⟩)) Tryz.underlying50 Tryz.infoMsg) rfl ⟨HFS.out _ rfl, below_set7 (below_then HB2.out.drew hb3) (Nat.le_refl _) (.string me) (.string ta) (.int .i64 0) (.string ⟨#[]⟩) (.bool false) (.slice none 0 0) (.string ⟨#[]⟩)⟩
              | exact bodyPost_ret (results_cellT rfl _ _ _ rfl ((HA2.out.drew.set7 (.string me) (.string ta) (.int .i64 0) (.string ⟨#[]⟩) (.bool false) (.slice none 0 0) (.string ⟨#[]⟩)).later hb3) Tryz.underlying50 Tryz.infoMsg) rfl ⟨HFS.out _ rfl, below_then (below_set7 HB2.out.drew (Nat.le_refl _) (.string me) (.string ta) (.int .i64 0) (.string ⟨#[]⟩) (.bool false) (.slice none 0 0) (.string ⟨#[]⟩)) hb3⟩
        · rw [decide_eq_false hv] at hev
          obtain rfl : X = none := HVR.out hv
          clear HSH HVR HNO HYS
          have hz7 := HA.out.set7 (.string ⟨#[]⟩) (.string ⟨#[]⟩) (.int .i64 0) (.string ⟨#[]⟩) (.bool false) (.slice none 0 0) (.string ⟨#[]⟩)
          have hb7 := below_set7 HB.out (Nat.le_refl _) (.string ⟨#[]⟩) (.string ⟨#[]⟩) (.int .i64 0) (.string ⟨#[]⟩) (.bool false) (.slice none 0 0) (.string ⟨#[]⟩)
          go_wp2
          refine bodyPost_ret (results_cellT rfl _ _ _ rfl hz7 Tryz.underlying50 Tryz.infoMsg) rfl ⟨⟨⟨#[]⟩, ⟨#[]⟩, 0, ⟨#[]⟩, rfl, fun x hx => by cases hx⟩, hb7⟩
end Go.Proofs.YthdgeepedofleaaGreatDoor
