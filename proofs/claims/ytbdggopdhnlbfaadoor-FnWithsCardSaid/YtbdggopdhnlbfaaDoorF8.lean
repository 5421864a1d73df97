/-
  Chapter 5: Without, the specification's side; With, both sides.
-/
import Derived.Test.YtbdggopdhnlbfaaDoorF7
namespace Go.Proofs.YtbdggopdhnlbfaaDoor
set_option linter.unusedVariables false
set_option linter.unusedSimpArgs false
open Go.RowKit Go.Maps
theorem keepN_next (l : List Fd) (n : ByteArray) (k : Nat) (h : k < l.length) : (l.take (k + 1)).filter (fun x => !nameIs n x) = (l.take k).filter (fun x => !nameIs n x) ++ (if nameIs n (fdAt l k) = true then [] else [fdAt l k]) := by
  rw [keepF_next l _ k h]
  cases nameIs n (fdAt l k) <;> simp
set_option maxHeartbeats 2000000 in
theorem sWithout_any (v : Value) (l : List Fd) (n : ByteArray) (w : World) (hv : SlF w v l) (hl : l.length ≤ 1048576) (ht : totF l ≤ 1099511627776) (hn : n.size ≤ maxLen) :
    Calls Tryd.prog 43 #[v, .string n] w fun e w' => ∃ v', e = .returned v' ∧ BufF w w' v' (withoutL l n) := by
  obtain ⟨a, c0, rfl⟩ := hv.form
  cases hq : fieldsQ l
  · have HF := hideB2 (withoutL_no (n := n) hq)
    have HQ := hideB2 hq
    clear hq
    go_enter Tryd.func43, Tryd.ntmps43
    go_wp2_with (go_at_call 77; refine (sFieldsOk_any _ l _ hv hl ht).mono ?_; rintro e w2 ⟨rfl, hb2⟩; rw [HQ.out])
    go_ret
    exact ⟨_, rfl, by rw [HF.out]; exact (BufF.start w).later hb2⟩
  · have HF := hideB2 (show withoutL l n = l.filter (fun x => !nameIs n x) by unfold withoutL; rw [if_pos hq])
    have HQ := hideB2 hq
    have HV := hideB2 hv
    have hl20 := (fieldsQ_iff.1 hq).1
    have HFQ := hideB2 (fun j (hj : j < l.length) => fieldQ_sizes (fieldsQ_at hq hj))
    have HNN := hideB2 hn
    clear hq hl hn
    generalize hm : l.length = m at *
    have HM := hideB2 hm
    clear hm hv
    go_enter Tryd.func43, Tryd.ntmps43
    go_wp2_with (go_at_call 77; refine (sFieldsOk_any _ l _ HV.out (by rw [HM.out]; omega) ht).mono ?_; rintro e w2 ⟨rfl, hb2⟩; rw [HQ.out])
    go_loopw [5, 6] (fun o i wr => ∃ k : Nat, k ≤ m ∧ i = .int .i64 k ∧ BufF w wr o ((l.take k).filter (fun x => !nameIs n x))) (fun _ i _ => m - (intOf i).toNat)
    case atStart => exact ⟨0, Nat.zero_le _, rfl, (BufF.start w).later hb2⟩
    case round =>
      obtain ⟨k, hk, rfl, hbuf⟩ := hrel
      by_cases hlt : k < m
      · have hklt : k < l.length := by rw [HM.out]; exact hlt
        obtain ⟨b, rfl, hr⟩ := HV.out.row (by omega)
        have p0 := (hr.later hbuf.below hr.lt).dat k hklt
        have p1 := (hr.later hbuf.below hr.lt).saf k hklt
        have hsz := HFQ.out k (by rw [HM.out] at hklt; exact hklt)
        have HR := hideB2 (hr.later hbuf.below hr.lt)
        have HKL := hideB2 hklt
        have HNX := hideB2 (keepN_next l n k hklt)
        have hvl : ((l.take k).filter (fun x => !nameIs n x)).length ≤ 20 := by
          have := List.length_filter_le (fun x => !nameIs n x) (l.take k)
          rw [List.length_take] at this; omega
        have HVL := hideB2 hvl
        clear hr hvl hb2
        generalize hx : fdAt l k = x at *
        have HX := hideB2 hx
        clear hx
        obtain ⟨d, s⟩ := x
        simp only at p0 p1 hsz
        have hd : d.size ≤ maxLen := by unfold maxLen; omega
        have HD := hideB2 hd
        clear hsz hd hklt
        generalize (l.take k).filter (fun x => !nameIs n x) = L at *
        cases hc : nameIs n (d, s)
        · have HC := hideB2 (show eqB (foldB d) (foldB n) = false from hc)
          rw [hc] at HNX
          clear hc
          go_wp2_with (first | (go_at_call 81; refine (sSameFold_any d n _ HD.out HNN.out).mono ?_; rintro e w3 ⟨rfl, hb3⟩; rw [HC.out]; have q0 := (HR.out.keep hb3).dat k HKL.out; have q1 := (HR.out.keep hb3).saf k HKL.out; rw [HX.out] at q0 q1; simp only at q0 q1; have hbuf3 := hbuf.later hb3) | (at_builtin; refine wp_fapp rfl (.tmp 24) (.tmp 29) rfl _ _ rfl hbuf3 d s rfl (by have := HVL.out; omega) ?_; intro v2 W2 hbuf4 hgrow4))
          refine ⟨⟨k + 1, by omega, by go_num, ?_⟩, by simp [intOf]; omega⟩
          rw [HNX.out]
          exact hbuf4
        · have HC := hideB2 (show eqB (foldB d) (foldB n) = true from hc)
          rw [hc] at HNX
          clear hc
          go_wp2_with (go_at_call 81; refine (sSameFold_any d n _ HD.out HNN.out).mono ?_; rintro e w3 ⟨rfl, hb3⟩; rw [HC.out])
          refine ⟨⟨k + 1, by omega, by go_num, ?_⟩, by simp [intOf]; omega⟩
          rw [HNX.out]
          have := hbuf.later hb3
          simpa using this
      · obtain rfl : k = m := by omega
        have HE := hideB2 (show (l.take k).filter (fun x => !nameIs n x) = withoutL l n by rw [HF.out, List.take_of_length_le (by rw [HM.out]; exact Nat.le_refl _)])
        rw [HE.out] at hbuf
        clear HE
        go_wp2
        go_ret
        exact ⟨_, rfl, hbuf⟩
theorem withL_no1 {l : List Fd} {f : Fd} (h : fieldsQ l = false) : withL l f = [] := by unfold withL; rw [if_neg (by rw [h]; simp)]
theorem withL_no2 {l : List Fd} {f : Fd} (h : fieldQ f = false) : withL l f = [] := by unfold withL; rw [if_neg (by rw [h]; simp)]
theorem withL_yes {l : List Fd} {f : Fd} (h : fieldsQ l = true) (h2 : fieldQ f = true) : withL l f = if (withoutL l f.1).length < 20 then withoutL l f.1 ++ [f] else [] := by
  unfold withL withoutL
  rw [if_pos h]
  by_cases h3 : (l.filter (fun x => !nameIs f.1 x)).length < 20
  · rw [if_pos ⟨h, h2, h3⟩, if_pos h3]
  · rw [if_neg (fun hh => h3 hh.2.2), if_neg h3]
theorem withoutL_len (l : List Fd) (n : ByteArray) : (withoutL l n).length ≤ 20 := by
  unfold withoutL
  split
  · rename_i h
    exact Nat.le_trans (List.length_filter_le _ _) (fieldsQ_iff.1 h).1
  · simp
theorem withL_len (l : List Fd) (f : Fd) : (withL l f).length ≤ 20 := by
  unfold withL
  split
  · rename_i h
    rw [List.length_append, List.length_singleton]; omega
  · simp
/-- append(x, f) inside a region that draws: f lies in block N. -/
theorem step_fapp {ops : Array Oper} {o : Oper} {a : Act} {W : World} {K : Act → World → Prop} {Q : Exit → Act → World → Prop} {E : Prop} (hgd : o.guard = none) (s x : Operand)
    (ho : o.op = .call { callee := .builtin .append, args := #[s, x], argTypes := #[55, 55] }) (w0 : World) (v : Value) (l : List Fd) (hs : a.eval s = v) (hbuf : BufF w0 W v l) (N : Nat) (d t : ByteArray)
    (hx : a.eval x = .slice (some ⟨N, 0, none⟩) 1 1) (hN : Blk W N #[.string d, .string t] 49) (hlen : l.length ≤ 20)
    (k : ∀ v' W', BufF w0 W' v' (l ++ [(d, t)]) → K (a.put o.dst v') W') :
    if Region.wanted o (yielded ops a.tmps) = true then Oper.wp Tryd.prog o a W K Q else E := by
  obtain ⟨i0, hi, hz0, hz1, hz2⟩ := info_parts Tryd.infoF
  refine step_append_lies W hgd s x 55 ho w0.heap.size 49 i0 _ 2 32 Tryd.underlying55 hi hz0 hz1 hz2 rfl (by decide) v l.length (cellsF l) hs hbuf.own ⟨N, 0, none⟩ 1 1 (cellsF [(d, t)]) hx (by rw [cellsF_len]; rfl) ?_ (cellsF_one _) (by omega) (by unfold maxLen; omega) (by omega) hbuf.below.size _ rfl ?_
  · intro j u hu
    have hj : j < 2 := by have := (List.getElem?_eq_some_iff.1 hu).1; rwa [cellsF_len] at this
    rw [Addr.add_lit, Nat.zero_add, hN.cell j, ← hu]
    rcases j with _ | _ | j
    · rfl
    · rfl
    · omega
  intro g cap w' hown hgrow _ _
  refine k _ w' ⟨?_, ?_⟩
  · refine hbuf.below.grown hgrow hbuf.below.size ?_
    intro j hj
    exact (hbuf.own.lt j hj).1
  · rw [List.length_append, List.length_singleton, cellsF_app]
    exact hown
set_option maxRecDepth 100000 in
set_option maxHeartbeats 4000000 in
theorem With_any (v : Value) (l : List Fd) (d s : ByteArray) (w : World) (hv : SlF w v l) (hl : l.length ≤ 1048576) (ht : totF l ≤ 1099511627776) (hd : d.size ≤ maxLen) (hs : s.size ≤ maxLen) :
    Calls Tryd.prog 36 #[v, .agg #[.string d, .string s]] w fun e w' => ∃ v', e = .returned v' ∧ BufF w w' v' (withL l (d, s)) := by
  have ha := below_a1 w (.cells #[.string d, .string s] 49)
  have A0 := Blk.new w #[.string d, .string s] 49
  have HW := hideB2 (fun W (h : SlF W v l) => Without_any v l d W h hl ht hd)
  have hwl := withoutL_len l d
  obtain ⟨a, c0, rfl⟩ := hv.form
  have HV := hideB2 (hv.later ha)
  have HF := hideB2 (fun W (h : SlF W (.slice a l.length c0) l) => FieldsOk_any (.slice a l.length c0) l W h hl ht)
  have HG := hideB2 (fun W => FieldOk_any d s W hd hs)
  clear hv hd hs ht
  cases hq : fieldsQ l
  · have HE := hideB2 (withL_no1 (f := (d, s)) hq)
    rw [hq] at HF
    clear hq
    go_enter Tryd.func36, Tryd.ntmps36
    go_wp2_with (go_at_call 44; refine (HF.out _ HV.out).mono ?_; rintro e w2 ⟨rfl, hb2⟩)
    go_ret
    exact ⟨_, rfl, by rw [HE.out]; exact (BufF.start w).later (below_then ha hb2)⟩
  · cases hg : fieldQ (d, s)
    · have HE := hideB2 (withL_no2 (l := l) hg)
      rw [hq] at HF
      rw [hg] at HG
      clear hq hg
      go_enter Tryd.func36, Tryd.ntmps36
      go_wp2_with fail
      refine (HF.out _ HV.out).mono ?_
      rintro e w2 ⟨rfl, hb2⟩
      obtain ⟨p0, p1⟩ := (A0.later hb2).c2
      go_wp2_with (go_at_call 67; refine (HG.out _).mono ?_; rintro e w3 ⟨rfl, hb3⟩)
      go_ret
      exact ⟨_, rfl, by rw [HE.out]; exact (BufF.start w).later (below_then (below_then ha hb2) hb3)⟩
    · have HE := hideB2 (withL_yes (f := (d, s)) hq hg)
      rw [hq] at HF
      rw [hg] at HG
      clear hq hg
      generalize withoutL l d = L at *
      go_enter Tryd.func36, Tryd.ntmps36
      go_wp2_with fail
      refine (HF.out _ HV.out).mono ?_
      rintro e w2 ⟨rfl, hb2⟩
      obtain ⟨p0, p1⟩ := (A0.later hb2).c2
      go_wp2_with (go_at_call 67; refine (HG.out _).mono ?_; rintro e w3 ⟨rfl, hb3⟩)
      have A3 := (A0.later hb2).later hb3
      have hbw := below_then (below_then ha hb2) hb3
      have HV3 := hideB2 ((HV.out.later hb2).later hb3)
      clear p0 p1 HF HG HV hb2 hb3 A0 ha
      obtain ⟨p0, p1⟩ := A3.c2
      have ka := fun o => (A3.alloc o).cell 0
      have kb := fun o => (A3.alloc o).cell 1
      have HA := hideB2 A3
      have HB := hideB2 hbw
      clear A3 hbw
      go_cut [5] (fun t wc => BufF w wc t (L ++ [(d, s)]))
      case first =>
        go_region_law (first
          | (refine step_fapp rfl (.tmp 17) (.tmp 19) rfl _ _ _ rfl (by first | exact hbuf0.alloc _ | exact hbuf0) _ d s rfl (by first | exact Blk.new _ _ _ | exact (Blk.new w3 _ _).drew.later hbuf0.below) hwl ?_; intro v5 W5 hbuf5)
          | (go_simp; go_at_call 42; refine (HW.out _ ?_).mono ?_; (first | exact HV3.out.later (Below.refl _ w3).drew | exact HV3.out.later (below_a1 w3 _).drew); rintro e w4 ⟨v4, rfl, hbuf0⟩; (have hu : w4.cell? ⟨w.heap.size, 0, none⟩ = some (.string d) ∧ w4.cell? ⟨w.heap.size, 1, none⟩ = some (.string s) := by first | exact (HA.out.drew.later hbuf0.below).c2 | exact ((HA.out.alloc _).drew.later hbuf0.below).c2); obtain ⟨u0, u1⟩ := hu; simp only []))
        all_goals
          go_wp2_with fail
          go_meet
          first | exact hbuf5.base (below_then HB.out (Below.refl _ w3).drew) | exact hbuf5.base (below_then HB.out (below_a1 w3 _).drew)
      case rest =>
        have hbuf := hcut
        obtain ⟨a5, c5, rfl⟩ := hbuf.form
        by_cases h20 : L.length < 20
        · have HE2 := hideB2 (HE.out.trans (if_pos h20))
          have HBF := hideB2 hbuf
          rw [List.length_append, List.length_singleton]
          clear hcut hbuf HE
          go_wp2
          go_ret
          exact ⟨_, rfl, by rw [HE2.out]; have := HBF.out; rw [List.length_append, List.length_singleton] at this; exact this⟩
        · have HE2 := hideB2 (HE.out.trans (if_neg h20))
          have HBB := hideB2 hbuf.below
          rw [List.length_append, List.length_singleton]
          clear hcut hbuf HE
          go_wp2
          go_ret
          exact ⟨_, rfl, by rw [HE2.out]; exact (BufF.start w).later HBB.out⟩
set_option maxRecDepth 100000 in
set_option maxHeartbeats 4000000 in
theorem sWith_any (v : Value) (l : List Fd) (d s : ByteArray) (w : World) (hv : SlF w v l) (hl : l.length ≤ 1048576) (ht : totF l ≤ 1099511627776) (hd : d.size ≤ maxLen) (hs : s.size ≤ maxLen) :
    Calls Tryd.prog 37 #[v, .agg #[.string d, .string s]] w fun e w' => ∃ v', e = .returned v' ∧ BufF w w' v' (withL l (d, s)) := by
  have ha := below_a1 w (.cells #[.string d, .string s] 49)
  have A0 := Blk.new w #[.string d, .string s] 49
  have HW := hideB2 (fun W (h : SlF W v l) => sWithout_any v l d W h hl ht hd)
  have hwl := withoutL_len l d
  obtain ⟨a, c0, rfl⟩ := hv.form
  have HV := hideB2 (hv.later ha)
  have HF := hideB2 (fun W (h : SlF W (.slice a l.length c0) l) => sFieldsOk_any (.slice a l.length c0) l W h hl ht)
  have HG := hideB2 (fun W => sFieldOk_any d s W hd hs)
  clear hv hd hs ht
  cases hq : fieldsQ l
  · have HE := hideB2 (withL_no1 (f := (d, s)) hq)
    rw [hq] at HF
    clear hq
    go_enter Tryd.func37, Tryd.ntmps37
    go_wp2_with (go_at_call 77; refine (HF.out _ HV.out).mono ?_; rintro e w2 ⟨rfl, hb2⟩)
    go_ret
    exact ⟨_, rfl, by rw [HE.out]; exact (BufF.start w).later (below_then ha hb2)⟩
  · cases hg : fieldQ (d, s)
    · have HE := hideB2 (withL_no2 (l := l) hg)
      rw [hq] at HF
      rw [hg] at HG
      clear hq hg
      go_enter Tryd.func37, Tryd.ntmps37
      go_wp2_with fail
      refine (HF.out _ HV.out).mono ?_
      rintro e w2 ⟨rfl, hb2⟩
      obtain ⟨p0, p1⟩ := (A0.later hb2).c2
      go_wp2_with (go_at_call 32; refine (HG.out _).mono ?_; rintro e w3 ⟨rfl, hb3⟩)
      go_ret
      exact ⟨_, rfl, by rw [HE.out]; exact (BufF.start w).later (below_then (below_then ha hb2) hb3)⟩
    · have HE := hideB2 (withL_yes (f := (d, s)) hq hg)
      rw [hq] at HF
      rw [hg] at HG
      clear hq hg
      generalize withoutL l d = L at *
      go_enter Tryd.func37, Tryd.ntmps37
      go_wp2_with fail
      refine (HF.out _ HV.out).mono ?_
      rintro e w2 ⟨rfl, hb2⟩
      obtain ⟨p0, p1⟩ := (A0.later hb2).c2
      go_wp2_with (go_at_call 32; refine (HG.out _).mono ?_; rintro e w3 ⟨rfl, hb3⟩)
      have A3 := (A0.later hb2).later hb3
      have hbw := below_then (below_then ha hb2) hb3
      have HV3 := hideB2 ((HV.out.later hb2).later hb3)
      clear p0 p1 HF HG HV hb2 hb3 A0 ha
      obtain ⟨p0, p1⟩ := A3.c2
      have ka := fun o => (A3.alloc o).cell 0
      have kb := fun o => (A3.alloc o).cell 1
      have HA := hideB2 A3
      have HB := hideB2 hbw
      clear A3 hbw
      go_cut [5] (fun t wc => BufF w wc t (L ++ [(d, s)]))
      case first =>
        go_region_law (first
          | (refine step_fapp rfl (.tmp 17) (.tmp 19) rfl _ _ _ rfl (by first | exact hbuf0.alloc _ | exact hbuf0) _ d s rfl (by first | exact Blk.new _ _ _ | exact (Blk.new w3 _ _).drew.later hbuf0.below) hwl ?_; intro v5 W5 hbuf5)
          | (go_simp; go_at_call 43; refine (HW.out _ ?_).mono ?_; (first | exact HV3.out.later (Below.refl _ w3).drew | exact HV3.out.later (below_a1 w3 _).drew); rintro e w4 ⟨v4, rfl, hbuf0⟩; (have hu : w4.cell? ⟨w.heap.size, 0, none⟩ = some (.string d) ∧ w4.cell? ⟨w.heap.size, 1, none⟩ = some (.string s) := by first | exact (HA.out.drew.later hbuf0.below).c2 | exact ((HA.out.alloc _).drew.later hbuf0.below).c2); obtain ⟨u0, u1⟩ := hu; simp only []))
        all_goals
          go_wp2_with fail
          go_meet
          first | exact hbuf5.base (below_then HB.out (Below.refl _ w3).drew) | exact hbuf5.base (below_then HB.out (below_a1 w3 _).drew)
      case rest =>
        have hbuf := hcut
        obtain ⟨a5, c5, rfl⟩ := hbuf.form
        by_cases h20 : L.length < 20
        · have HE2 := hideB2 (HE.out.trans (if_pos h20))
          have HBF := hideB2 hbuf
          rw [List.length_append, List.length_singleton]
          clear hcut hbuf HE
          go_wp2
          go_ret
          exact ⟨_, rfl, by rw [HE2.out]; have := HBF.out; rw [List.length_append, List.length_singleton] at this; exact this⟩
        · have HE2 := hideB2 (HE.out.trans (if_neg h20))
          have HBB := hideB2 hbuf.below
          rw [List.length_append, List.length_singleton]
          clear hcut hbuf HE
          go_wp2
          go_ret
          exact ⟨_, rfl, by rw [HE2.out]; exact (BufF.start w).later HBB.out⟩
end Go.Proofs.YtbdggopdhnlbfaaDoor
