/-
  Chapter 5: those that do not have a name; one put in. Both sides.
-/
import Derived.Test.YtbdggopdhnlbfaaDoorF6
import Derived.Deep.AppendLies
import Derived.Deep.DeepCutAuto
namespace Go.Proofs.YtbdggopdhnlbfaaDoor
set_option linter.unusedVariables false
set_option linter.unusedSimpArgs false
open Go.RowKit Go.Maps
/-- Is the text among these? -/
def inNl (ns : List ByteArray) (s : ByteArray) : Bool := ns.any fun t => s.data.toList == t.data.toList
def elseL (l : List Fd) (ns : List ByteArray) : List Fd := l.filter fun x => !inNl ns (foldB x.1)
theorem elseL_one (l : List Fd) (n : ByteArray) : elseL l [foldB n] = l.filter fun x => !nameIs n x := by
  unfold elseL
  congr 1
  funext x
  simp [inNl, nameIs, eqB, ByteArray.toList_eq]
theorem withoutL_yes {l : List Fd} {n : ByteArray} (h : fieldsQ l = true) : withoutL l n = elseL l [foldB n] := by unfold withoutL; rw [if_pos h, elseL_one]
theorem withoutL_no {l : List Fd} {n : ByteArray} (h : fieldsQ l = false) : withoutL l n = [] := by unfold withoutL; rw [h]; rfl
theorem elseL_next (l : List Fd) (ns : List ByteArray) (k : Nat) (h : k < l.length) : elseL (l.take (k + 1)) ns = elseL (l.take k) ns ++ (if inNl ns (foldB (fdAt l k).1) = true then [] else [fdAt l k]) := by
  unfold elseL
  rw [keepF_next l _ k h]
  cases inNl ns (foldB (fdAt l k).1) <;> simp
theorem elseL_len (l : List Fd) (ns : List ByteArray) : (elseL l ns).length ≤ l.length := List.length_filter_le _ _
def leftP (l : List Fd) (ns : List ByteArray) (s : List UInt8) : Bool := hasNm l s && !(ns.any fun t => s == t.data.toList)
theorem leftP_next (l : List Fd) (ns : List ByteArray) (k : Nat) (h : k < ns.length) (s : List UInt8) : leftP l (ns.take (k + 1)) s = (leftP l (ns.take k) s && !(s == (txAt ns k).data.toList)) := by
  unfold leftP
  rw [List.take_succ_eq_append_getElem h, List.any_append, txAt_get h]
  simp only [List.any_cons, List.any_nil, Bool.or_false, Bool.not_or, Bool.and_assoc]
theorem leftP_at {l : List Fd} {ns : List ByteArray} {x : Fd} (h : x ∈ l) : leftP l ns (foldB x.1).data.toList = !inNl ns (foldB x.1) := by
  unfold leftP inNl
  rw [hasNm_mem h, Bool.true_and]
theorem fdAt_mem {l : List Fd} {k : Nat} (h : k < l.length) : fdAt l k ∈ l := by rw [fdAt_get h]; exact List.getElem_mem h
set_option maxHeartbeats 4000000 in
theorem namedElse_any (v u : Value) (l : List Fd) (ns : List ByteArray) (w : World) (hv : SlF w v l) (hu : SlT w u ns) (hl : l.length ≤ 20) (hn : ∀ j, j < l.length → (fdAt l j).1.size ≤ 40) (hns : ∀ j, j < ns.length → (txAt ns j).size ≤ maxLen) (hnl : ns.length ≤ 1000000) :
    Calls Tryd.prog 79 #[v, u] w fun e w' => ∃ v', e = .returned v' ∧ BufF w w' v' (elseL l ns) := by
  have HNC := hideB2 (nameCounts_any v l w hv hl hn)
  obtain ⟨a, c0, rfl⟩ := hv.form
  obtain ⟨a1, c1, rfl⟩ := hu.form
  have HV := hideB2 hv
  have HU := hideB2 hu
  have HNM := hideB2 hn
  have HNS := hideB2 hns
  clear hv hn hu hns
  generalize hm : l.length = m at *
  have HM := hideB2 hm
  generalize hq : ns.length = q at *
  have HQ := hideB2 hq
  clear hm hq
  go_enter Tryd.func79, Tryd.ntmps79
  go_wp2_with fail
  refine HNC.out.mono ?_
  rintro e w1 ⟨rfl, hc1, hb1⟩
  clear HNC
  generalize hB : w.heap.size = B at *
  have HB := hideB2 hB
  clear hB
  have HC1 := hideB2 hc1
  have HB1 := hideB2 hb1
  clear hc1 hb1
  go_wp2
  go_loopw [15] (fun i wr => ∃ k : Nat, k ≤ q ∧ i = .int .i64 k ∧ Cnt wr B m (leftP l (ns.take k)) ∧ Below B w wr) (fun i _ => q - (intOf i).toNat)
  case atStart => exact ⟨0, Nat.zero_le _, rfl, by
      obtain ⟨D, h1, h2⟩ := HC1.out
      refine ⟨D, h1, fun s => ?_⟩
      obtain ⟨c, g1, g2, g3, g4⟩ := h2 s
      exact ⟨c, g1, g2, g3, by rw [g4]; simp [leftP]⟩, HB1.out⟩
  case round =>
    obtain ⟨k, hk, rfl, hc, hb⟩ := hrel
    clear HC1 HB1
    by_cases hlt : k < q
    · have hklt : k < ns.length := by rw [HQ.out]; exact hlt
      obtain ⟨b, rfl, hr⟩ := HU.out.row (by omega)
      have p0 := (hr.keep (by rw [HB.out]; exact hb)).cell k hklt
      have hsz := HNS.out k hlt
      have HNX := hideB2 (leftP_next l ns k hklt)
      have HBW := hideB2 hb
      obtain ⟨D, hown, hD⟩ := hc
      clear hr hb
      generalize txAt ns k = x at *
      have hkey : keyOf Tryd.prog 9 (.string x) = some (.string x.data.toList) := WideMaps.keyOf_string_mk Tryd.underlying9 hsz
      clear hklt
      go_wp2_with (first
        | (at_delete; refine wpList_delete_own _ rfl _ _ 107 9 rfl 3 Tryd.keyS Tryd.underlying107 _ B m D rfl hown _ _ rfl hkey ?_; intro w4 hown4 hturn4))
      refine ⟨⟨k + 1, by omega, by go_num, ⟨_, hown4, hD.del HNX.out⟩, ?_⟩, by simp [intOf]; omega⟩
      exact HBW.out.grown hturn4.grown (by rw [← HB.out]; exact HBW.out.size) (fun j hj => by cases hj; exact Nat.le_refl _)
    · obtain rfl : k = q := by omega
      have HE := hideB2 (show ns.take k = ns from List.take_of_length_le (by rw [HQ.out]; exact Nat.le_refl _))
      rw [HE.out] at hc
      have HC2 := hideB2 hc
      have HB2 := hideB2 hb
      clear hc hb HE
      go_wp2
      go_loopw [8, 24] (fun o i wq => ∃ k : Nat, k ≤ m ∧ i = .int .i64 k ∧ Cnt wq B m (leftP l ns) ∧ BufF w wq o (elseL (l.take k) ns)) (fun _ i _ => m - (intOf i).toNat)
      case atStart => exact ⟨0, Nat.zero_le _, rfl, HC2.out, (BufF.start w).later (by rw [HB.out]; exact HB2.out)⟩
      case round =>
        obtain ⟨i, hi, rfl, hc, hbuf⟩ := hrel
        clear HC2 HB2
        by_cases hlt2 : i < m
        · have hilt : i < l.length := by rw [HM.out]; exact hlt2
          obtain ⟨b, rfl, hr⟩ := HV.out.row (by omega)
          have p0 := (hr.later hbuf.below hr.lt).dat i hilt
          have p1 := (hr.later hbuf.below hr.lt).saf i hilt
          have hsz := HNM.out i hlt2
          have HNX := hideB2 (elseL_next l ns i hilt)
          have HLP := hideB2 (leftP_at (ns := ns) (fdAt_mem hilt))
          have hvl : (elseL (l.take i) ns).length ≤ 20 := by
            have := elseL_len (l.take i) ns
            rw [List.length_take] at this; omega
          have HVL := hideB2 hvl
          have HC := hideB2 (hc.later (below_a1 _ (.cells #[.string (fdAt l i).1, .string (fdAt l i).2] 49)))
          have A1 := hideB2 (Blk.new wr #[.string (fdAt l i).1, .string (fdAt l i).2] 49)
          have Bf := hideB2 (hbuf.alloc (.cells #[.string (fdAt l i).1, .string (fdAt l i).2] 49))
          clear hr hvl hc
          generalize hx : fdAt l i = x at *
          clear hx
          obtain ⟨d, s⟩ := x
          simp only at p0 p1 hsz HLP HC A1 Bf
          have hd : d.size ≤ maxLen := by unfold maxLen; omega
          have hfs : (foldB d).size ≤ maxLen := by rw [foldB_size]; exact hd
          have hkey : keyOf Tryd.prog 9 (.string (foldB d)) = some (.string (foldB d).data.toList) := WideMaps.keyOf_string_mk Tryd.underlying9 hfs
          clear hsz hilt hfs
          cases hin : inNl ns (foldB d)
          · rw [hin] at HNX HLP
            clear hin
            go_wp2_with (first
              | (go_at_call 80; refine (Fold_any d _ hd).mono ?_; rintro e w3 ⟨rfl, hb3⟩; have HC3 := HC.out.later hb3; obtain ⟨D, hown, hD⟩ := HC3; have hbuf3 := Bf.out.later hb3; obtain ⟨q0, q1⟩ := (A1.out.later hb3).c2; generalize foldB d = fd at *)
              | (at_lookup; refine wpList_lookup_own_int _ rfl _ _ 107 rfl 9 3 .i64 Tryd.keyS Tryd.underlying107 Tryd.underlying3 (Tryd.zeroI _) B m D rfl hown _ _ rfl hkey ?_; intro c hat hwc; have hpos : (0 : Int) < c := (hD.at hat).2.2.2 HLP.out)
              | (at_builtin; refine wp_fapp rfl (.tmp 34) (.tmp 36) rfl _ _ rfl hbuf3 d s rfl (by have := HVL.out; omega) ?_; intro v4 W4 hbuf4 hgrow4))
            refine ⟨⟨i + 1, by omega, by go_num, (Cnt.kept (⟨D, hown, hD⟩ : Cnt _ B m (leftP l ns)) hgrow4 (Cnt.ne (⟨D, hown, hD⟩ : Cnt _ B m (leftP l ns)) hbuf3.own)), ?_⟩, by simp [intOf]; omega⟩
            rw [HNX.out]
            exact hbuf4
          · rw [hin] at HNX HLP
            clear hin
            go_wp2_with (first
              | (go_at_call 80; refine (Fold_any d _ hd).mono ?_; rintro e w3 ⟨rfl, hb3⟩; have HC3 := HC.out.later hb3; obtain ⟨D, hown, hD⟩ := HC3; have hbuf3 := Bf.out.later hb3; generalize foldB d = fd at *)
              | (at_lookup; refine wpList_lookup_own_int _ rfl _ _ 107 rfl 9 3 .i64 Tryd.keyS Tryd.underlying107 Tryd.underlying3 (Tryd.zeroI _) B m D rfl hown _ _ rfl hkey ?_; intro c hat hwc; have hpos : ¬ (0 : Int) < c := fun hh => by have := (hD.at hat).2.2.1 hh; rw [HLP.out] at this; cases this))
            refine ⟨⟨i + 1, by omega, by go_num, ⟨D, hown, hD⟩, ?_⟩, by simp [intOf]; omega⟩
            rw [HNX.out]
            simpa using hbuf3
        · obtain rfl : i = m := by omega
          have HE2 := hideB2 (show l.take i = l from List.take_of_length_le (by rw [HM.out]; exact Nat.le_refl _))
          rw [HE2.out] at hbuf
          go_wp2
          go_ret
          exact ⟨_, rfl, hbuf⟩
set_option maxHeartbeats 1000000 in
theorem Without_any (v : Value) (l : List Fd) (n : ByteArray) (w : World) (hv : SlF w v l) (hl : l.length ≤ 1048576) (ht : totF l ≤ 1099511627776) (hn : n.size ≤ maxLen) :
    Calls Tryd.prog 42 #[v, .string n] w fun e w' => ∃ v', e = .returned v' ∧ BufF w w' v' (withoutL l n) := by
  cases hq : fieldsQ l
  · have HF := hideB2 (withoutL_no (n := n) hq)
    have HQ := hideB2 hq
    obtain ⟨a, c0, rfl⟩ := hv.form
    clear hq
    go_enter Tryd.func42, Tryd.ntmps42
    go_wp2_with (go_at_call 44; refine (FieldsOk_any _ l _ hv hl ht).mono ?_; rintro e w2 ⟨rfl, hb2⟩; rw [HQ.out])
    go_ret
    exact ⟨_, rfl, by rw [HF.out]; exact (BufF.start w).later hb2⟩
  · have HF := hideB2 (withoutL_yes (n := n) hq)
    have HQ := hideB2 hq
    have hl20 := (fieldsQ_iff.1 hq).1
    have HFQ := hideB2 (fun j (hj : j < l.length) => (fieldQ_sizes (fieldsQ_at hq hj)).1)
    have HV := hideB2 hv
    obtain ⟨a, c0, rfl⟩ := hv.form
    have hfs : (foldB n).size ≤ maxLen := by rw [foldB_size]; exact hn
    clear hq hv
    go_enter Tryd.func42, Tryd.ntmps42
    go_wp2_with (first | (go_at_call 44; refine (FieldsOk_any _ l _ HV.out hl ht).mono ?_; rintro e w2 ⟨rfl, hb2⟩; rw [HQ.out]) | (go_at_call 80; refine (Fold_any n _ hn).mono ?_; rintro e w3 ⟨rfl, hb3⟩) | fail)
    have hbw := below_then hb2 hb3
    have hw4 := below_a1 w3 (.cells #[.string (foldB n)] 9)
    have N4 := Blk.new w3 #[.string (foldB n)] 9
    refine (namedElse_any _ _ l [foldB n] _ ((HV.out.later hbw).later hw4) (.inr ⟨w3.heap.size, 1, rfl, ⟨fun j hj => by obtain rfl : j = 0 := by simpa using hj
                                                                                                                        exact N4.cell 0, fun j => N4.free j, N4.lt⟩⟩) hl20 HFQ.out (fun j hj => by obtain rfl : j = 0 := by simpa using hj
                                                                                                                                                                                                   exact hfs) (by simp)).mono ?_
    rintro e w5 ⟨v5, rfl, hbuf⟩
    have hres := hbuf.base (below_then hbw hw4)
    rw [← HF.out] at hres
    have HR := hideB2 hres
    clear hres hbuf N4 hw4 hbw hb2 hb3
    go_wp2
    go_ret
    exact ⟨_, rfl, HR.out⟩
end Go.Proofs.YtbdggopdhnlbfaaDoor
