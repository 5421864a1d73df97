/-
  Chapter 5: the values of a name. Both sides.
-/
import Derived.Test.YtaelopjalfapgabF3
import Derived.Test.YtaelopjalfapgabAS
import Derived.Test.YtaelopjalfapgabW1b
import Derived.Test.YtaelopjalfapgabWR
namespace Go.Proofs.Ytaelopjalfapgab
set_option linter.unusedVariables false
set_option linter.unusedSimpArgs false
open Go.RowKit
theorem valuesL_yes {l : List Fd} {n : ByteArray} (h : fieldsQ l = true) : valuesL l n = valsOf l n := by unfold valuesL; rw [if_pos h]
theorem valuesL_no {l : List Fd} {n : ByteArray} (h : fieldsQ l = false) : valuesL l n = [] := by unfold valuesL; rw [h]; rfl
theorem BufS.set2 {w0 w : World} {v : Value} {l : List ByteArray} (h : BufS w0 w v l) {g : Nat} {x y : Value} (hb : Below w.heap.size w ((w.setCell ⟨g, 0, none⟩ x).setCell ⟨g, 1, none⟩ y)) : BufS w0 ((w.setCell ⟨g, 0, none⟩ x).setCell ⟨g, 1, none⟩ y) v l := h.later hb
set_option maxHeartbeats 2000000 in
theorem Values_any (v : Value) (l : List Fd) (n : ByteArray) (w : World) (hv : SlF w v l) (hl : l.length ≤ 1048576) (ht : totF l ≤ 1099511627776) (hn : n.size ≤ maxLen) :
    Calls Try.prog 30 #[v, .string n] w fun e w' => ∃ v', e = .returned v' ∧ BufS w w' v' (valuesL l n) := by
  obtain ⟨a, c0, rfl⟩ := hv.form
  cases hq : fieldsQ l
  · have HF := hideB2 (valuesL_no (n := n) hq)
    have HQ := hideB2 hq
    clear hq
    go_enter Try.func30, Try.ntmps30
    go_wp2_with (go_at_call 16; refine (FieldsOk_any _ l _ hv hl ht).mono ?_; rintro e w2 ⟨rfl, hb2⟩; rw [HQ.out])
    go_ret
    exact ⟨_, rfl, by rw [HF.out]; exact (BufS.start w).later hb2⟩
  · have HF := hideB2 (valuesL_yes (n := n) hq)
    have HQ := hideB2 hq
    have HV := hideB2 hv
    have hl20 := (fieldsQ_iff.1 hq).1
    have HFQ := hideB2 (fun j (hj : j < l.length) => fieldQ_sizes (fieldsQ_at hq hj))
    have HNN := hideB2 hn
    clear hq hl hn
    generalize hm : l.length = m at *
    have HM := hideB2 hm
    clear hm hv
    go_enter Try.func30, Try.ntmps30
    go_wp2_with (go_at_call 16; refine (FieldsOk_any _ l _ HV.out (by rw [HM.out]; omega) ht).mono ?_; rintro e w2 ⟨rfl, hb2⟩; rw [HQ.out])
    go_loopw [5, 13] (fun o i wr => ∃ k : Nat, k ≤ m ∧ i = .int .i64 k ∧ BufS w wr o (valsOf (l.take k) n)) (fun _ i _ => m - (intOf i).toNat)
    case atStart => exact ⟨0, Nat.zero_le _, rfl, (BufS.start w).later hb2⟩
    case round =>
      obtain ⟨k, hk, rfl, hbuf⟩ := hrel
      by_cases hlt : k < m
      · have hklt : k < l.length := by rw [HM.out]; exact hlt
        obtain ⟨b, rfl, hr⟩ := HV.out.row (by omega)
        have p0 := (hr.later hbuf.below hr.lt).dat k hklt
        have p1 := (hr.later hbuf.below hr.lt).saf k hklt
        have hsz := HFQ.out k (by rw [HM.out] at hklt; exact hklt)
        have HNX := hideB2 (valsOf_next l n k hklt)
        have hvl : (valsOf (l.take k) n).length ≤ 20 := by
          have := valsOf_len (l.take k) n
          rw [List.length_take] at this; omega
        have HVL := hideB2 hvl
        clear hr hvl hb2
        generalize hx : fdAt l k = x at *
        clear hx
        obtain ⟨d, s⟩ := x
        simp only at p0 p1 hsz
        have hd : d.size ≤ maxLen := by unfold maxLen; omega
        have HD := hideB2 hd
        have hs : s.size ≤ 190 := hsz.2
        have A1 := hideB2 (Blk.new wr #[.string d, .string s] 41)
        have Bf := hideB2 (hbuf.alloc (.cells #[.string d, .string s] 41))
        clear hsz hd hklt
        cases hc : nameIs n (d, s)
        · have HC := hideB2 (show eqB (foldB d) (foldB n) = false from hc)
          rw [hc] at HNX
          clear hc
          go_wp2_with (go_at_call 41; refine (SameFold_any d n _ HD.out HNN.out).mono ?_; rintro e w3 ⟨rfl, hb3⟩; rw [HC.out])
          refine ⟨⟨k + 1, by omega, by go_num, ?_⟩, by simp [intOf]; omega⟩
          rw [HNX.out]
          have := Bf.out.later hb3
          simpa using this
        · have HC := hideB2 (show eqB (foldB d) (foldB n) = true from hc)
          rw [hc] at HNX
          clear hc
          generalize valsOf (l.take k) n = L at *
          go_wp2_with (first | (go_at_call 41; refine (SameFold_any d n _ HD.out HNN.out).mono ?_; rintro e w3 ⟨rfl, hb3⟩; rw [HC.out]; obtain ⟨q0, q1⟩ := (A1.out.later hb3).c2; have hbuf3 := Bf.out.later hb3) | (at_builtin; refine wp_sapp rfl (.tmp 21) (.tmp 24) rfl _ _ rfl hbuf3 s rfl (by have := HVL.out; omega) ?_; intro v2 W2 hbuf4))
          refine ⟨⟨k + 1, by omega, by go_num, ?_⟩, by simp [intOf]; omega⟩
          rw [HNX.out]
          exact hbuf4
      · obtain rfl : k = m := by omega
        have HE := hideB2 (show valsOf (l.take k) n = valuesL l n by rw [HF.out, List.take_of_length_le (by rw [HM.out]; exact Nat.le_refl _)])
        rw [HE.out] at hbuf
        clear HE
        go_wp2
        go_ret
        exact ⟨_, rfl, hbuf⟩
set_option maxHeartbeats 2000000 in
theorem sValues_any (v : Value) (l : List Fd) (n : ByteArray) (w : World) (hv : SlF w v l) (hl : l.length ≤ 1048576) (ht : totF l ≤ 1099511627776) (hn : n.size ≤ maxLen) :
    Calls Try.prog 23 #[v, .string n] w fun e w' => ∃ v', e = .returned v' ∧ BufS w w' v' (valuesL l n) := by
  obtain ⟨a, c0, rfl⟩ := hv.form
  cases hq : fieldsQ l
  · have HF := hideB2 (valuesL_no (n := n) hq)
    have HQ := hideB2 hq
    clear hq
    go_enter Try.func23, Try.ntmps23
    go_wp2_with (go_at_call 10; refine (sFieldsOk_any _ l _ hv hl ht).mono ?_; rintro e w2 ⟨rfl, hb2⟩; rw [HQ.out])
    go_ret
    exact ⟨_, rfl, by rw [HF.out]; exact (BufS.start w).later hb2⟩
  · have HF := hideB2 (valuesL_yes (n := n) hq)
    have HQ := hideB2 hq
    have HV := hideB2 hv
    have hl20 := (fieldsQ_iff.1 hq).1
    have HFQ := hideB2 (fun j (hj : j < l.length) => fieldQ_sizes (fieldsQ_at hq hj))
    have HNN := hideB2 hn
    clear hq hl hn
    generalize hm : l.length = m at *
    have HM := hideB2 hm
    clear hm hv
    go_enter Try.func23, Try.ntmps23
    go_wp2_with (go_at_call 10; refine (sFieldsOk_any _ l _ HV.out (by rw [HM.out]; omega) ht).mono ?_; rintro e w2 ⟨rfl, hb2⟩; rw [HQ.out])
    go_loopw [5, 6] (fun o i wr => ∃ k : Nat, k ≤ m ∧ i = .int .i64 k ∧ BufS w wr o (valsOf (l.take k) n)) (fun _ i _ => m - (intOf i).toNat)
    case atStart => exact ⟨0, Nat.zero_le _, rfl, (BufS.start w).later hb2⟩
    case round =>
      obtain ⟨k, hk, rfl, hbuf⟩ := hrel
      by_cases hlt : k < m
      · have hklt : k < l.length := by rw [HM.out]; exact hlt
        obtain ⟨b, rfl, hr⟩ := HV.out.row (by omega)
        have p0 := (hr.later hbuf.below hr.lt).dat k hklt
        have p1 := (hr.later hbuf.below hr.lt).saf k hklt
        have hsz := HFQ.out k (by rw [HM.out] at hklt; exact hklt)
        have HR := hideB2 (hr.later hbuf.below hr.lt)
        have HKL := hideB2 hklt
        have HNX := hideB2 (valsOf_next l n k hklt)
        have hvl : (valsOf (l.take k) n).length ≤ 20 := by
          have := valsOf_len (l.take k) n
          rw [List.length_take] at this; omega
        have HVL := hideB2 hvl
        clear hr hvl hb2
        generalize hx : fdAt l k = x at *
        have HX := hideB2 hx
        clear hx
        obtain ⟨d, s⟩ := x
        simp only at p0 p1 hsz
        have hd : d.size ≤ maxLen := by unfold maxLen; omega
        have HD := hideB2 hd
        have hs : s.size ≤ 190 := hsz.2
        clear hsz hd hklt
        cases hc : nameIs n (d, s)
        · have HC := hideB2 (show eqB (foldB d) (foldB n) = false from hc)
          rw [hc] at HNX
          clear hc
          go_wp2_with (go_at_call 38; refine (sSameFold_any d n _ HD.out HNN.out).mono ?_; rintro e w3 ⟨rfl, hb3⟩; rw [HC.out])
          refine ⟨⟨k + 1, by omega, by go_num, ?_⟩, by simp [intOf]; omega⟩
          rw [HNX.out]
          have := hbuf.later hb3
          simpa using this
        · have HC := hideB2 (show eqB (foldB d) (foldB n) = true from hc)
          rw [hc] at HNX
          clear hc
          generalize valsOf (l.take k) n = L at *
          go_wp2_with (first | (go_at_call 38; refine (sSameFold_any d n _ HD.out HNN.out).mono ?_; rintro e w3 ⟨rfl, hb3⟩; rw [HC.out]; have q1 := (HR.out.keep hb3).saf k HKL.out; rw [HX.out] at q1; simp only at q1; have hbuf3 := hbuf.later hb3) | (at_builtin; refine wp_sapp rfl (.tmp 23) (.tmp 29) rfl _ _ rfl hbuf3 s rfl (by have := HVL.out; omega) ?_; intro v2 W2 hbuf4))
          refine ⟨⟨k + 1, by omega, by go_num, ?_⟩, by simp [intOf]; omega⟩
          rw [HNX.out]
          exact hbuf4
      · obtain rfl : k = m := by omega
        have HE := hideB2 (show valsOf (l.take k) n = valuesL l n by rw [HF.out, List.take_of_length_le (by rw [HM.out]; exact Nat.le_refl _)])
        rw [HE.out] at hbuf
        clear HE
        go_wp2
        go_ret
        exact ⟨_, rfl, hbuf⟩
end Go.Proofs.Ytaelopjalfapgab
