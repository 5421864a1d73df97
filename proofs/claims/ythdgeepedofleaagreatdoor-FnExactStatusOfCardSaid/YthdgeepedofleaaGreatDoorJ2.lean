/-
  The walks over chapter 1: Fold, SameFold. · A row of texts, as a reader wants it. · Chapter 5: the values of a name. Both sides. · Chapter 5: the first value of a name; a field out of its line. Both sides. · Plain functions of chapter 1: cursors. No Go in sight. · Where a line ends, on lists. No Go in sight. · Chapter 6: what is read, on lists. No Go in sight. · Chapter 6: a line's parts at its blanks, on lists. No Go in sight. · The walks over chapter 1: ReadDec. · Chapter 6: an answer's first line, on lists. No Go in sight. · Chapter 6: a head and a message as they are read, on lists. No Go in sight.
-/
import Derived.Test.YthdgeepedofleaaGreatDoorJ1
import Derived.Lib.IndexLaws
import Derived.Lib.Bytealg
import Derived.Deep.DeepCutAuto
import Derived.Test.YthdgeepedofleaaGreatDoorJ0
import Derived.Lib.SplitLaws
import Derived.Lib.IndexBytes
namespace Go.Proofs.YthdgeepedofleaaGreatDoor
set_option linter.unusedVariables false
set_option linter.unusedSimpArgs false
open Go.RowKit

theorem fold_round {s : ByteArray} {k : Nat} {w wr : World} (hlt : k < s.size) (hrow : Hid (Row8 wr w.heap.size (foldTo s k))) (hbel : Hid (Below w.heap.size w wr)) :
    Row8 (wr.setCell ⟨w.heap.size, k, none⟩ (.int .u8 (lowI ((nums s).getD k 0)))) w.heap.size (foldTo s (k + 1)) ∧ Below w.heap.size w (wr.setCell ⟨w.heap.size, k, none⟩ (.int .u8 (lowI ((nums s).getD k 0)))) := by
  refine ⟨?_, hbel.out.setCell (by simp) _⟩
  rw [foldTo_succ s k hlt]
  exact hrow.out.set k _ (by rw [foldTo_length]; exact hlt)

set_option maxHeartbeats 1000000 in
theorem Fold_any (s : ByteArray) (w : World) (hs : s.size ≤ maxLen) :
    Calls Tryz.prog 184 #[.string s] w fun e w' => e = .returned (.string (foldB s)) ∧ Below w.heap.size w w' := by
  unfold maxLen at hs
  have kc := fun w => Lib.run_convert_string_bytes (P := Tryz.prog) w 9 22 5 s Tryz.underlying9 Tryz.underlying22 Tryz.underlying5
  have HR : Hid (Row8 (Lib.bytesWorld w 5 s) w.heap.size (nums s)) := row8_bytes w 5 s
  have HB : Hid (Below w.heap.size w (Lib.bytesWorld w 5 s)) := below_bytes w 5 s
  go_enter Tryz.func184, Tryz.ntmps184
  go_wp2
  generalize Lib.bytesWorld w 5 s = W1 at HR HB
  clear kc
  go_loopw [9] (fun i wr => ∃ k : Nat, k ≤ s.size ∧ i = .int .i64 k ∧ Row8 wr w.heap.size (foldTo s k) ∧ Below w.heap.size w wr) (fun i _ => s.size - (intOf i).toNat)
  case atStart => exact ⟨0, Nat.zero_le _, rfl, by rw [foldTo_zero]; exact HR.out, HB.out⟩
  case round =>
    obtain ⟨k, hk, rfl, hrow, hbel⟩ := hrel
    clear HR HB
    by_cases hlt : k < s.size
    · have hc := hrow.cell k (by rw [foldTo_length]; exact hlt)
      have hf := hrow.free k (by rw [foldTo_length]; exact hlt)
      rw [foldTo_at s k hlt] at hc
      have hbd := nums_bd s k
      have R := fold_round hlt hrow hbel
      have HRR : Hid (Row8 (wr.setCell ⟨w.heap.size, k, none⟩ (.int .u8 (lowI ((nums s).getD k 0)))) w.heap.size (foldTo s (k + 1)) ∧ Below w.heap.size w (wr.setCell ⟨w.heap.size, k, none⟩ (.int .u8 (lowI ((nums s).getD k 0))))) := R
      clear hrow hbel R
      generalize (nums s).getD k 0 = x at *
      go_wp2_with (go_at_call 223; refine (smallByte_any _ _ (by omega) (by omega)).mono ?_; rintro e w' ⟨rfl, rfl⟩)
      go_roundw
      case rel => exact ⟨k + 1, by omega, by go_num, HRR.out.1, HRR.out.2⟩
      case measure => simp [intOf]; omega
    · obtain rfl : k = s.size := by omega
      have kb := hrow.text (P := Tryz.prog) 22 5 9 s.size (grownCap w s.size 0 5) (foldTo_length s s.size) Tryz.underlying22 Tryz.underlying5 Tryz.underlying9
      rw [foldTo_all] at kb
      go_wp2
      go_ret
      exact ⟨rfl, hbel⟩
set_option maxHeartbeats 1000000 in
theorem sFold_any (s : ByteArray) (w : World) (hs : s.size ≤ maxLen) :
    Calls Tryz.prog 125 #[.string s] w fun e w' => e = .returned (.string (foldB s)) ∧ Below w.heap.size w w' := by
  unfold maxLen at hs
  have kc := fun w => Lib.run_convert_string_bytes (P := Tryz.prog) w 9 22 5 s Tryz.underlying9 Tryz.underlying22 Tryz.underlying5
  have HR : Hid (Row8 (Lib.bytesWorld w 5 s) w.heap.size (nums s)) := row8_bytes w 5 s
  have HB : Hid (Below w.heap.size w (Lib.bytesWorld w 5 s)) := below_bytes w 5 s
  go_enter Tryz.func125, Tryz.ntmps125
  go_wp2
  generalize Lib.bytesWorld w 5 s = W1 at HR HB
  clear kc
  go_loopw [4] (fun i wr => ∃ k : Nat, k ≤ s.size ∧ i = .int .i64 k ∧ Row8 wr w.heap.size (foldTo s k) ∧ Below w.heap.size w wr) (fun i _ => s.size - (intOf i).toNat)
  case atStart => exact ⟨0, Nat.zero_le _, rfl, by rw [foldTo_zero]; exact HR.out, HB.out⟩
  case round =>
    obtain ⟨k, hk, rfl, hrow, hbel⟩ := hrel
    clear HR HB
    by_cases hlt : k < s.size
    · have hc := hrow.cell k (by rw [foldTo_length]; exact hlt)
      have hf := hrow.free k (by rw [foldTo_length]; exact hlt)
      rw [foldTo_at s k hlt] at hc
      have hbd := nums_bd s k
      have R := fold_round hlt hrow hbel
      have HRR : Hid (Row8 (wr.setCell ⟨w.heap.size, k, none⟩ (.int .u8 (lowI ((nums s).getD k 0)))) w.heap.size (foldTo s (k + 1)) ∧ Below w.heap.size w (wr.setCell ⟨w.heap.size, k, none⟩ (.int .u8 (lowI ((nums s).getD k 0))))) := R
      clear hrow hbel R
      generalize (nums s).getD k 0 = x at *
      go_wp2_with (go_at_call 165; refine (l1lower_any _ _ (by omega) (by omega)).mono ?_; rintro e w' ⟨rfl, rfl⟩)
      go_roundw
      case rel => exact ⟨k + 1, by omega, by go_num, HRR.out.1, HRR.out.2⟩
      case measure => simp [intOf]; omega
    · obtain rfl : k = s.size := by omega
      have kb := hrow.text (P := Tryz.prog) 22 5 9 s.size (grownCap w s.size 0 5) (foldTo_length s s.size) Tryz.underlying22 Tryz.underlying5 Tryz.underlying9
      rw [foldTo_all] at kb
      go_wp2
      go_ret
      exact ⟨rfl, hbel⟩
set_option maxHeartbeats 1000000 in
theorem SameFold_any (a b : ByteArray) (w : World) (ha : a.size ≤ maxLen) (hb : b.size ≤ maxLen) :
    Calls Tryz.prog 284 #[.string a, .string b] w fun e w' => e = .returned (.bool (eqB (foldB a) (foldB b))) ∧ Below w.heap.size w w' := by
  go_enter Tryz.func284, Tryz.ntmps284
  go_wp2_with fail
  refine (Fold_any a _ ha).mono ?_
  rintro e w1 ⟨rfl, hb1⟩
  go_wp2_with fail
  refine (Fold_any b _ hb).mono ?_
  rintro e w2 ⟨rfl, hb2⟩
  go_wp2
  go_ret
  exact ⟨rfl, hb1.trans (hb2.mono hb1.size)⟩
set_option maxHeartbeats 1000000 in
theorem sSameFold_any (a b : ByteArray) (w : World) (ha : a.size ≤ maxLen) (hb : b.size ≤ maxLen) :
    Calls Tryz.prog 164 #[.string a, .string b] w fun e w' => e = .returned (.bool (eqB (foldB a) (foldB b))) ∧ Below w.heap.size w w' := by
  go_enter Tryz.func164, Tryz.ntmps164
  go_wp2_with fail
  refine (sFold_any a _ ha).mono ?_
  rintro e w1 ⟨rfl, hb1⟩
  go_wp2_with fail
  refine (sFold_any b _ hb).mono ?_
  rintro e w2 ⟨rfl, hb2⟩
  go_wp2
  go_ret
  exact ⟨rfl, hb1.trans (hb2.mono hb1.size)⟩
end Go.Proofs.YthdgeepedofleaaGreatDoor
namespace Go.Proofs.YthdgeepedofleaaGreatDoor
set_option linter.unusedVariables false
set_option linter.unusedSimpArgs false
open Go.RowKit

/-- A row of texts, as a reader wants it. -/
def RowS (w : World) (a : Option Addr) (l : List ByteArray) : Prop := l = [] ∨ ∃ g, a = some ⟨g, 0, none⟩ ∧ ∀ j, j < l.length → w.cell? ⟨g, j, none⟩ = some (.string (l.getD j ⟨#[]⟩))
theorem BufS.rows {w0 w : World} {v : Value} {l : List ByteArray} (h : BufS w0 w v l) : ∃ a c, v = .slice a l.length c ∧ RowS w a l := by
  rcases Nat.eq_zero_or_pos l.length with h0 | h0
  · obtain ⟨a, c, rfl⟩ := h.form
    exact ⟨a, c, rfl, Or.inl (List.eq_nil_of_length_eq_zero h0)⟩
  · obtain ⟨g, cap, rfl, _, _, hc⟩ := h.cells h0
    exact ⟨_, _, rfl, Or.inr ⟨g, rfl, hc⟩⟩
theorem RowS.later {w w' : World} {a : Option Addr} {l : List ByteArray} (h : RowS w a l) (hb : Below w.heap.size w w') : RowS w' a l := by
  rcases h with h | ⟨g, rfl, hc⟩
  · exact Or.inl h
  · refine Or.inr ⟨g, rfl, fun j hj => ?_⟩
    have hlt := World.block_lt_of_cell? _ _ (hc j hj)
    exact (hb.cell hlt).trans (hc j hj)
theorem RowS.at {w : World} {a : Option Addr} {l : List ByteArray} (h : RowS w a l) (hl : 0 < l.length) : ∃ g, a = some ⟨g, 0, none⟩ ∧ ∀ j, j < l.length → w.cell? ⟨g, j, none⟩ = some (.string (l.getD j ⟨#[]⟩)) := by
  rcases h with rfl | h
  · simp at hl
  · exact h
theorem Below.drewNs {B : Nat} {a w : World} (h : Below B a w) (n : Nat) : Below B a (w.drewN n) := ⟨h.os, h.tape, h.output, h.size, h.block⟩
theorem neT_self (t : ByteArray) : (t.toList != t.toList) = false := by simp
end Go.Proofs.YthdgeepedofleaaGreatDoor
namespace Go.Proofs.YthdgeepedofleaaGreatDoor
set_option linter.unusedVariables false
set_option linter.unusedSimpArgs false
open Go.RowKit
theorem valuesL_yes {l : List Fd} {n : ByteArray} (h : fieldsQ l = true) : valuesL l n = valsOf l n := by unfold valuesL; rw [if_pos h]
theorem valuesL_no {l : List Fd} {n : ByteArray} (h : fieldsQ l = false) : valuesL l n = [] := by unfold valuesL; rw [h]; rfl
theorem BufS.set2 {w0 w : World} {v : Value} {l : List ByteArray} (h : BufS w0 w v l) {g : Nat} {x y : Value} (hb : Below w.heap.size w ((w.setCell ⟨g, 0, none⟩ x).setCell ⟨g, 1, none⟩ y)) : BufS w0 ((w.setCell ⟨g, 0, none⟩ x).setCell ⟨g, 1, none⟩ y) v l := h.later hb
set_option maxHeartbeats 2000000 in
theorem Values_any (v : Value) (l : List Fd) (n : ByteArray) (w : World) (hv : SlF w v l) (hl : l.length ≤ 1048576) (ht : totF l ≤ 1099511627776) (hn : n.size ≤ maxLen) :
    Calls Tryz.prog 253 #[v, .string n] w fun e w' => ∃ v', e = .returned v' ∧ BufS w w' v' (valuesL l n) := by
  obtain ⟨a, c0, rfl⟩ := hv.form
  cases hq : fieldsQ l
  · have HF := hideB2 (valuesL_no (n := n) hq)
    have HQ := hideB2 hq
    clear hq
    go_enter Tryz.func253, Tryz.ntmps253
    go_wp2_with (go_at_call 217; refine (FieldsOk_any _ l _ hv hl ht).mono ?_; rintro e w2 ⟨rfl, hb2⟩; rw [HQ.out])
    go_ret
    exact ⟨_, rfl, by rw [HF.out]; exact (BufS.start w).later hb2⟩
  · have HF := hideB2 (valuesL_yes (n := n) hq)
    have HQ := hideB2 hq
    have HV := hideB2 hv
    have hl20 := (fieldsQ_iff.1 hq).1
    have HFQ := hideB2 (fun j (hj : j < l.length) => fieldQ_sizes (fieldsQ_at hq hj))
    have HNN := hideB2 hn
    clear hq hl hn
    generalize hm : l.length = m at *
    have HM := hideB2 hm
    clear hm hv
    go_enter Tryz.func253, Tryz.ntmps253
    go_wp2_with (go_at_call 217; refine (FieldsOk_any _ l _ HV.out (by rw [HM.out]; omega) ht).mono ?_; rintro e w2 ⟨rfl, hb2⟩; rw [HQ.out])
    go_loopw [5, 13] (fun o i wr => ∃ k : Nat, k ≤ m ∧ i = .int .i64 k ∧ BufS w wr o (valsOf (l.take k) n)) (fun _ i _ => m - (intOf i).toNat)
    case atStart => exact ⟨0, Nat.zero_le _, rfl, (BufS.start w).later hb2⟩
    case round =>
      obtain ⟨k, hk, rfl, hbuf⟩ := hrel
      by_cases hlt : k < m
      · have hklt : k < l.length := by rw [HM.out]; exact hlt
        obtain ⟨b, rfl, hr⟩ := HV.out.row (by omega)
        have p0 := (hr.later hbuf.below hr.lt).dat k hklt
        have p1 := (hr.later hbuf.below hr.lt).saf k hklt
        have hsz := HFQ.out k (by rw [HM.out] at hklt; exact hklt)
        have HNX := hideB2 (valsOf_next l n k hklt)
        have hvl : (valsOf (l.take k) n).length ≤ 20 := by
          have := valsOf_len (l.take k) n
          rw [List.length_take] at this; omega
        have HVL := hideB2 hvl
        clear hr hvl hb2
        generalize hx : fdAt l k = x at *
        clear hx
        obtain ⟨d, s⟩ := x
        simp only at p0 p1 hsz
        have hd : d.size ≤ maxLen := by unfold maxLen; omega
        have HD := hideB2 hd
        have hs : s.size ≤ 190 := hsz.2
        have A1 := hideB2 (Blk.new wr #[.string d, .string s] 88)
        have Bf := hideB2 (hbuf.alloc (.cells #[.string d, .string s] 88))
        clear hsz hd hklt
        cases hc : nameIs n (d, s)
        · have HC := hideB2 (show eqB (foldB d) (foldB n) = false from hc)
          rw [hc] at HNX
          clear hc
          go_wp2_with (go_at_call 284; refine (SameFold_any d n _ HD.out HNN.out).mono ?_; rintro e w3 ⟨rfl, hb3⟩; rw [HC.out])
          refine ⟨⟨k + 1, by omega, by go_num, ?_⟩, by simp [intOf]; omega⟩
          rw [HNX.out]
          have := Bf.out.later hb3
          simpa using this
        · have HC := hideB2 (show eqB (foldB d) (foldB n) = true from hc)
          rw [hc] at HNX
          clear hc
          generalize valsOf (l.take k) n = L at *
          go_wp2_with (first | (go_at_call 284; refine (SameFold_any d n _ HD.out HNN.out).mono ?_; rintro e w3 ⟨rfl, hb3⟩; rw [HC.out]; obtain ⟨q0, q1⟩ := (A1.out.later hb3).c2; have hbuf3 := Bf.out.later hb3) | (at_builtin; refine wp_sapp rfl (.tmp 21) (.tmp 24) rfl _ _ rfl hbuf3 s rfl (by have := HVL.out; omega) ?_; intro v2 W2 hbuf4))
          refine ⟨⟨k + 1, by omega, by go_num, ?_⟩, by simp [intOf]; omega⟩
          rw [HNX.out]
          exact hbuf4
      · obtain rfl : k = m := by omega
        have HE := hideB2 (show valsOf (l.take k) n = valuesL l n by rw [HF.out, List.take_of_length_le (by rw [HM.out]; exact Nat.le_refl _)])
        rw [HE.out] at hbuf
        clear HE
        go_wp2
        go_ret
        exact ⟨_, rfl, hbuf⟩
set_option maxHeartbeats 2000000 in
theorem sValues_any (v : Value) (l : List Fd) (n : ByteArray) (w : World) (hv : SlF w v l) (hl : l.length ≤ 1048576) (ht : totF l ≤ 1099511627776) (hn : n.size ≤ maxLen) :
    Calls Tryz.prog 204 #[v, .string n] w fun e w' => ∃ v', e = .returned v' ∧ BufS w w' v' (valuesL l n) := by
  obtain ⟨a, c0, rfl⟩ := hv.form
  cases hq : fieldsQ l
  · have HF := hideB2 (valuesL_no (n := n) hq)
    have HQ := hideB2 hq
    clear hq
    go_enter Tryz.func204, Tryz.ntmps204
    go_wp2_with (go_at_call 130; refine (sFieldsOk_any _ l _ hv hl ht).mono ?_; rintro e w2 ⟨rfl, hb2⟩; rw [HQ.out])
    go_ret
    exact ⟨_, rfl, by rw [HF.out]; exact (BufS.start w).later hb2⟩
  · have HF := hideB2 (valuesL_yes (n := n) hq)
    have HQ := hideB2 hq
    have HV := hideB2 hv
    have hl20 := (fieldsQ_iff.1 hq).1
    have HFQ := hideB2 (fun j (hj : j < l.length) => fieldQ_sizes (fieldsQ_at hq hj))
    have HNN := hideB2 hn
    clear hq hl hn
    generalize hm : l.length = m at *
    have HM := hideB2 hm
    clear hm hv
    go_enter Tryz.func204, Tryz.ntmps204
    go_wp2_with (go_at_call 130; refine (sFieldsOk_any _ l _ HV.out (by rw [HM.out]; omega) ht).mono ?_; rintro e w2 ⟨rfl, hb2⟩; rw [HQ.out])
    go_loopw [5, 6] (fun o i wr => ∃ k : Nat, k ≤ m ∧ i = .int .i64 k ∧ BufS w wr o (valsOf (l.take k) n)) (fun _ i _ => m - (intOf i).toNat)
    case atStart => exact ⟨0, Nat.zero_le _, rfl, (BufS.start w).later hb2⟩
    case round =>
      obtain ⟨k, hk, rfl, hbuf⟩ := hrel
      by_cases hlt : k < m
      · have hklt : k < l.length := by rw [HM.out]; exact hlt
        obtain ⟨b, rfl, hr⟩ := HV.out.row (by omega)
        have p0 := (hr.later hbuf.below hr.lt).dat k hklt
        have p1 := (hr.later hbuf.below hr.lt).saf k hklt
        have hsz := HFQ.out k (by rw [HM.out] at hklt; exact hklt)
        have HR := hideB2 (hr.later hbuf.below hr.lt)
        have HKL := hideB2 hklt
        have HNX := hideB2 (valsOf_next l n k hklt)
        have hvl : (valsOf (l.take k) n).length ≤ 20 := by
          have := valsOf_len (l.take k) n
          rw [List.length_take] at this; omega
        have HVL := hideB2 hvl
        clear hr hvl hb2
        generalize hx : fdAt l k = x at *
        have HX := hideB2 hx
        clear hx
        obtain ⟨d, s⟩ := x
        simp only at p0 p1 hsz
        have hd : d.size ≤ maxLen := by unfold maxLen; omega
        have HD := hideB2 hd
        have hs : s.size ≤ 190 := hsz.2
        clear hsz hd hklt
        cases hc : nameIs n (d, s)
        · have HC := hideB2 (show eqB (foldB d) (foldB n) = false from hc)
          rw [hc] at HNX
          clear hc
          go_wp2_with (go_at_call 164; refine (sSameFold_any d n _ HD.out HNN.out).mono ?_; rintro e w3 ⟨rfl, hb3⟩; rw [HC.out])
          refine ⟨⟨k + 1, by omega, by go_num, ?_⟩, by simp [intOf]; omega⟩
          rw [HNX.out]
          have := hbuf.later hb3
          simpa using this
        · have HC := hideB2 (show eqB (foldB d) (foldB n) = true from hc)
          rw [hc] at HNX
          clear hc
          generalize valsOf (l.take k) n = L at *
          go_wp2_with (first | (go_at_call 164; refine (sSameFold_any d n _ HD.out HNN.out).mono ?_; rintro e w3 ⟨rfl, hb3⟩; rw [HC.out]; have q1 := (HR.out.keep hb3).saf k HKL.out; rw [HX.out] at q1; simp only at q1; have hbuf3 := hbuf.later hb3) | (at_builtin; refine wp_sapp rfl (.tmp 23) (.tmp 29) rfl _ _ rfl hbuf3 s rfl (by have := HVL.out; omega) ?_; intro v2 W2 hbuf4))
          refine ⟨⟨k + 1, by omega, by go_num, ?_⟩, by simp [intOf]; omega⟩
          rw [HNX.out]
          exact hbuf4
      · obtain rfl : k = m := by omega
        have HE := hideB2 (show valsOf (l.take k) n = valuesL l n by rw [HF.out, List.take_of_length_le (by rw [HM.out]; exact Nat.le_refl _)])
        rw [HE.out] at hbuf
        clear HE
        go_wp2
        go_ret
        exact ⟨_, rfl, hbuf⟩
end Go.Proofs.YthdgeepedofleaaGreatDoor
namespace Go.Proofs.YthdgeepedofleaaGreatDoor
set_option linter.unusedVariables false
set_option linter.unusedSimpArgs false
open Go.RowKit
def getB (l : List Fd) (n : ByteArray) : ByteArray := (valuesL l n).getD 0 ⟨#[]⟩
def getO (l : List Fd) (n : ByteArray) : Bool := decide (0 < (valuesL l n).length)
set_option maxHeartbeats 1000000 in
theorem Get_any (v : Value) (l : List Fd) (n : ByteArray) (w : World) (hv : SlF w v l) (hl : l.length ≤ 1048576) (ht : totF l ≤ 1099511627776) (hn : n.size ≤ maxLen) :
    Calls Tryz.prog 218 #[v, .string n] w fun e w' => e = .returned (.tuple #[.string (getB l n), .bool (getO l n)]) ∧ Below w.heap.size w w' := by
  have HV := hideB2 (Values_any v l n w hv hl ht hn)
  have hm := valuesL_len l n
  unfold getB getO
  generalize valuesL l n = L at *
  obtain ⟨a, c0, rfl⟩ := hv.form
  go_enter Tryz.func218, Tryz.ntmps218
  go_wp2_with fail
  refine HV.out.mono ?_
  rintro e w1 ⟨v1, rfl, hb1⟩
  obtain ⟨a1, c1, rfl, hr1⟩ := hb1.rows
  have HB := hideB2 hb1.below
  by_cases h0 : 0 < L.length
  · obtain ⟨g, rfl, hc⟩ := hr1.at h0
    have p0 := hc 0 h0
    have h1 : ((L.length : Int) == 0) = false := by rw [beq_eq_false_iff_ne]; omega
    have HD := hideB2 (decide_eq_true h0)
    generalize hx : L.getD 0 ⟨#[]⟩ = x at *
    have HX := hideB2 hx
    clear hx
    clear hc hb1 hr1 HV
    go_wp2
    go_ret2
    exact ⟨ret_sb HX.out HD.out, HB.out⟩
  · obtain rfl : L = [] := List.eq_nil_of_length_eq_zero (by omega)
    clear hb1 hr1 HV
    go_wp2
    go_ret2
    exact ⟨rfl, HB.out⟩
set_option maxHeartbeats 1000000 in
theorem sGet_any (v : Value) (l : List Fd) (n : ByteArray) (w : World) (hv : SlF w v l) (hl : l.length ≤ 1048576) (ht : totF l ≤ 1099511627776) (hn : n.size ≤ maxLen) :
    Calls Tryz.prog 161 #[v, .string n] w fun e w' => e = .returned (.tuple #[.string (getB l n), .bool (getO l n)]) ∧ Below w.heap.size w w' := by
  have HV := hideB2 (sValues_any v l n w hv hl ht hn)
  have hm := valuesL_len l n
  unfold getB getO
  generalize valuesL l n = L at *
  obtain ⟨a, c0, rfl⟩ := hv.form
  go_enter Tryz.func161, Tryz.ntmps161
  go_wp2_with fail
  refine HV.out.mono ?_
  rintro e w1 ⟨v1, rfl, hb1⟩
  obtain ⟨a1, c1, rfl, hr1⟩ := hb1.rows
  have HB := hideB2 hb1.below
  by_cases h0 : 0 < L.length
  · obtain ⟨g, rfl, hc⟩ := hr1.at h0
    have p0 := hc 0 h0
    have h1 : ((L.length : Int) == 0) = false := by rw [beq_eq_false_iff_ne]; omega
    have HD := hideB2 (decide_eq_true h0)
    generalize hx : L.getD 0 ⟨#[]⟩ = x at *
    have HX := hideB2 hx
    clear hx
    clear hc hb1 hr1 HV
    go_wp2
    go_ret2
    exact ⟨ret_sb HX.out HD.out, HB.out⟩
  · obtain rfl : L = [] := List.eq_nil_of_length_eq_zero (by omega)
    clear hb1 hr1 HV
    go_wp2
    go_ret2
    exact ⟨rfl, HB.out⟩
/-- Where the first ':' stands, or -1. -/
def idxC (s : ByteArray) : Int := Lib.indexByte s.data.toList 58
theorem idxC_some {s : ByteArray} {i : Nat} (h : idxC s = (i : Int)) : i < s.size ∧ at8 s i = 58 ∧ ∀ j, j < i → at8 s j ≠ 58 := by
  obtain ⟨h1, h2⟩ := Lib.indexByte_some h
  have hi : i < s.data.toList.length := (List.getElem?_eq_some_iff.1 h1).1
  rw [len_data] at hi
  refine ⟨hi, by unfold at8; rw [List.getD, h1]; rfl, fun j hj he => h2 j hj ?_⟩
  have hj' : j < s.data.toList.length := by rw [len_data]; omega
  unfold at8 at he
  rw [List.getD, List.getElem?_eq_getElem hj'] at he
  rw [List.getElem?_eq_getElem hj']
  simpa using he
theorem idxC_none {s : ByteArray} (h : idxC s = -1) : ∀ j, j < s.size → at8 s j ≠ 58 := by
  intro j hj he
  have hj' : j < s.data.toList.length := by rw [len_data]; omega
  refine Lib.indexByte_none h j ?_
  unfold at8 at he
  rw [List.getD, List.getElem?_eq_getElem hj'] at he
  rw [List.getElem?_eq_getElem hj']
  simpa using he
theorem idxC_cases (s : ByteArray) : idxC s = -1 ∨ ∃ i : Nat, idxC s = (i : Int) ∧ i < s.size := by
  have h := Lib.indexByte_ge s.data.toList 58
  by_cases h1 : idxC s = -1
  · exact .inl h1
  · right
    have h2 : -1 ≤ idxC s := h
    have h3 : idxC s = ((idxC s).toNat : Int) := by omega
    exact ⟨(idxC s).toNat, h3, (idxC_some h3).1⟩
theorem idxC_of {s : ByteArray} {i : Nat} (h1 : i < s.size) (h2 : at8 s i = 58) (h3 : ∀ j, j < i → at8 s j ≠ 58) : idxC s = (i : Int) := by
  rcases idxC_cases s with h | ⟨k, hk, _⟩
  · exact absurd h2 (idxC_none h i h1)
  · obtain ⟨g1, g2, g3⟩ := idxC_some hk
    rcases Nat.lt_trichotomy k i with h | h | h
    · exact absurd g2 (h3 k h)
    · rw [hk, h]
    · exact absurd h2 (g3 i h)
/-- What a line holds whose first ':' stands at i. -/
def cutF (s : ByteArray) (i : Nat) : Fd := (s.extract 0 i, trimB (s.extract (i + 1) s.size))
def readO (s : ByteArray) : Bool := decide (0 ≤ idxC s) && fieldQ (cutF s (idxC s).toNat)
def readF (s : ByteArray) : Fd := if readO s = true then cutF s (idxC s).toNat else fd0
theorem readO_none {s : ByteArray} (h : idxC s = -1) : readO s = false ∧ readF s = fd0 := by
  have h1 : readO s = false := by unfold readO; rw [h]; rfl
  exact ⟨h1, by unfold readF; rw [h1]; rfl⟩
theorem readO_some {s : ByteArray} {i : Nat} (h : idxC s = (i : Int)) : readO s = fieldQ (cutF s i) ∧ readF s = if fieldQ (cutF s i) = true then cutF s i else fd0 := by
  have h1 : readO s = fieldQ (cutF s i) := by unfold readO; rw [h]; simp
  refine ⟨h1, ?_⟩
  unfold readF; rw [h1, h]; rfl
theorem cutF_sizes (s : ByteArray) (i : Nat) (h : s.size ≤ maxLen) : (cutF s i).1.size ≤ maxLen ∧ (cutF s i).2.size ≤ maxLen := by
  constructor
  · show (s.extract 0 i).size ≤ _
    rw [ByteArray.size_extract]; omega
  · have h1 := trimB_size (s.extract (i + 1) s.size)
    rw [ByteArray.size_extract] at h1
    show (trimB _).size ≤ _
    omega
theorem cutF_big {s : ByteArray} {i : Nat} (h : 40 < i) (hi : i < s.size) : fieldQ (cutF s i) = false := by
  refine fieldQ_no1 ?_
  show ¬ ((s.extract 0 i).size : Int) ≤ 40
  rw [ByteArray.size_extract]; omega
set_option maxRecDepth 100000 in
set_option maxHeartbeats 1000000 in
theorem IndexByte_any (s : ByteArray) (c : Int) (w : World) :
    Calls Tryz.prog 114 #[.string s, .int .u8 c] w fun e w' => e = .returned (.int .i64 (Lib.indexByte s.data.toList c.toNat.toUInt8)) ∧ w' = w := by
  go_enter Tryz.func114, Tryz.ntmps114
  go_wp2
  rw [run_callFunc_extern Tryz.func155 (by kernel_rfl) (by kernel_rfl) (by kernel_rfl) (e := Extern.BytealgIndexByte.indexByte) (by kernel_rfl), Lib.run_indexByteString]
  simp only [Result.andThen]
  rw [Oper.upon_value]
  go_wp2
  go_ret
  exact ⟨rfl, rfl⟩
set_option maxRecDepth 100000 in
set_option maxHeartbeats 1000000 in
theorem Index1_any (s : ByteArray) (w : World) :
    Calls Tryz.prog 94 #[.string s, .string ⟨#[58]⟩] w fun e w' => e = .returned (.int .i64 (idxC s)) ∧ w' = w := by
  cases h : eqB ⟨#[58]⟩ s
  · have h1 : (([58] : List UInt8) == s.toList) = false := by
      rw [show ([58] : List UInt8) = (⟨#[58]⟩ : ByteArray).toList by rw [ByteArray.toList_eq]]
      exact h
    have HI := hideB2 (fun W => IndexByte_any s 58 W)
    clear h
    go_enter Tryz.func94, Tryz.ntmps94
    go_wp2_with (go_at_call 114; refine (HI.out _).mono ?_; rintro e w' ⟨rfl, rfl⟩)
    go_ret
    exact ⟨rfl, rfl⟩
  · have h1 : (([58] : List UInt8) == s.toList) = true := by
      rw [show ([58] : List UInt8) = (⟨#[58]⟩ : ByteArray).toList by rw [ByteArray.toList_eq]]
      exact h
    have HE := hideB2 (show idxC s = 0 by rw [← eqB_iff.1 h]; unfold idxC; simp [Lib.indexByte])
    clear h
    go_enter Tryz.func94, Tryz.ntmps94
    go_wp2
    go_ret
    exact ⟨ret_int HE.out, rfl⟩
set_option maxHeartbeats 1000000 in
theorem Cut0_none (s : ByteArray) (w : World) (hi : idxC s = -1) :
    Calls Tryz.prog 260 #[.string s, .string ⟨#[58]⟩] w fun e w' => e = .returned (.tuple #[.string s, .string ⟨#[]⟩, .bool false]) ∧ Below w.heap.size w w' := by
  have HI := hideB2 hi
  clear hi
  go_enter Tryz.func260, Tryz.ntmps260
  go_wp2_with (go_at_call 94; refine (Index1_any _ _).mono ?_; rintro e w' ⟨rfl, rfl⟩; rw [HI.out])
  go_ret3
  exact ⟨rfl, Below.refl _ _⟩
set_option maxHeartbeats 1000000 in
theorem Cut0_some (s : ByteArray) (i : Nat) (w : World) (hi : idxC s = (i : Int)) (hlt : i < s.size) (hs : s.size ≤ maxLen) :
    Calls Tryz.prog 260 #[.string s, .string ⟨#[58]⟩] w fun e w' => e = .returned (.tuple #[.string (s.extract 0 i), .string (s.extract (i + 1) s.size), .bool true]) ∧ Below w.heap.size w w' := by
  have HI := hideB2 hi
  unfold maxLen at hs
  clear hi
  have e1 : IntKind.i64.wrap ((i : Int) + 1) = (i : Int) + 1 := by rw [IntKind.wrap_i64]; omega
  have c0 : (0 : Int) ≤ (i : Int) := by omega
  have c1 : (i : Int) ≤ (s.size : Int) := by omega
  have c2 : (0 : Int) ≤ (i : Int) + 1 := by omega
  have c3 : (i : Int) + 1 ≤ (s.size : Int) := by omega
  go_enter Tryz.func260, Tryz.ntmps260
  go_wp2_with (go_at_call 94; refine (Index1_any _ _).mono ?_; rintro e w' ⟨rfl, rfl⟩; rw [HI.out])
  go_region
  go_wp2
  go_ret3
  exact ⟨rfl, (Below.refl _ _).drew⟩
set_option maxHeartbeats 1000000 in
theorem Cut_none (s : ByteArray) (w : World) (hi : idxC s = -1) :
    Calls Tryz.prog 224 #[.string s, .string ⟨#[58]⟩] w fun e w' => e = .returned (.tuple #[.string s, .string ⟨#[]⟩, .bool false]) ∧ Below w.heap.size w w' := by
  have HC := hideB2 (fun W => Cut0_none s W hi)
  clear hi
  go_enter Tryz.func224, Tryz.ntmps224
  go_wp2_with (go_at_call 260; refine (HC.out _).mono ?_; rintro e w' ⟨rfl, hb⟩)
  go_ret3
  exact ⟨rfl, hb⟩
set_option maxHeartbeats 1000000 in
theorem Cut_some (s : ByteArray) (i : Nat) (w : World) (hi : idxC s = (i : Int)) (hlt : i < s.size) (hs : s.size ≤ maxLen) :
    Calls Tryz.prog 224 #[.string s, .string ⟨#[58]⟩] w fun e w' => e = .returned (.tuple #[.string (s.extract 0 i), .string (s.extract (i + 1) s.size), .bool true]) ∧ Below w.heap.size w w' := by
  have HC := hideB2 (fun W => Cut0_some s i W hi hlt hs)
  clear hi
  generalize s.extract 0 i = x at *
  generalize s.extract (i + 1) s.size = y at *
  go_enter Tryz.func224, Tryz.ntmps224
  go_wp2_with (go_at_call 260; refine (HC.out _).mono ?_; rintro e w' ⟨rfl, hb⟩)
  go_ret3
  exact ⟨rfl, hb⟩
theorem Tryz.infoField : (Tryz.prog.info? 88).map (·.size) = some 2 := by kernel_rfl
theorem below_alloc' {B : Nat} {w0 w : World} (h : Below B w0 w) (hB : B ≤ w0.heap.size) (o : Obj) : Below B w0 (w.alloc o) := h.alloc (Nat.le_trans hB h.size) o
set_option maxHeartbeats 1000000 in
theorem ReadField_any (s : ByteArray) (w : World) (hs : s.size ≤ maxLen) :
    Calls Tryz.prog 252 #[.string s] w fun e w' => e = .returned (.tuple #[.agg #[.string (readF s).1, .string (readF s).2], .bool (readO s)]) ∧ Below w.heap.size w w' := by
  have HB1 := hideB2 (below_a1 w (.cells #[.string ⟨#[]⟩, .string ⟨#[]⟩] 88))
  have A1 := hideB2 (Blk.new w #[.string ⟨#[]⟩, .string ⟨#[]⟩] 88)
  rcases idxC_cases s with hi | ⟨i, hi, hlt⟩
  · obtain ⟨e1, e2⟩ := readO_none hi
    rw [e1, e2]
    have HC := hideB2 (fun W => Cut_none s W hi)
    have HT := hideB2 (fun W => Trim_any ⟨#[]⟩ W (by decide))
    clear hi e1 e2
    go_enter Tryz.func252, Tryz.ntmps252
    go_wp2_with fail
    refine (HC.out _).mono ?_
    rintro e w1 ⟨rfl, hb1⟩
    have A2 := A1.out.later hb1
    obtain ⟨p0, p1⟩ := A2.c2
    have f0 := A2.free 0
    have f1 := A2.free 1
    have hlt0 := A2.lt
    have HB := hideB2 (below_then HB1.out hb1)
    have HA2 := hideB2 A2
    clear hb1 A2
    go_wp2_with (go_at_call 283; refine (HT.out _).mono ?_; rintro e w' ⟨rfl, rfl⟩)
    refine bodyPost_ret (results_cellT rfl _ _ _ rfl ((HA2.out.set2 _ _).alloc _) Tryz.underlying88 Tryz.infoField) rfl ⟨rfl, ?_⟩
    exact below_alloc' (below_set2 HB.out (Nat.le_refl _) _ _) (Nat.le_refl _) _
  · obtain ⟨e1, e2⟩ := readO_some hi
    rw [e1, e2]
    have HC := hideB2 (fun W => Cut_some s i W hi hlt hs)
    have HT := hideB2 (fun W => Trim_any (s.extract (i + 1) s.size) W (by rw [ByteArray.size_extract]; omega))
    have hsz := cutF_sizes s i hs
    unfold cutF at hsz
    unfold cutF
    clear hi e1 e2
    generalize s.extract 0 i = d at *
    generalize s.extract (i + 1) s.size = y at *
    generalize trimB y = t at *
    simp only at hsz
    have HS := hideB2 hsz
    have HQ := hideB2 (fun W => FieldOk_any d t W hsz.1 hsz.2)
    clear hsz hs
    generalize fieldQ (d, t) = q at *
    go_enter Tryz.func252, Tryz.ntmps252
    go_wp2_with fail
    refine (HC.out _).mono ?_
    rintro e w1 ⟨rfl, hb1⟩
    have A2 := A1.out.later hb1
    have hlt0 := A2.lt
    have HB := hideB2 (below_then HB1.out hb1)
    have HA2 := hideB2 A2
    clear hb1 A2
    go_wp2_with (first | (go_at_call 283; refine (HT.out _).mono ?_; rintro e w' ⟨rfl, rfl⟩) | fail)
    have N2 := Blk.new w' #[.string d, .string t] 88
    refine (HQ.out _).mono ?_
    rintro e w2 ⟨rfl, hb2⟩
    have N3 := N2.later hb2
    have A3 := (HA2.out.alloc (.cells #[.string d, .string t] 88)).later hb2
    obtain ⟨p0, p1⟩ := A3.c2
    have f0 := A3.free 0
    have f1 := A3.free 1
    obtain ⟨q0, q1⟩ := N3.c2
    have HB3 := hideB2 (below_then (below_alloc' HB.out (Nat.le_refl _) (.cells #[.string d, .string t] 88)) hb2)
    have HA3 := hideB2 A3
    clear N2 N3 A3 hb2 HB HA2
    cases q
    · go_wp2
      refine bodyPost_ret (results_cellT rfl _ _ _ rfl (HA3.out.set2 _ _) Tryz.underlying88 Tryz.infoField) rfl ⟨rfl, ?_⟩
      exact below_set2 HB3.out (Nat.le_refl _) _ _
    · go_wp2
      refine bodyPost_ret (results_cellT rfl _ _ _ rfl (HA3.out.set2 _ _) Tryz.underlying88 Tryz.infoField) rfl ⟨rfl, ?_⟩
      exact below_set2 HB3.out (Nat.le_refl _) _ _
set_option maxHeartbeats 2000000 in
theorem sReadField_any (s : ByteArray) (w : World) (hs : s.size ≤ maxLen) :
    Calls Tryz.prog 160 #[.string s] w fun e w' => e = .returned (.tuple #[.agg #[.string (readF s).1, .string (readF s).2], .bool (readO s)]) ∧ Below w.heap.size w w' := by
  have HB1 := hideB2 (below_a1 w (.cells #[.string ⟨#[]⟩, .string ⟨#[]⟩] 88))
  have A1 := Blk.new w #[.string ⟨#[]⟩, .string ⟨#[]⟩] 88
  have hs' := hs
  unfold maxLen at hs'
  generalize hR : readF s = R
  generalize hO : readO s = O
  have HR := hideB2 hR
  have HO := hideB2 hO
  clear hR hO
  go_enter Tryz.func160, Tryz.ntmps160
  go_wp2
  generalize hW : w.alloc (.cells #[.string ⟨#[]⟩, .string ⟨#[]⟩] 88) = W1 at *
  clear hW
  obtain ⟨p0, p1⟩ := A1.c2
  have f0 := A1.free 0
  have f1 := A1.free 1
  have hlt0 := A1.lt
  have HA1 := hideB2 A1
  clear A1
  go_loop [4] (fun i => ∃ k : Nat, k ≤ s.size ∧ k ≤ 41 ∧ i = .int .i64 k ∧ ∀ j, j < k → at8 s j ≠ 58) (fun i => s.size - (intOf i).toNat)
  case atStart => exact ⟨0, Nat.zero_le _, by omega, rfl, fun j hj => by omega⟩
  case round =>
    obtain ⟨k, hk, hk41, rfl, hall⟩ := hrel
    have Hall := hideB2 hall
    clear hall
    by_cases hlt : k < s.size ∧ k ≤ 40
    · obtain ⟨hlt, hk40⟩ := hlt
      have hat : s[k] = at8 s k := at8_eq s k hlt
      by_cases hc : at8 s k = 58
      · have hi := idxC_of hlt hc Hall.out
        obtain ⟨e1, e2⟩ := readO_some hi
        have h58 : ((s[k].toNat : Int) != 58) = false := by rw [hat, hc]; rfl
        have HE1 := hideB2 (HO.out.symm.trans e1)
        have HE2 := hideB2 (HR.out.symm.trans e2)
        have HT := hideB2 (fun W => sTrim_any (s.extract (k + 1) s.size) W (by rw [ByteArray.size_extract]; omega))
        have hsz := cutF_sizes s k hs
        clear e1 e2 hi hat hc Hall
        unfold cutF at HE1 HE2 hsz
        have c1 : IntKind.i64.wrap ((k : Int) + 1) = (k : Int) + 1 := by rw [IntKind.wrap_i64]; omega
        have c2 : (k : Int) + 1 ≤ (s.size : Int) := by omega
        have c3 : (0 : Int) ≤ (k : Int) + 1 := by omega
        go_wp2
        go_cut [5] (fun c wc => c = .pointer (some ⟨W1.heap.size, 0, none⟩) ∧ Below W1.heap.size W1 wc ∧ Blk wc W1.heap.size #[.string (s.extract 0 k), .string (trimB (s.extract (k + 1) s.size))] 88)
        case first =>
          go_region_with (go_at_call 203; refine (HT.out _).mono ?_; rintro e w' ⟨rfl, rfl⟩)
          all_goals
            go_wp2_with fail
            go_meet
            refine ⟨rfl, ?_, ?_⟩
            · exact (below_a1 W1 _).drew
            · exact (Blk.new W1 _ _).drew
        case rest =>
          rename_i w3
          obtain ⟨rfl, hb3, N3⟩ := hcut
          generalize s.extract 0 k = d at *
          generalize trimB (s.extract (k + 1) s.size) = t at *
          have HQ := hideB2 (fun W => sFieldOk_any d t W hsz.1 hsz.2)
          have A3 := HA1.out.later hb3
          obtain ⟨q0, q1⟩ := N3.c2
          have HN3 := hideB2 N3
          have HA3 := hideB2 A3
          have HB3 := hideB2 (below_then HB1.out hb3)
          clear hsz N3 A3 hb3 HA1 p0 p1 f0 f1
          generalize fieldQ (d, t) = q at *
          go_wp2_with fail
          refine (HQ.out _).mono ?_
          rintro e w4 ⟨rfl, hb4⟩
          clear q0 q1
          obtain ⟨q0, q1⟩ := (HN3.out.later hb4).c2
          have A4 := HA3.out.later hb4
          obtain ⟨p0, p1⟩ := A4.c2
          have f0 := A4.free 0
          have f1 := A4.free 1
          have HA4 := hideB2 A4
          have HB4 := hideB2 (below_then HB3.out hb4)
          clear A4 hb4 HN3 HA3 HB3
          cases q
          · obtain rfl : O = false := HE1.out
            obtain rfl : R = fd0 := HE2.out
            go_wp2
            refine bodyPost_ret (results_cellT rfl _ _ _ rfl (HA4.out.set2 _ _) Tryz.underlying88 Tryz.infoField) rfl ⟨rfl, ?_⟩
            exact below_set2 HB4.out (Nat.le_refl _) _ _
          · obtain rfl : O = true := HE1.out
            obtain rfl : R = (d, t) := HE2.out
            go_wp2
            refine bodyPost_ret (results_cellT rfl _ _ _ rfl (HA4.out.set2 _ _) Tryz.underlying88 Tryz.infoField) rfl ⟨rfl, ?_⟩
            exact below_set2 HB4.out (Nat.le_refl _) _ _
      · have h58 : ((s[k].toNat : Int) != 58) = true := by
          rw [bne_iff_ne, hat]
          intro hh
          exact hc (UInt8.toNat_inj.1 (by have : (at8 s k).toNat = 58 := by omega
                                          rw [this]; rfl))
        have Hc := hideB2 hc
        clear hat hc
        go_wp2
        go_round
        case rel => exact ⟨k + 1, by omega, by omega, by go_num, all_succ Hall.out Hc.out⟩
        case measure => simp [intOf]; omega
    · have HF := hideB2 (show O = false ∧ R = fd0 by
        rcases idxC_cases s with hi | ⟨i, hi, hil⟩
        · obtain ⟨e1, e2⟩ := readO_none hi
          exact ⟨HO.out.symm.trans e1, HR.out.symm.trans e2⟩
        · obtain ⟨g1, g2, g3⟩ := idxC_some hi
          have hki : k ≤ i := by
            rcases Nat.lt_or_ge i k with h | h
            · exact absurd g2 (Hall.out i h)
            · exact h
          obtain ⟨e1, e2⟩ := readO_some hi
          have hbig := cutF_big (s := s) (i := i) (by omega) hil
          rw [hbig] at e1 e2
          exact ⟨HO.out.symm.trans e1, HR.out.symm.trans e2⟩)
      obtain ⟨rfl, rfl⟩ := HF.out
      rcases Nat.lt_or_ge k s.size with h | h
      · have hk40 : ¬ (k : Int) ≤ 40 := by omega
        clear hlt Hall HF
        go_wp2
        refine bodyPost_ret (results_cellT rfl _ _ _ rfl (HA1.out.set2 _ _) Tryz.underlying88 Tryz.infoField) rfl ⟨rfl, ?_⟩
        exact below_set2 HB1.out (Nat.le_refl _) _ _
      · have hk40 : ¬ (k : Int) < (s.size : Int) := by omega
        clear hlt Hall HF
        go_wp2
        refine bodyPost_ret (results_cellT rfl _ _ _ rfl (HA1.out.set2 _ _) Tryz.underlying88 Tryz.infoField) rfl ⟨rfl, ?_⟩
        exact below_set2 HB1.out (Nat.le_refl _) _ _
end Go.Proofs.YthdgeepedofleaaGreatDoor
namespace Go.Proofs.YthdgeepedofleaaGreatDoor
set_option linter.unusedVariables false
set_option linter.unusedSimpArgs false
open Go.RowKit
def curV (s : ByteArray) (n : Int) : Value := .agg #[.string s, .int .i64 n]
def curOk (s : ByteArray) (n : Int) : Bool := decide (0 ≤ n) && decide (n ≤ (s.size : Int))
theorem curOk_iff {s : ByteArray} {n : Int} : curOk s n = true ↔ 0 ≤ n ∧ n ≤ (s.size : Int) := by unfold curOk; simp
theorem curOk_neg {s : ByteArray} {n : Int} (h : ¬ 0 ≤ n) : curOk s n = false := by simp [curOk, h]
theorem curOk_pos {s : ByteArray} {n : Int} (h : 0 ≤ n) : curOk s n = decide (n ≤ (s.size : Int)) := by simp [curOk, h]
def eolP (n : Int) : Bool := n == 13 || n == 10
def eol8 (b : UInt8) : Bool := eolP (b.toNat : Int)
/-- How many bytes stand ahead of the first 13 or 10 from k on. -/
def eolLen (s : ByteArray) (k : Nat) : Nat := ((s.data.toList.drop k).takeWhile fun b => !eol8 b).length
theorem takeWhile_len {α : Type} (p : α → Bool) : ∀ (l : List α) (m : Nat), m ≤ l.length → (∀ j (h : j < l.length), j < m → p l[j] = true) → (m = l.length ∨ ∃ h : m < l.length, p l[m] = false) → (l.takeWhile p).length = m
  | [], m, hm, _, _ => by simp at hm ⊢; omega
  | a :: l, 0, _, _, hend => by
    rcases hend with h | ⟨h, hp⟩
    · simp at h
    · simp at hp
      simp [hp]
  | a :: l, m + 1, hm, hall, hend => by
    have ha : p a = true := hall 0 (by simp) (by omega)
    rw [List.takeWhile_cons_of_pos ha, List.length_cons]
    congr 1
    refine takeWhile_len p l m (by simpa using hm) (fun j h hj => hall (j + 1) (by simpa using h) (by omega)) ?_
    rcases hend with h | ⟨h, hp⟩
    · left; simpa using h
    · right; exact ⟨by simpa using h, hp⟩
theorem eolLen_of (s : ByteArray) (k m : Nat) (hkm : k + m ≤ s.size) (hall : ∀ j, j < m → eol8 (at8 s (k + j)) = false) (hend : k + m = s.size ∨ eol8 (at8 s (k + m)) = true) : eolLen s k = m := by
  unfold eolLen
  have hl : (s.data.toList.drop k).length = s.size - k := by rw [List.length_drop, len_data]
  have hg : ∀ j (h : j < (s.data.toList.drop k).length), (s.data.toList.drop k)[j] = at8 s (k + j) := by
    intro j h
    have h' : k + j < s.data.toList.length := by rw [List.length_drop] at h; omega
    rw [List.getElem_drop]
    simp [at8, List.getD, List.getElem?_eq_getElem h']
  refine takeWhile_len _ _ m (by omega) (fun j h hj => by rw [hg j h, hall j hj]; rfl) ?_
  rcases hend with h | h
  · left; omega
  · by_cases e : k + m = s.size
    · left; omega
    · right; exact ⟨by omega, by rw [hg m (by omega), h]; rfl⟩
theorem eolLen_le (s : ByteArray) (k : Nat) (hk : k ≤ s.size) : k + eolLen s k ≤ s.size := by
  unfold eolLen
  have h1 := (List.takeWhile_sublist (l := s.data.toList.drop k) fun b => !eol8 b).length_le
  rw [List.length_drop, len_data] at h1
  omega
theorem eolP_iff {n : Int} : eolP n = true ↔ n = 13 ∨ n = 10 := by unfold eolP; simp
theorem eolP_no {n : Int} : eolP n = false ↔ n ≠ 13 ∧ n ≠ 10 := by unfold eolP; simp

/-- What TakeLine answers at a cursor that stands in its text: the line, the cursor's text and place, the code. -/
def tlE (s : ByteArray) (k : Nat) : Nat := k + eolLen s k
def tlC (s : ByteArray) (k : Nat) : Int := if tlE s k = s.size then 1 else if (at8 s (tlE s k)).toNat = 10 then 2 else if tlE s k + 1 = s.size then 1 else if (at8 s (tlE s k + 1)).toNat = 10 then 0 else 2
def tlL (s : ByteArray) (k : Nat) : ByteArray := if tlC s k = 0 then s.extract k (tlE s k) else ⟨#[]⟩
def tlS (s : ByteArray) (k : Nat) : ByteArray := if tlC s k = 0 then s else ⟨#[]⟩
def tlN (s : ByteArray) (k : Nat) : Int := if tlC s k = 0 then (tlE s k : Int) + 2 else 0
def curZ : Value := .agg #[.string ⟨#[]⟩, .int .i64 0]
def tlV (s : ByteArray) (k : Nat) : Value := .tuple #[.string (tlL s k), .agg #[.string (tlS s k), .int .i64 (tlN s k)], .int .i64 (tlC s k)]
theorem tlV_short0 {s : ByteArray} {k : Nat} (h : tlE s k = s.size) : tlV s k = .tuple #[.string ⟨#[]⟩, curZ, .int .i64 1] := by
  have : tlC s k = 1 := by unfold tlC; rw [if_pos h]
  simp [tlV, tlL, tlS, tlN, this, curZ]
theorem tlV_bad {s : ByteArray} {k : Nat} (h : tlC s k = 2) : tlV s k = .tuple #[.string ⟨#[]⟩, curZ, .int .i64 2] := by
  simp [tlV, tlL, tlS, tlN, h, curZ]
theorem tlV_short {s : ByteArray} {k : Nat} (h : tlC s k = 1) : tlV s k = .tuple #[.string ⟨#[]⟩, curZ, .int .i64 1] := by
  simp [tlV, tlL, tlS, tlN, h, curZ]
theorem tlV_ok {s : ByteArray} {k : Nat} (h : tlC s k = 0) : tlV s k = .tuple #[.string (s.extract k (tlE s k)), .agg #[.string s, .int .i64 ((tlE s k : Int) + 2)], .int .i64 0] := by
  simp [tlV, tlL, tlS, tlN, h]
theorem tlC_10 {s : ByteArray} {k : Nat} (h : tlE s k < s.size) (h1 : (at8 s (tlE s k)).toNat = 10) : tlC s k = 2 := by
  unfold tlC; rw [if_neg (by omega), if_pos h1]
theorem tlC_13end {s : ByteArray} {k : Nat} (h : tlE s k + 1 = s.size) (h1 : (at8 s (tlE s k)).toNat ≠ 10) : tlC s k = 1 := by
  unfold tlC; rw [if_neg (by omega), if_neg h1, if_pos h]
theorem tlC_ok {s : ByteArray} {k : Nat} (h : tlE s k + 1 < s.size) (h1 : (at8 s (tlE s k)).toNat ≠ 10) (h2 : (at8 s (tlE s k + 1)).toNat = 10) : tlC s k = 0 := by
  unfold tlC; rw [if_neg (by omega), if_neg h1, if_neg (by omega), if_pos h2]
theorem tlC_no {s : ByteArray} {k : Nat} (h : tlE s k + 1 < s.size) (h1 : (at8 s (tlE s k)).toNat ≠ 10) (h2 : (at8 s (tlE s k + 1)).toNat ≠ 10) : tlC s k = 2 := by
  unfold tlC; rw [if_neg (by omega), if_neg h1, if_neg (by omega), if_neg h2]
end Go.Proofs.YthdgeepedofleaaGreatDoor
namespace Go.Proofs.YthdgeepedofleaaGreatDoor
set_option linter.unusedVariables false
set_option linter.unusedSimpArgs false
open Go.RowKit
def lineAt (s : ByteArray) (k : Nat) : ByteArray := s.extract k (tlE s k)
theorem tlC_range (s : ByteArray) (k : Nat) : tlC s k = 0 ∨ tlC s k = 1 ∨ tlC s k = 2 := by
  unfold tlC
  split
  · simp
  · split
    · simp
    · split
      · simp
      · split <;> simp
theorem tlE_le {s : ByteArray} {k : Nat} (hk : k ≤ s.size) : tlE s k ≤ s.size := eolLen_le s k hk
theorem tlE_ge (s : ByteArray) (k : Nat) : k ≤ tlE s k := Nat.le_add_right _ _
theorem tlE_ok {s : ByteArray} {k : Nat} (hk : k ≤ s.size) (h : tlC s k = 0) : tlE s k + 2 ≤ s.size := by
  have h1 := tlE_le hk
  unfold tlC at h
  split at h
  · cases h
  · split at h
    · cases h
    · split at h
      · cases h
      · omega
theorem lineAt_size {s : ByteArray} {k : Nat} (hk : k ≤ s.size) : (lineAt s k).size = tlE s k - k := by
  have h1 := tlE_le hk
  unfold lineAt
  rw [ByteArray.size_extract]
  omega
theorem tlV_not {s : ByteArray} {k : Nat} (h : tlC s k ≠ 0) : ∃ c : Int, (c != 0) = true ∧ tlV s k = .tuple #[.string ⟨#[]⟩, curZ, .int .i64 c] := by
  rcases tlC_range s k with h1 | h1 | h1
  · exact absurd h1 h
  · exact ⟨1, rfl, tlV_short h1⟩
  · exact ⟨2, rfl, tlV_bad h1⟩
theorem lenE_nil {s : ByteArray} {k : Nat} (hk : k ≤ s.size) : (lineAt s k).toList.isEmpty = decide (tlE s k = k) := by
  have hz := lineAt_size hk
  have hg := tlE_ge s k
  have hl : (lineAt s k).toList.length = tlE s k - k := by rw [ByteArray.toList_eq, len_data, hz]
  cases h : (lineAt s k).toList with
  | nil => rw [h] at hl; simp at hl; simp; omega
  | cons a r => rw [h] at hl; simp at hl; simp; omega
end Go.Proofs.YthdgeepedofleaaGreatDoor
namespace Go.Proofs.YthdgeepedofleaaGreatDoor
set_option linter.unusedVariables false
set_option linter.unusedSimpArgs false
open Go.RowKit
/-- The code of a head's line at k, its text and the place behind it. -/
def hlC (s : ByteArray) (k : Nat) : Int := if tlC s k = 0 then (if 300 < tlE s k - k ∨ 1500 < tlE s k + 2 then 431 else 0) else 400
theorem hlC_bad {s : ByteArray} {k : Nat} (h : tlC s k ≠ 0) : hlC s k = 400 := by unfold hlC; rw [if_neg h]
theorem hlC_zero {s : ByteArray} {k : Nat} (h : hlC s k = 0) : tlC s k = 0 ∧ tlE s k - k ≤ 300 ∧ tlE s k + 2 ≤ 1500 := by
  unfold hlC at h
  split at h
  · rename_i h1
    split at h
    · cases h
    · rename_i h2
      exact ⟨h1, by omega, by omega⟩
  · cases h
end Go.Proofs.YthdgeepedofleaaGreatDoor
namespace Go.Proofs.YthdgeepedofleaaGreatDoor
set_option linter.unusedVariables false
set_option linter.unusedSimpArgs false
open Go.RowKit
/-- Where the first ' ' stands, or -1. -/
def idxW (s : ByteArray) : Int := Lib.indexByte s.data.toList 32
theorem idxW_some {s : ByteArray} {i : Nat} (h : idxW s = (i : Int)) : i < s.size ∧ at8 s i = 32 ∧ ∀ j, j < i → at8 s j ≠ 32 := by
  obtain ⟨h1, h2⟩ := Lib.indexByte_some h
  have hi : i < s.data.toList.length := (List.getElem?_eq_some_iff.1 h1).1
  rw [len_data] at hi
  refine ⟨hi, by unfold at8; rw [List.getD, h1]; rfl, fun j hj he => h2 j hj ?_⟩
  have hj' : j < s.data.toList.length := by rw [len_data]; omega
  unfold at8 at he
  rw [List.getD, List.getElem?_eq_getElem hj'] at he
  rw [List.getElem?_eq_getElem hj']
  simpa using he
theorem idxW_none {s : ByteArray} (h : idxW s = -1) : ∀ j, j < s.size → at8 s j ≠ 32 := by
  intro j hj he
  have hj' : j < s.data.toList.length := by rw [len_data]; omega
  refine Lib.indexByte_none h j ?_
  unfold at8 at he
  rw [List.getD, List.getElem?_eq_getElem hj'] at he
  rw [List.getElem?_eq_getElem hj']
  simpa using he
theorem idxW_cases (s : ByteArray) : idxW s = -1 ∨ ∃ i : Nat, idxW s = (i : Int) ∧ i < s.size := by
  have h := Lib.indexByte_ge s.data.toList 32
  by_cases h1 : idxW s = -1
  · exact .inl h1
  · right
    have h2 : -1 ≤ idxW s := h
    have h3 : idxW s = ((idxW s).toNat : Int) := by omega
    exact ⟨(idxW s).toNat, h3, (idxW_some h3).1⟩
theorem idxW_of {s : ByteArray} {i : Nat} (h1 : i < s.size) (h2 : at8 s i = 32) (h3 : ∀ j, j < i → at8 s j ≠ 32) : idxW s = (i : Int) := by
  rcases idxW_cases s with h | ⟨k, hk, _⟩
  · exact absurd h2 (idxW_none h i h1)
  · obtain ⟨g1, g2, g3⟩ := idxW_some hk
    rcases Nat.lt_trichotomy k i with h | h | h
    · exact absurd g2 (h3 k h)
    · rw [hk, h]
    · exact absurd h2 (g3 i h)
theorem idxW_B (s : ByteArray) : Lib.indexB s ⟨#[32]⟩ = idxW s := by
  show Lib.index s.data.toList [32] = _
  exact Lib.index_one _ _
theorem at8_ext {s : ByteArray} {a b j : Nat} (hb : b ≤ s.size) (hj : a + j < b) : at8 (s.extract a b) j = at8 s (a + j) := by
  have h1 : j < (s.extract a b).size := by rw [ByteArray.size_extract]; omega
  have h2 : a + j < s.size := by omega
  unfold at8
  rw [Lib.extract_data]
  simp only [List.getD]
  rw [List.getElem?_take_of_lt (by omega), List.getElem?_drop]
/-- HTTP/1.1, and with a blank ahead. -/
def verB : ByteArray := ⟨#[72, 84, 84, 80, 47, 49, 46, 49]⟩
def verW : ByteArray := ⟨#[32, 72, 84, 84, 80, 47, 49, 46, 49]⟩
/-- The parts of a line. -/
def prtL (s : ByteArray) : List ByteArray := Lib.splitB ⟨#[32]⟩ 0 (Lib.countB s ⟨#[32]⟩) s
theorem prtL_none {s : ByteArray} (h : idxW s = -1) : Lib.countB s ⟨#[32]⟩ = 0 ∧ prtL s = [s] := by
  have h1 : Lib.countB s ⟨#[32]⟩ = 0 := Lib.countB_miss s _ (by rw [idxW_B]; exact h)
  exact ⟨h1, by unfold prtL; rw [h1]; rfl⟩
theorem prtL_some {s : ByteArray} {i : Nat} (h : idxW s = (i : Int)) : Lib.countB s ⟨#[32]⟩ = 1 + Lib.countB (s.extract (i + 1) s.size) ⟨#[32]⟩ ∧ prtL s = s.extract 0 i :: prtL (s.extract (i + 1) s.size) := by
  have h0 : Lib.indexB s ⟨#[32]⟩ = (i : Int) := by rw [idxW_B]; exact h
  have h1 := Lib.countB_hit s ⟨#[32]⟩ i (Nat.le_refl _) h0
  have e : (⟨#[32]⟩ : ByteArray).size = 1 := rfl
  rw [e] at h1
  refine ⟨h1, ?_⟩
  unfold prtL
  rw [h1, Nat.add_comm, Lib.splitB_hit _ _ _ _ i h0, e, Nat.add_zero]
theorem prtL_len (s : ByteArray) : (prtL s).length = Lib.countB s ⟨#[32]⟩ + 1 := Lib.splitB_all _ (Nat.le_refl _) 0 _ s rfl
/-- How many bytes stand ahead of the first blank. -/
def aheadN (s : ByteArray) : Nat := if idxW s = -1 then s.size else (idxW s).toNat
def rqM (me ta : ByteArray) : Mg := ⟨me, ta, 0, ⟨#[]⟩, false, [], ⟨#[]⟩⟩
/-- The first line of a request. -/
def rqO (s : ByteArray) : Option (ByteArray × ByteArray) :=
  if aheadN s + 11 ≤ s.size ∧ s.extract (s.size - 9) s.size = verW ∧ reqQ (rqM (s.extract 0 (aheadN s)) (s.extract (aheadN s + 1) (s.size - 9))) = true then some (s.extract 0 (aheadN s), s.extract (aheadN s + 1) (s.size - 9)) else none
/-- The same by the parts. -/
def rqP (s : ByteArray) : Option (ByteArray × ByteArray) :=
  match prtL s with
  | [p, q, r] => if r = verB ∧ reqQ (rqM p q) = true then some (p, q) else none
  | _ => none
theorem vis_no32 {s : ByteArray} (h : allB vis8 s = true) {j : Nat} (hj : j < s.size) : at8 s j ≠ 32 := by
  intro h1
  have := allB_no (p := vis8) hj (by rw [h1]; rfl)
  rw [h] at this; cases this
theorem verW_tail (s : ByteArray) (h9 : 9 ≤ s.size) (h : s.extract (s.size - 9) s.size = verW) : s.extract (s.size - 8) s.size = verB := by
  have e : (s.extract (s.size - 9) s.size).extract 1 9 = s.extract (s.size - 8) s.size := by
    rw [ByteArray.extract_extract]
    congr 1 <;> omega
  have e2 : verW.extract 1 9 = verB := by
    apply bytes_ext
    rw [Lib.extract_data]
    rfl
  rw [← e, h]
  exact e2
theorem verW_mk (s : ByteArray) (h9 : 9 ≤ s.size) (h : s.extract (s.size - 8) s.size = verB) (h0 : at8 s (s.size - 9) = 32) : s.extract (s.size - 9) s.size = verW := by
  apply bytes_ext
  have hl : s.size - 9 < s.data.toList.length := by rw [len_data]; omega
  have e1 := congrArg (fun b : ByteArray => b.data.toList) h
  simp only [Lib.extract_data] at e1
  rw [Lib.extract_data, List.drop_eq_getElem_cons hl, show s.size - (s.size - 9) = (s.size - (s.size - 8)) + 1 by omega, List.take_succ_cons, show s.size - 9 + 1 = s.size - 8 by omega, e1]
  have h2 : s.data.toList[s.size - 9] = 32 := by
    unfold at8 at h0
    rw [List.getD, List.getElem?_eq_getElem hl] at h0
    exact h0
  rw [h2]
  rfl
theorem verW_no32 : ∀ j, j < 8 → at8 verB j ≠ 32 := by decide
theorem rq_same (s : ByteArray) : rqP s = rqO s := by
  have last : ∀ (h : s.extract (s.size - 9) s.size = verW) (h9 : 9 ≤ s.size), at8 s (s.size - 9) = 32 := by
    intro h h9
    have h1 := at8_ext (s := s) (a := s.size - 9) (b := s.size) (j := 0) (Nat.le_refl _) (by omega)
    rw [h] at h1
    rw [Nat.add_zero] at h1
    rw [← h1]; rfl
  rcases idxW_cases s with h0 | ⟨i0, h0, hi0⟩
  · have e1 : rqP s = none := by unfold rqP; rw [(prtL_none h0).2]
    rw [e1]
    unfold rqO aheadN
    rw [if_pos h0, if_neg (by omega)]
  · have ha : aheadN s = i0 := by unfold aheadN; rw [if_neg (by omega), h0, Int.toNat_natCast]
    obtain ⟨g0, g1, g2⟩ := idxW_some h0
    have hr1 : (s.extract (i0 + 1) s.size).size = s.size - (i0 + 1) := by rw [ByteArray.size_extract]; omega
    have hp := (prtL_some h0).2
    rcases idxW_cases (s.extract (i0 + 1) s.size) with h1 | ⟨i1, h1, hi1⟩
    · have e1 : rqP s = none := by unfold rqP; rw [hp, (prtL_none h1).2]
      rw [e1]
      unfold rqO
      rw [ha, if_neg]
      rintro ⟨c1, c2, _⟩
      have h32 := last c2 (by omega)
      have := idxW_none h1 (s.size - 9 - (i0 + 1)) (by omega)
      rw [at8_ext (Nat.le_refl _) (by omega), show i0 + 1 + (s.size - 9 - (i0 + 1)) = s.size - 9 by omega] at this
      exact this h32
    · obtain ⟨k0, k1, k2⟩ := idxW_some h1
      have hp2 := (prtL_some h1).2
      have q1 : (s.extract (i0 + 1) s.size).extract 0 i1 = s.extract (i0 + 1) (i0 + 1 + i1) := by
        rw [ByteArray.extract_extract]; congr 1; omega
      have q2 : (s.extract (i0 + 1) s.size).extract (i1 + 1) (s.extract (i0 + 1) s.size).size = s.extract (i0 + 1 + i1 + 1) s.size := by
        rw [hr1, ByteArray.extract_extract]; congr 1; omega
      rw [q1, q2] at hp2
      rw [at8_ext (Nat.le_refl _) (by omega)] at k1
      have k3 : ∀ j, j < i1 → at8 s (i0 + 1 + j) ≠ 32 := by
        intro j hj
        have := k2 j hj
        rwa [at8_ext (Nat.le_refl _) (by omega)] at this
      have hr2 : (s.extract (i0 + 1 + i1 + 1) s.size).size = s.size - (i0 + 1 + i1 + 1) := by rw [ByteArray.size_extract]; omega
      have early : ∀ (c1 : i0 + 11 ≤ s.size) (c2 : s.extract (s.size - 9) s.size = verW), i0 + 1 + i1 ≤ s.size - 9 := by
        intro c1 c2
        rcases Nat.lt_or_ge (s.size - 9) (i0 + 1 + i1) with hlt | hge
        · exfalso
          have := k3 (s.size - 9 - (i0 + 1)) (by omega)
          rw [show i0 + 1 + (s.size - 9 - (i0 + 1)) = s.size - 9 by omega] at this
          exact this (last c2 (by omega))
        · exact hge
      rcases idxW_cases (s.extract (i0 + 1 + i1 + 1) s.size) with h2 | ⟨i2, h2, hi2⟩
      · have e1 : rqP s = if s.extract (i0 + 1 + i1 + 1) s.size = verB ∧ reqQ (rqM (s.extract 0 i0) (s.extract (i0 + 1) (i0 + 1 + i1))) = true then some (s.extract 0 i0, s.extract (i0 + 1) (i0 + 1 + i1)) else none := by
          unfold rqP; rw [hp, hp2, (prtL_none h2).2]
        rw [e1]
        unfold rqO
        rw [ha]
        by_cases hv : s.extract (i0 + 1 + i1 + 1) s.size = verB
        · have hsz : s.size = i0 + 1 + i1 + 1 + 8 := by
            have := congrArg ByteArray.size hv
            rw [hr2] at this
            have e8 : verB.size = 8 := rfl
            omega
          have e9 : i0 + 1 + i1 = s.size - 9 := by omega
          have hW : s.extract (s.size - 9) s.size = verW := verW_mk s (by omega) (by rw [show s.size - 8 = i0 + 1 + i1 + 1 by omega]; exact hv) (by rw [← e9]; exact k1)
          rw [e9]
          by_cases hrq : reqQ (rqM (s.extract 0 i0) (s.extract (i0 + 1) (s.size - 9))) = true
          · have ht := (targQ_iff.1 (reqQ_iff.1 hrq).2.1).1
            have ht2 : (s.extract (i0 + 1) (s.size - 9)).size = s.size - 9 - (i0 + 1) := by rw [ByteArray.size_extract]; omega
            have ht3 : 1 ≤ (s.extract (i0 + 1) (s.size - 9)).size := ht
            rw [show s.size - 9 + 1 = i0 + 1 + i1 + 1 by omega, if_pos ⟨hv, hrq⟩, if_pos ⟨by omega, hW, hrq⟩]
          · rw [if_neg (fun h => hrq h.2), if_neg (fun h => hrq h.2.2)]
        · rw [if_neg (fun h => hv h.1), if_neg]
          rintro ⟨c1, c2, _⟩
          have hge := early c1 c2
          have e9 : i0 + 1 + i1 = s.size - 9 := by
            rcases Nat.lt_or_ge (i0 + 1 + i1) (s.size - 9) with hlt | h
            · exfalso
              have := idxW_none h2 (s.size - 9 - (i0 + 1 + i1 + 1)) (by omega)
              rw [at8_ext (Nat.le_refl _) (by omega), show i0 + 1 + i1 + 1 + (s.size - 9 - (i0 + 1 + i1 + 1)) = s.size - 9 by omega] at this
              exact this (last c2 (by omega))
            · omega
          apply hv
          rw [show i0 + 1 + i1 + 1 = s.size - 8 by omega]
          exact verW_tail s (by omega) c2
      · have e1 : rqP s = none := by
          unfold rqP
          rw [hp, hp2, (prtL_some h2).2]
          have hl := prtL_len ((s.extract (i0 + 1 + i1 + 1) s.size).extract (i2 + 1) (s.extract (i0 + 1 + i1 + 1) s.size).size)
          cases hx : prtL ((s.extract (i0 + 1 + i1 + 1) s.size).extract (i2 + 1) (s.extract (i0 + 1 + i1 + 1) s.size).size) with
          | nil => rw [hx] at hl; simp at hl
          | cons x r => rfl
        rw [e1]
        unfold rqO
        rw [ha, if_neg]
        rintro ⟨c1, c2, c3⟩
        have hge := early c1 c2
        have hv := (targQ_iff.1 (reqQ_iff.1 c3).2.1).2.2
        have e9 : i0 + 1 + i1 = s.size - 9 := by
          rcases Nat.lt_or_ge (i0 + 1 + i1) (s.size - 9) with hlt | h
          · exfalso
            have hj : i1 < (s.extract (i0 + 1) (s.size - 9)).size := by rw [ByteArray.size_extract]; omega
            have := vis_no32 hv hj
            rw [show at8 (rqM (s.extract 0 i0) (s.extract (i0 + 1) (s.size - 9))).ta i1 = at8 (s.extract (i0 + 1) (s.size - 9)) i1 from rfl, at8_ext (by omega) (by omega)] at this
            exact this k1
          · omega
        have hb := verW_tail s (by omega) c2
        obtain ⟨m0, m1, _⟩ := idxW_some h2
        rw [show i0 + 1 + i1 + 1 = s.size - 8 by omega, hb] at m1
        exact verW_no32 i2 (by omega) m1
end Go.Proofs.YthdgeepedofleaaGreatDoor
namespace Go.Proofs.YthdgeepedofleaaGreatDoor
set_option linter.unusedVariables false
set_option linter.unusedSimpArgs false
open Go.RowKit

def rdecN (s : ByteArray) : Int := ((rdec s).getD 0 : Nat)
def rdecOk (s : ByteArray) : Bool := (rdec s).isSome
theorem rdec_none {s : ByteArray} (h : rdec s = none) : rdecN s = 0 ∧ rdecOk s = false := by simp [rdecN, rdecOk, h]
theorem rdec_some {s : ByteArray} {u : Nat} (h : rdec s = some u) : rdecN s = (u : Int) ∧ rdecOk s = true := by simp [rdecN, rdecOk, h]
theorem ret_ib {k : IntKind} {n m : Int} {a b : Bool} (h : m = n) (h' : b = a) : Ending.returned (.tuple #[.int k n, .bool a]) = .returned (.tuple #[.int k m, .bool b]) := by rw [h, h']

set_option maxHeartbeats 1000000 in
theorem sReadDec_any (s : ByteArray) (w : World) (hs : s.size ≤ maxLen) :
    Calls Tryz.prog 126 #[.string s] w fun e w' => e = .returned (.tuple #[.int .i64 (rdecN s), .bool (rdecOk s)]) ∧ Below w.heap.size w w' := by
  unfold maxLen at hs
  by_cases h0 : s.size = 0
  · have hr := rdec_none (rdec_size s (Or.inl h0))
    have hne : ((s.size : Int) == 0) = true := by rw [beq_iff_eq]; omega
    rw [hr.1, hr.2]
    clear hr
    go_enter Tryz.func126, Tryz.ntmps126
    go_wp2
    go_ret2
    exact ⟨rfl, Below.refl _ _⟩
  · have hne2 : ((s.size : Int) == 0) = false := by rw [Bool.eq_false_iff, ne_eq, beq_iff_eq]; omega
    by_cases hbig : (15 : Int) < (s.size : Int)
    · have hr := rdec_none (rdec_size s (Or.inr (by omega)))
      rw [hr.1, hr.2]
      clear hr
      go_enter Tryz.func126, Tryz.ntmps126
      go_wp2
      go_ret2
      exact ⟨rfl, Below.refl _ _⟩
    · go_enter Tryz.func126, Tryz.ntmps126
      go_wp2
      clear hne2
      go_loop [4, 5] (fun n i => ∃ k : Nat, k ≤ s.size ∧ i = .int .i64 k ∧ n = .int .i64 (valL (s.data.toList.take k) : Nat) ∧ allDig (s.data.toList.take k) = true) (fun _ i => s.size - (intOf i).toNat)
      case atStart => exact ⟨0, Nat.zero_le _, rfl, rfl, rfl⟩
      case round =>
        obtain ⟨k, hk, rfl, rfl, hall⟩ := hrel
        have Hall : Hid (allDig (s.data.toList.take k) = true) := hall
        have hvl : valL (s.data.toList.take k) < 1000000000000000 := by
          have h1 := valL_lt _ hall
          have h3 : 10 ^ (s.data.toList.take k).length ≤ 10 ^ 15 := Nat.pow_le_pow_right (by decide) (by simp; omega)
          have h4 : (10 : Nat) ^ 15 = 1000000000000000 := by decide
          omega
        clear hall
        by_cases hlt : k < s.size
        · cases hg0 : dig8 (at8 s k)
          · have hg : digP (s[k].toNat : Int) = false := by rw [at8_eq s k hlt]; exact hg0
            have hfin : Hid (rdecN s = 0 ∧ rdecOk s = false) := rdec_none (rdec_nodig s k hlt hg0)
            clear hg0
            go_wp2_with (go_at_call 166; refine (l1digit_any _ _).mono ?_; rintro e w' ⟨rfl, rfl⟩)
            go_ret2
            exact ⟨ret_ib hfin.out.1 hfin.out.2, Below.refl _ _⟩
          · have hg : digP (s[k].toNat : Int) = true := by rw [at8_eq s k hlt]; exact hg0
            have hb := (dig8_iff _).1 hg0
            have hval : Hid (valL (s.data.toList.take (k + 1)) = valL (s.data.toList.take k) * 10 + (s[k].toNat - 48)) := by
              show _ = _
              rw [allDig_take_succ s k hlt, valL_snoc, at8_eq s k hlt]
            have Hall2 : Hid (allDig (s.data.toList.take (k + 1)) = true) := by
              show _ = _
              rw [allDig_take_succ s k hlt]; exact allDig_snoc _ _ Hall.out hg0
            have hb1 : 48 ≤ s[k].toNat := by rw [at8_eq s k hlt]; exact hb.1
            have hb2 : s[k].toNat ≤ 57 := by rw [at8_eq s k hlt]; exact hb.2
            clear hg0 hb
            generalize valL (s.data.toList.take k) = v at *
            go_wp2_with (go_at_call 166; refine (l1digit_any _ _).mono ?_; rintro e w' ⟨rfl, rfl⟩)
            go_round
            case rel => exact ⟨k + 1, by omega, by go_num, congrArg (Value.int .i64) (by rw [hval.out]; omega), Hall2.out⟩
            case measure => simp [intOf]; omega
        · obtain rfl : k = s.size := by omega
          have ht : s.data.toList.take s.size = s.data.toList := List.take_of_length_le (by rw [len_data]; exact Nat.le_refl _)
          rw [ht] at Hall hvl ⊢
          have hd := decDigits_len (valL s.data.toList) (by omega)
          have hfin : Hid ((eqB (decB (valL s.data.toList)) s = true ∧ rdecN s = (valL s.data.toList : Nat) ∧ rdecOk s = true) ∨ (eqB (decB (valL s.data.toList)) s = false ∧ rdecN s = 0 ∧ rdecOk s = false)) := by
            show _ ∨ _
            by_cases he : Lib.decDigits (valL s.data.toList) = s.data.toList
            · left
              exact ⟨eqB_iff.2 (bytes_ext he), rdec_some (rdec_yes s (by omega) (by omega) Hall.out he)⟩
            · right
              refine ⟨Bool.eq_false_iff.2 (fun hh => he ?_), rdec_none (rdec_ne s he)⟩
              exact (decB_list _).symm.trans (congrArg (fun x : ByteArray => x.data.toList) (eqB_iff.1 hh))
          clear Hall ht hd
          generalize valL s.data.toList = v at *
          rcases hfin.out with ⟨he, hn, ho⟩ | ⟨he, hn, ho⟩
          all_goals
            have HF : Hid (rdecN s = _ ∧ rdecOk s = _) := ⟨hn, ho⟩
            clear hn ho hfin
            unfold eqB at he
            go_wp2_with (go_at_call 93; refine (sDecText_nat _ _ (by omega)).mono ?_; rintro e w1 ⟨rfl, hb⟩)
            go_ret2
            exact ⟨ret_ib HF.out.1 HF.out.2, hb⟩
set_option maxHeartbeats 1000000 in
theorem ReadDec_any (s : ByteArray) (w : World) (hs : s.size ≤ maxLen) :
    Calls Tryz.prog 225 #[.string s] w fun e w' => e = .returned (.tuple #[.int .i64 (rdecN s), .bool (rdecOk s)]) ∧ w' = w := by
  unfold maxLen at hs
  by_cases h0 : s.size = 0
  · have hr := rdec_none (rdec_size s (Or.inl h0))
    have hne : s.toList.isEmpty = true := by rw [ByteArray.toList_eq, List.isEmpty_iff, ← List.length_eq_zero_iff, Array.length_toList]; exact h0
    rw [hr.1, hr.2]
    clear hr
    go_enter Tryz.func225, Tryz.ntmps225
    go_wp2
    go_ret2
    exact ⟨rfl, rfl⟩
  · have hne : s.toList.isEmpty = false := by
      rw [ByteArray.toList_eq, List.isEmpty_eq_false_iff]
      intro hh
      apply h0
      rw [← len_data, hh]; rfl
    have hpos : 0 < s.size := by omega
    by_cases hz : (at8 s 0).toNat = 48 ∧ s.data.toList ≠ [48]
    · have hr := rdec_none (rdec_zero s hpos hz.1 hz.2)
      have hq1 : ((s[0].toNat : Int) == 48) = true := by rw [beq_iff_eq, at8_eq s 0 hpos]; omega
      have hq2 : (s.toList == [48]) = false := by rw [ByteArray.toList_eq, beq_eq_false_iff_ne]; exact hz.2
      rw [hr.1, hr.2]
      clear hr hz
      go_enter Tryz.func225, Tryz.ntmps225
      go_wp2
      go_ret2
      exact ⟨rfl, rfl⟩
    · have hz' : Hid ((at8 s 0).toNat ≠ 48 ∨ s.data.toList = [48]) := by
        show _ ∨ _
        by_cases h1 : (at8 s 0).toNat = 48
        · right; exact Classical.byContradiction fun h2 => hz ⟨h1, h2⟩
        · left; exact h1
      have hway : (((s[0].toNat : Int) == 48) = false) ∨ (((s[0].toNat : Int) == 48) = true ∧ (s.toList == [48]) = true) := by
        rcases hz'.out with h | h
        · left; rw [beq_eq_false_iff_ne, at8_eq s 0 hpos]; omega
        · by_cases h1 : ((s[0].toNat : Int) == 48) = true
          · right; exact ⟨h1, by rw [ByteArray.toList_eq, h]; rfl⟩
          · left; simpa using h1
      clear hz
      rcases hway with hq1 | ⟨hq1, hq2⟩
      all_goals
        go_enter Tryz.func225, Tryz.ntmps225
        go_wp2
        clear hne
        go_loop [4, 19] (fun n i => ∃ k : Nat, k ≤ s.size ∧ i = .int .i64 k ∧ n = .int .i64 (valL (s.data.toList.take k) : Nat) ∧ allDig (s.data.toList.take k) = true ∧ valL (s.data.toList.take k) ≤ 999999999999999) (fun _ i => s.size - (intOf i).toNat)
        case atStart => exact ⟨0, Nat.zero_le _, rfl, rfl, rfl, by simp [valL]⟩
        case round =>
          obtain ⟨k, hk, rfl, rfl, hall, hvl⟩ := hrel
          have Hall : Hid (allDig (s.data.toList.take k) = true) := hall
          clear hall
          by_cases hlt : k < s.size
          · cases hg0 : dig8 (at8 s k)
            · have hg : digP (s[k].toNat : Int) = false := by rw [at8_eq s k hlt]; exact hg0
              have hfin : Hid (rdecN s = 0 ∧ rdecOk s = false) := rdec_none (rdec_nodig s k hlt hg0)
              clear hg0
              go_wp2_with (go_at_call 261; refine (digitByte_any _ _).mono ?_; rintro e w' ⟨rfl, rfl⟩)
              go_ret2
              exact ⟨ret_ib hfin.out.1 hfin.out.2, rfl⟩
            · have hg : digP (s[k].toNat : Int) = true := by rw [at8_eq s k hlt]; exact hg0
              have hb := (dig8_iff _).1 hg0
              have hval0 : valL (s.data.toList.take (k + 1)) = valL (s.data.toList.take k) * 10 + (s[k].toNat - 48) := by
                rw [allDig_take_succ s k hlt, valL_snoc, at8_eq s k hlt]
              have Hall2 : Hid (allDig (s.data.toList.take (k + 1)) = true) := by
                show _ = _
                rw [allDig_take_succ s k hlt]; exact allDig_snoc _ _ Hall.out hg0
              have hb1 : 48 ≤ s[k].toNat := by rw [at8_eq s k hlt]; exact hb.1
              have hb2 : s[k].toNat ≤ 57 := by rw [at8_eq s k hlt]; exact hb.2
              have hbig : Hid (999999999999999 < valL (s.data.toList.take (k + 1)) → rdecN s = 0 ∧ rdecOk s = false) := fun h => rdec_none (rdec_big s (k + 1) hlt Hall2.out h)
              have hval : Hid (valL (s.data.toList.take (k + 1)) = valL (s.data.toList.take k) * 10 + (s[k].toNat - 48)) := hval0
              clear hg0 hb hval0
              generalize valL (s.data.toList.take k) = v at *
              by_cases hover : (999999999999999 : Int) < (v : Int) * 10 + ((s[k].toNat : Int) - 48)
              · go_wp2_with (go_at_call 261; refine (digitByte_any _ _).mono ?_; rintro e w' ⟨rfl, rfl⟩)
                go_ret2
                have hh := hbig.out (by rw [hval.out]; omega)
                exact ⟨ret_ib hh.1 hh.2, rfl⟩
              · go_wp2_with (go_at_call 261; refine (digitByte_any _ _).mono ?_; rintro e w' ⟨rfl, rfl⟩)
                go_round
                case rel => exact ⟨k + 1, by omega, by go_num, congrArg (Value.int .i64) (by rw [hval.out]; omega), Hall2.out, by rw [hval.out]; omega⟩
                case measure => simp [intOf]; omega
          · obtain rfl : k = s.size := by omega
            have ht : s.data.toList.take s.size = s.data.toList := List.take_of_length_le (by rw [len_data]; exact Nat.le_refl _)
            rw [ht] at Hall hvl ⊢
            have hfin : Hid (rdecN s = (valL s.data.toList : Nat) ∧ rdecOk s = true) := rdec_some (rdec_end s hpos Hall.out hz'.out hvl)
            clear ht
            generalize valL s.data.toList = v at *
            go_wp2
            go_ret2
            exact ⟨ret_ib hfin.out.1 hfin.out.2, rfl⟩
end Go.Proofs.YthdgeepedofleaaGreatDoor
namespace Go.Proofs.YthdgeepedofleaaGreatDoor
set_option linter.unusedVariables false
set_option linter.unusedSimpArgs false
open Go.RowKit
theorem dec_three {u : Nat} (h1 : 200 ≤ u) (h2 : u ≤ 599) : (Lib.decDigits u).length = 3 := by
  rw [decDigits_step u (by omega), decDigits_step (u / 10) (by omega), List.length_append, List.length_append, Lib.decDigits, dif_pos (by omega)]
  rfl
theorem rdec_list {s : ByteArray} {u : Nat} (hs : rdec s = some u) : s.data.toList = Lib.decDigits u ∧ allDig s.data.toList = true := by
  unfold rdec at hs
  split at hs
  · rename_i hc
    have := Option.some.inj hs
    rw [← this]; exact ⟨hc.2.2.2.symm, hc.2.2.1⟩
  · cases hs
theorem rdec_three {s : ByteArray} (ho : rdecOk s = true) (h1 : 200 ≤ rdecN s) (h2 : rdecN s ≤ 599) : s.size = 3 := by
  unfold rdecOk at ho
  obtain ⟨u, hu⟩ := Option.isSome_iff_exists.1 ho
  unfold rdecN at h1 h2
  rw [hu] at h1 h2
  simp only [Option.getD_some] at h1 h2
  rw [← len_data, (rdec_list hu).1]
  exact dec_three (by omega) (by omega)
theorem rdec_no32 {s : ByteArray} (ho : rdecOk s = true) {j : Nat} (hj : j < s.size) : at8 s j ≠ 32 := by
  unfold rdecOk at ho
  obtain ⟨u, hu⟩ := Option.isSome_iff_exists.1 ho
  have h := (rdec_list hu).2
  unfold allDig at h
  rw [List.all_eq_true] at h
  have hl : j < s.data.toList.length := by rw [len_data]; exact hj
  have h1 := h _ (List.getElem_mem hl)
  intro h2
  unfold at8 at h2
  rw [List.getD, List.getElem?_eq_getElem hl] at h2
  have h3 : s.data.toList[j] = 32 := h2
  rw [h3] at h1
  cases h1
/-- The parts of an answer's line: three at most. -/
def prt3 (s : ByteArray) : List ByteArray := Lib.splitB ⟨#[32]⟩ 0 (min 3 (s.size + 1) - 1) s
def verV : ByteArray := ⟨#[72, 84, 84, 80, 47, 49, 46, 49, 32]⟩
def anM (n : Int) (re : ByteArray) : Mg := ⟨⟨#[]⟩, ⟨#[]⟩, n, re, false, [], ⟨#[]⟩⟩
/-- The first line of an answer. -/
def anO (s : ByteArray) : Option (Int × ByteArray) :=
  if 13 ≤ s.size ∧ s.extract 0 9 = verV ∧ at8 s 12 = 32 ∧ rdecOk (s.extract 9 12) = true ∧ ansQ (anM (rdecN (s.extract 9 12)) (s.extract 13 s.size)) = true then some (rdecN (s.extract 9 12), s.extract 13 s.size) else none
def anP (s : ByteArray) : Option (Int × ByteArray) :=
  match prt3 s with
  | [p, q, r] => if p = verB ∧ rdecOk q = true ∧ ansQ (anM (rdecN q) r) = true then some (rdecN q, r) else none
  | _ => none
theorem verV_head (s : ByteArray) (h : s.extract 0 9 = verV) : s.extract 0 8 = verB := by
  have e : (s.extract 0 9).extract 0 8 = s.extract 0 8 := by
    rw [ByteArray.extract_extract]; congr 1
  have e2 : verV.extract 0 8 = verB := by
    apply bytes_ext
    rw [Lib.extract_data]
    rfl
  rw [← e, h]; exact e2
theorem verV_mk (s : ByteArray) (h9 : 9 ≤ s.size) (h : s.extract 0 8 = verB) (h0 : at8 s 8 = 32) : s.extract 0 9 = verV := by
  apply bytes_ext
  have hl : 8 < s.data.toList.length := by rw [len_data]; omega
  have e1 := congrArg (fun b : ByteArray => b.data.toList) h
  simp only [Lib.extract_data, Nat.sub_zero, List.drop_zero] at e1
  rw [Lib.extract_data, Nat.sub_zero, List.drop_zero, List.take_succ_eq_append_getElem hl, e1]
  have h2 : s.data.toList[8] = 32 := by
    unfold at8 at h0
    rw [List.getD, List.getElem?_eq_getElem hl] at h0
    exact h0
  rw [h2]
  rfl
theorem an_same (s : ByteArray) : anP s = anO s := by
  have hver : ∀ j, j < 8 → at8 verB j ≠ 32 := verW_no32
  by_cases hs2 : s.size < 2
  · have e2 : anO s = none := by unfold anO; rw [if_neg (by omega)]
    have hl := Lib.splitB_length_le ⟨#[32]⟩ 0 (min 3 (s.size + 1) - 1) s
    rw [e2]
    unfold anP
    have hl2 : (prt3 s).length ≤ 2 := by unfold prt3; omega
    match hx : prt3 s with
    | [] => rfl
    | [_] => rfl
    | [_, _] => rfl
    | _ :: _ :: _ :: _ => rw [hx] at hl2; simp at hl2
  · have hk : min 3 (s.size + 1) - 1 = 2 := by omega
    have hP : prt3 s = Lib.splitB ⟨#[32]⟩ 0 2 s := by unfold prt3; rw [hk]
    have blank8 : ∀ (_ : 13 ≤ s.size) (_ : s.extract 0 9 = verV), idxW s = (8 : Nat) := by
      intro c1 c2
      have hb := verV_head s c2
      refine idxW_of (by omega) ?_ ?_
      · have h1 := at8_ext (s := s) (a := 0) (b := 9) (j := 8) (by omega) (by omega)
        rw [c2] at h1
        rw [Nat.zero_add] at h1
        rw [← h1]; rfl
      · intro j hj
        have h1 := at8_ext (s := s) (a := 0) (b := 8) (j := j) (by omega) (by omega)
        rw [hb, Nat.zero_add] at h1
        rw [← h1]
        exact hver j hj
    rcases idxW_cases s with h0 | ⟨i0, h0, hi0⟩
    · have e1 : anP s = none := by unfold anP; rw [hP, Lib.splitB_miss _ _ _ _ (by rw [idxW_B]; exact h0)]
      rw [e1]
      unfold anO
      rw [if_neg]
      rintro ⟨c1, c2, _⟩
      have := blank8 c1 c2
      omega
    · obtain ⟨g0, g1, g2⟩ := idxW_some h0
      have hr1 : (s.extract (i0 + 1) s.size).size = s.size - (i0 + 1) := by rw [ByteArray.size_extract]; omega
      have hp : Lib.splitB ⟨#[32]⟩ 0 2 s = s.extract 0 i0 :: Lib.splitB ⟨#[32]⟩ 0 1 (s.extract (i0 + 1) s.size) := Lib.splitB_hit ⟨#[32]⟩ 0 1 s i0 (by rw [idxW_B]; exact h0)
      rcases idxW_cases (s.extract (i0 + 1) s.size) with h1 | ⟨i1, h1, hi1⟩
      · have e1 : anP s = none := by unfold anP; rw [hP, hp, Lib.splitB_miss _ _ _ _ (by rw [idxW_B]; exact h1)]
        rw [e1]
        unfold anO
        rw [if_neg]
        rintro ⟨c1, c2, c3, _⟩
        have h8 := blank8 c1 c2
        have e8 : i0 = 8 := by omega
        subst e8
        have := idxW_none h1 3 (by omega)
        rw [at8_ext (Nat.le_refl _) (by omega)] at this
        exact this c3
      · obtain ⟨k0, k1, k2⟩ := idxW_some h1
        have hp2 : Lib.splitB ⟨#[32]⟩ 0 1 (s.extract (i0 + 1) s.size) = [(s.extract (i0 + 1) s.size).extract 0 i1, (s.extract (i0 + 1) s.size).extract (i1 + 1) (s.extract (i0 + 1) s.size).size] := Lib.splitB_hit ⟨#[32]⟩ 0 0 (s.extract (i0 + 1) s.size) i1 (by rw [idxW_B]; exact h1)
        have q1 : (s.extract (i0 + 1) s.size).extract 0 i1 = s.extract (i0 + 1) (i0 + 1 + i1) := by
          rw [ByteArray.extract_extract]; congr 1; omega
        have q2 : (s.extract (i0 + 1) s.size).extract (i1 + 1) (s.extract (i0 + 1) s.size).size = s.extract (i0 + 1 + i1 + 1) s.size := by
          rw [hr1, ByteArray.extract_extract]; congr 1; omega
        rw [q1, q2] at hp2
        rw [at8_ext (Nat.le_refl _) (by omega)] at k1
        have e1 : anP s = if s.extract 0 i0 = verB ∧ rdecOk (s.extract (i0 + 1) (i0 + 1 + i1)) = true ∧ ansQ (anM (rdecN (s.extract (i0 + 1) (i0 + 1 + i1))) (s.extract (i0 + 1 + i1 + 1) s.size)) = true then some (rdecN (s.extract (i0 + 1) (i0 + 1 + i1)), s.extract (i0 + 1 + i1 + 1) s.size) else none := by
          unfold anP; rw [hP, hp, hp2]
        rw [e1]
        unfold anO
        by_cases hc : s.extract 0 i0 = verB ∧ rdecOk (s.extract (i0 + 1) (i0 + 1 + i1)) = true ∧ ansQ (anM (rdecN (s.extract (i0 + 1) (i0 + 1 + i1))) (s.extract (i0 + 1 + i1 + 1) s.size)) = true
        · obtain ⟨c1, c2, c3⟩ := hc
          have e8 : i0 = 8 := by
            have := congrArg ByteArray.size c1
            rw [ByteArray.size_extract] at this
            have e8 : verB.size = 8 := rfl
            omega
          subst e8
          have hst := stQ_iff.1 (ansQ_iff.1 c3).2.1
          have h3 := rdec_three c2 hst.1 hst.2
          rw [ByteArray.size_extract] at h3
          have e3 : i1 = 3 := by omega
          subst e3
          rw [if_pos ⟨c1, c2, c3⟩, if_pos ⟨by omega, verV_mk s (by omega) c1 g1, k1, c2, c3⟩]
        · rw [if_neg hc, if_neg]
          rintro ⟨c1, c2, c3, c4, c5⟩
          have h8 := blank8 c1 c2
          have e8 : i0 = 8 := by omega
          subst e8
          have e3 : i1 = 3 := by
            have h3 : idxW (s.extract (8 + 1) s.size) = (3 : Nat) := by
              refine idxW_of (by omega) ?_ ?_
              · rw [at8_ext (Nat.le_refl _) (by omega)]; exact c3
              · intro j hj
                rw [at8_ext (Nat.le_refl _) (by omega)]
                have hz : j < (s.extract 9 12).size := by rw [ByteArray.size_extract]; omega
                have := rdec_no32 c4 hz
                rwa [at8_ext (by omega) (by omega)] at this
            omega
          subst e3
          exact hc ⟨verV_head s c2, c4, c5⟩
end Go.Proofs.YthdgeepedofleaaGreatDoor
namespace Go.Proofs.YthdgeepedofleaaGreatDoor
set_option linter.unusedVariables false
set_option linter.unusedSimpArgs false
open Go.RowKit
/-- What a first line says: Method, Target, Status, Reason. -/
abbrev Fl := ByteArray × ByteArray × Int × ByteArray
def flX (answer : Bool) (s : ByteArray) : Option Fl := if answer = true then (anO s).map fun x => (⟨#[]⟩, ⟨#[]⟩, x.1, x.2) else (rqO s).map fun x => (x.1, x.2, 0, ⟨#[]⟩)
/-- The fields from k on, and where they end. -/
def lnR (s : ByteArray) : Nat → Nat → List Fd → Except Int (List Fd × Nat)
  | 0, _, _ => .error 431
  | n + 1, k, acc =>
    if hlC s k ≠ 0 then .error (hlC s k)
    else if tlE s k = k then .ok (acc, k + 2)
    else if acc.length = 20 then .error 431
    else if readO (lineAt s k) = true then lnR s n (tlE s k + 2) (acc ++ [readF (lineAt s k)])
    else .error 400
theorem lnR_bad {s : ByteArray} {n k : Nat} {acc : List Fd} (h : hlC s k ≠ 0) : lnR s (n + 1) k acc = .error (hlC s k) := by rw [lnR, if_pos h]
theorem lnR_end {s : ByteArray} {n k : Nat} {acc : List Fd} (h : hlC s k = 0) (h1 : tlE s k = k) : lnR s (n + 1) k acc = .ok (acc, k + 2) := by rw [lnR, if_neg (by omega), if_pos h1]
theorem lnR_full {s : ByteArray} {n k : Nat} {acc : List Fd} (h : hlC s k = 0) (h1 : tlE s k ≠ k) (h2 : acc.length = 20) : lnR s (n + 1) k acc = .error 431 := by rw [lnR, if_neg (by omega), if_neg h1, if_pos h2]
theorem lnR_no {s : ByteArray} {n k : Nat} {acc : List Fd} (h : hlC s k = 0) (h1 : tlE s k ≠ k) (h2 : acc.length ≠ 20) (h3 : readO (lineAt s k) = false) : lnR s (n + 1) k acc = .error 400 := by rw [lnR, if_neg (by omega), if_neg h1, if_neg h2, if_neg (by rw [h3]; simp)]
theorem lnR_next {s : ByteArray} {n k : Nat} {acc : List Fd} (h : hlC s k = 0) (h1 : tlE s k ≠ k) (h2 : acc.length ≠ 20) (h3 : readO (lineAt s k) = true) : lnR s (n + 1) k acc = lnR s n (tlE s k + 2) (acc ++ [readF (lineAt s k)]) := by rw [lnR, if_neg (by omega), if_neg h1, if_neg h2, if_pos h3]
/-- What a head says behind its first line. -/
def hdZ (answer : Bool) (s : ByteArray) : Except Int (Fl × List Fd × Nat) :=
  match flX answer (lineAt s 0) with
  | none => .error 400
  | some h => match lnR s 21 (tlE s 0 + 2) [] with
    | .error c => .error c
    | .ok (fs, n) => .ok (h, fs, n)
/-- What a head says. -/
def hdX (answer : Bool) (s : ByteArray) : Except Int (Fl × List Fd × Nat) :=
  if 4000 < s.size then .error 413
  else if hlC s 0 ≠ 0 then .error (hlC s 0)
  else hdZ answer s
theorem hdX_go {answer : Bool} {s : ByteArray} (h1 : ¬ 4000 < s.size) (h2 : hlC s 0 = 0) : hdX answer s = hdZ answer s := by
  unfold hdX; rw [if_neg h1, if_neg (by omega)]
theorem hdZ_none {answer : Bool} {s : ByteArray} (h : flX answer (lineAt s 0) = none) : hdZ answer s = .error 400 := by unfold hdZ; rw [h]
theorem hdZ_bad {answer : Bool} {s : ByteArray} {x : Fl} {c : Int} (h : flX answer (lineAt s 0) = some x) (h2 : lnR s 21 (tlE s 0 + 2) [] = .error c) : hdZ answer s = .error c := by unfold hdZ; rw [h]; simp only; rw [h2]
theorem hdZ_ok {answer : Bool} {s : ByteArray} {x : Fl} {fs : List Fd} {n : Nat} (h : flX answer (lineAt s 0) = some x) (h2 : lnR s 21 (tlE s 0 + 2) [] = .ok (fs, n)) : hdZ answer s = .ok (x, fs, n) := by unfold hdZ; rw [h]; simp only; rw [h2]
theorem hlC_cases (s : ByteArray) (k : Nat) : hlC s k = 0 ∨ hlC s k = 400 ∨ hlC s k = 431 := by
  unfold hlC
  split
  · split <;> simp
  · simp
theorem lenE_nil2 {s : ByteArray} {k : Nat} (hk : k ≤ s.size) : (lineAt s k).toList.isEmpty = decide (tlE s k = k) := by
  have hz := lineAt_size hk
  have hg := tlE_ge s k
  have hl : (lineAt s k).toList.length = tlE s k - k := by rw [ByteArray.toList_eq, len_data, hz]
  cases h : (lineAt s k).toList with
  | nil => rw [h] at hl; simp at hl; simp; omega
  | cons a r => rw [h] at hl; simp at hl; simp; omega
theorem readF_ok {s : ByteArray} (h : readO s = true) : fieldQ (readF s) = true := by
  have h' := h
  unfold readO at h'
  unfold readF
  rw [if_pos h]
  simp only [Bool.and_eq_true] at h'
  exact h'.2
theorem lnR_facts {s : ByteArray} : ∀ {n k : Nat} {acc fs : List Fd} {m : Nat}, k ≤ s.size → acc.length ≤ 20 → (∀ x ∈ acc, fieldQ x = true) → lnR s n k acc = .ok (fs, m) → fs.length ≤ 20 ∧ m ≤ s.size ∧ ∀ x ∈ fs, fieldQ x = true
  | 0, _, _, _, _, _, _, _, h => by rw [lnR] at h; cases h
  | n + 1, k, acc, fs, m, hk, hl, hq, h => by
    by_cases h0 : hlC s k = 0
    · have hE := tlE_ok hk (hlC_zero h0).1
      by_cases h1 : tlE s k = k
      · rw [lnR_end h0 h1] at h
        injection h with h
        injection h with h2 h3
        subst h2
        exact ⟨hl, by omega, hq⟩
      · by_cases h2 : acc.length = 20
        · rw [lnR_full h0 h1 h2] at h; cases h
        · cases h3 : readO (lineAt s k)
          · rw [lnR_no h0 h1 h2 h3] at h; cases h
          · rw [lnR_next h0 h1 h2 h3] at h
            refine lnR_facts hE (by rw [List.length_append]; simp; omega) (fun x hx => ?_) h
            rcases List.mem_append.1 hx with hx | hx
            · exact hq x hx
            · rw [List.mem_singleton.1 hx]; exact readF_ok h3
    · rw [lnR_bad h0] at h; cases h
theorem flX_sizes {answer : Bool} {s : ByteArray} {a b r : ByteArray} {n : Int} (h : flX answer s = some (a, b, n, r)) : a.size ≤ 20 ∧ b.size ≤ 200 ∧ r.size ≤ 40 := by
  cases answer
  · have h2 : ((rqO s).map fun x => ((x.1, x.2, 0, ⟨#[]⟩) : Fl)) = some (a, b, n, r) := h
    cases hr : rqO s with
    | none => rw [hr] at h2; cases h2
    | some x =>
      rw [hr] at h2
      injection h2 with h2
      injection h2 with e1 h2
      injection h2 with e2 h2
      injection h2 with e3 e4
      subst e1 e2 e4
      unfold rqO at hr
      split at hr
      · rename_i hh
        injection hr with hr
        have hq := reqQ_iff.1 hh.2.2
        have h5 := methQ_iff.1 hq.1
        have h6 := hq.2.1
        subst hr
        refine ⟨h5.2, ?_, Nat.zero_le _⟩
        unfold targQ at h6
        simp only [Bool.and_eq_true, decide_eq_true_eq] at h6
        have h7 := h6.1
        have h8 : ((s.extract (aheadN s + 1) (s.size - 9)).size : Int) ≤ 200 := h7.2
        show (s.extract (aheadN s + 1) (s.size - 9)).size ≤ 200
        omega
      · cases hr
  · have h2 : ((anO s).map fun x => ((⟨#[]⟩, ⟨#[]⟩, x.1, x.2) : Fl)) = some (a, b, n, r) := h
    cases hr : anO s with
    | none => rw [hr] at h2; cases h2
    | some x =>
      rw [hr] at h2
      injection h2 with h2
      injection h2 with e1 h2
      injection h2 with e2 h2
      injection h2 with e3 e4
      subst e1 e2 e4
      unfold anO at hr
      split at hr
      · rename_i hh
        injection hr with hr
        have hq := ansQ_iff.1 hh.2.2.2.2
        subst hr
        exact ⟨Nat.zero_le _, Nat.zero_le _, hq.2.2.1⟩
      · cases hr
theorem totF_of : ∀ {l : List Fd}, (∀ x ∈ l, fieldQ x = true) → totF l ≤ l.length * 230
  | [], _ => Nat.zero_le _
  | x :: r, h => by
    have h1 := fieldQ_sizes (h x (by simp))
    have h2 := totF_of (l := r) (fun y hy => h y (by simp [hy]))
    have h3 : totF (x :: r) = szF x + totF r := by simp [totF]
    rw [h3]
    unfold szF
    simp only [List.length_cons]
    omega
theorem hdX_facts {answer : Bool} {s : ByteArray} {a b r : ByteArray} {n : Int} {fs : List Fd} {m : Nat} (h : hdX answer s = .ok ((a, b, n, r), fs, m)) :
    s.size ≤ 4000 ∧ a.size ≤ 20 ∧ b.size ≤ 200 ∧ r.size ≤ 40 ∧ fs.length ≤ 20 ∧ m ≤ s.size ∧ totF fs ≤ 4600 ∧ ∀ x ∈ fs, fieldQ x = true := by
  unfold hdX at h
  split at h
  · cases h
  · rename_i hs
    split at h
    · cases h
    · rename_i h0
      have h0' : hlC s 0 = 0 := by
        rcases hlC_cases s 0 with h1 | h1 | h1
        · exact h1
        · exact absurd h1 (by intro h2; exact h0 (by rw [h2]; decide))
        · exact absurd h1 (by intro h2; exact h0 (by rw [h2]; decide))
      have hE := tlE_ok (Nat.zero_le _) (hlC_zero h0').1
      cases hf : flX answer (lineAt s 0) with
      | none => rw [hdZ_none hf] at h; cases h
      | some x =>
        cases hl : lnR s 21 (tlE s 0 + 2) [] with
        | error c => rw [hdZ_bad hf hl] at h; cases h
        | ok y =>
          obtain ⟨fs', m'⟩ := y
          rw [hdZ_ok hf hl] at h
          injection h with h
          injection h with h1 h2
          injection h2 with h2 h3
          subst h1 h2 h3
          have k1 := flX_sizes hf
          have k2 := lnR_facts hE (Nat.zero_le _) (by simp) hl
          have k3 := totF_of k2.2.2
          exact ⟨by omega, k1.1, k1.2.1, k1.2.2, k2.1, k2.2.1, by have := k2.1; omega, k2.2.2⟩
end Go.Proofs.YthdgeepedofleaaGreatDoor
