/-
  Chapter 6: a message's head and bytes; the program's side.
-/
import Derived.Test.YtaelopjalfapgabDoorH2
namespace Go.Proofs.YtaelopjalfapgabDoor
set_option linter.unusedVariables false
set_option linter.unusedSimpArgs false
open Go.RowKit
theorem dropWhile_none {α : Type} {p : α → Bool} : ∀ {l : List α}, (∀ x ∈ l, p x = false) → l.dropWhile p = l
  | [], _ => rfl
  | a :: l, h => by rw [List.dropWhile_cons_of_neg (by rw [h a (by simp)]; simp)]
theorem trimL_none {l : List UInt8} (h : ∀ x ∈ l, gap8 x = false) : trimL l = l := by
  unfold trimL
  rw [dropWhile_none h, dropWhile_none (fun x hx => h x (List.mem_reverse.1 hx)), List.reverse_reverse]
theorem dig_plain {b : UInt8} (h : dig8 b = true) : plain8 b = true ∧ gap8 b = false := by
  have h1 := (dig8_iff b).1 h
  constructor
  · unfold plain8 plainP
    have h2 : (32 : Int) ≤ (b.toNat : Int) := by omega
    have h3 : ((b.toNat : Int) != 127) = true := by rw [bne_iff_ne]; omega
    simp [h2, h3]
  · unfold gap8 gapP
    have h2 : ((b.toNat : Int) == 32) = false := beq_eq_false_iff_ne.2 (by omega)
    have h3 : ((b.toNat : Int) == 9) = false := beq_eq_false_iff_ne.2 (by omega)
    rw [h2, h3]; rfl
theorem decB_value {n : Nat} (h : n ≤ 999999999999999) : valQ (decB n) = true := by
  have hd := allDig_dec n
  unfold allDig at hd
  rw [List.all_eq_true] at hd
  have hl := decDigits_len n h
  rw [valQ_iff]
  refine ⟨?_, ?_, ?_⟩
  · show (Lib.decDigits n).toArray.size ≤ 190
    simp; omega
  · unfold plnB
    rw [List.all_eq_true]
    intro x hx
    exact (dig_plain (hd x hx)).1
  · apply bytes_ext
    show trimL (Lib.decDigits n) = Lib.decDigits n
    exact trimL_none fun x hx => (dig_plain (hd x hx)).2
theorem tok_clW : tokB clW = true := by kernel_rfl
theorem clW_field {n : Nat} (h : n ≤ 999999999999999) : fieldQ (clW, decB n) = true := by
  rw [fieldQ_iff]
  exact ⟨by show (14 : Nat) ≤ 40; omega, tok_clW, decB_value h⟩
theorem decT_nat {n : Nat} (h : n ≤ 999999999999999) : decT (n : Int) = decB n := by
  unfold decT; rw [if_pos ⟨by omega, by omega⟩, Int.toNat_natCast]
theorem lenL_yes {m : Mg} (h : tellsQ m = true) (hb : m.bo.size ≤ 1048576) : lenL m = (ftextB (clW, decT (m.bo.size : Int))).data.toList ++ [13, 10] := by
  unfold lenL
  rw [if_pos h, decT_nat (by omega)]
  unfold ftextB
  rw [if_pos (clW_field (by omega))]
  rfl
theorem lenL_no {m : Mg} (h : tellsQ m = false) : lenL m = [] := by unfold lenL; rw [h]; rfl
/-- What is written ahead of field k. -/
def preB (m : Mg) (k : Nat) : ByteArray := ⟨(firstL m ++ [13, 10] ++ linesL (m.fs.take k)).toArray⟩
theorem preB_zero (m : Mg) : preB m 0 = firstB m ++ ⟨#[13, 10]⟩ := by
  apply bytes_ext
  simp [preB, firstB, linesL, Go.Joins.data_append]
theorem preB_next (m : Mg) (k : Nat) (h : k < m.fs.length) : preB m (k + 1) = preB m k ++ (ftextB (fdAt m.fs k) ++ ⟨#[13, 10]⟩) := by
  apply bytes_ext
  simp [preB, linesL_next m.fs k h, Go.Joins.data_append]
theorem preB_size {m : Mg} (h1 : m.me.size ≤ 1048576) (h2 : m.ta.size ≤ 1048576) (h3 : m.re.size ≤ 1048576) (hl : m.fs.length ≤ 20) (k : Nat) : (preB m k).size ≤ 2200000 := by
  have hf := firstB_size h1 h2 h3
  have hf' : (firstL m).length ≤ 2097200 := by
    have : (firstB m).size = (firstL m).length := by show (firstL m).toArray.size = _; simp
    omega
  have hk := linesL_len (m.fs.take k)
  have hk2 : (m.fs.take k).length ≤ 20 := by rw [List.length_take]; omega
  show (firstL m ++ [13, 10] ++ linesL (m.fs.take k)).toArray.size ≤ _
  simp only [List.size_toArray, List.length_append, List.length_cons, List.length_nil]
  omega
theorem headB_yes {m : Mg} (h : tellsQ m = true) (hb : m.bo.size ≤ 1048576) : headB m = preB m m.fs.length ++ (ftextB (clW, decT (m.bo.size : Int)) ++ ⟨#[13, 10]⟩) ++ ⟨#[13, 10]⟩ := by
  apply bytes_ext
  simp [headB, headL, preB, lenL_yes h hb, Go.Joins.data_append]
theorem headB_no {m : Mg} (h : tellsQ m = false) : headB m = preB m m.fs.length ++ ⟨#[13, 10]⟩ := by
  apply bytes_ext
  simp [headB, headL, preB, lenL_no h, Go.Joins.data_append]
set_option maxHeartbeats 4000000 in
theorem headText_any (me ta re bo : ByteArray) (st : Int) (ba : Bool) (fa : Option Addr) (fn fc : Nat) (fs : List Fd) (w : World) (hv : SlF w (.slice fa fn fc) fs) (hn : fs.length = fn) (hq : fieldsQ fs = true) (hme : me.size ≤ 1048576) (hta : ta.size ≤ 1048576) (hre : re.size ≤ 1048576) (hbo : bo.size ≤ 1048576) (htab : Tab10 w) :
    Calls Tryd.prog 29 #[.agg #[.string me, .string ta, .int .i64 st, .string re, .bool ba, .slice fa fn fc, .string bo]] w fun e w' => e = .returned (.string (headB ⟨me, ta, st, re, ba, fs, bo⟩)) ∧ Below w.heap.size w w' := by
  have HB := hideB2 (below_a1 w (.cells #[.string me, .string ta, .int .i64 st, .string re, .bool ba, .slice fa fn fc, .string bo] 29))
  have A1 := hideB2 (Blk.new w #[.string me, .string ta, .int .i64 st, .string re, .bool ba, .slice fa fn fc, .string bo] 29)
  have HV := hideB2 hv
  have HN := hideB2 hn
  have HT := hideB2 htab
  have hl20 : fn ≤ 20 := by rw [← hn]; exact (fieldsQ_iff.1 hq).1
  have HFQ := hideB2 (fun j (hj : j < fs.length) => fieldQ_sizes (fieldsQ_at hq hj))
  have H0 := hideB2 (fun W h => firstText_any me ta re bo st ba fa fn fc fs W hme hta hre h)
  have H1 := hideB2 (fun W => tellsLength_any me ta re bo st ba fa fn fc fs W)
  have P0 := hideB2 (preB_zero ⟨me, ta, st, re, ba, fs, bo⟩)
  have PN := hideB2 (fun k h => preB_next ⟨me, ta, st, re, ba, fs, bo⟩ k h)
  have PS := hideB2 (fun k => preB_size (m := ⟨me, ta, st, re, ba, fs, bo⟩) hme hta hre (by rw [← HN.out] at hl20; exact hl20) k)
  have hf0 := firstB_size (m := ⟨me, ta, st, re, ba, fs, bo⟩) hme hta hre
  have HY := hideB2 (fun h => headB_yes (m := ⟨me, ta, st, re, ba, fs, bo⟩) h hbo)
  have HO := hideB2 (fun h => headB_no (m := ⟨me, ta, st, re, ba, fs, bo⟩) h)
  have hds := decT_size (bo.size : Int)
  have HD := hideB2 (fun W h => DecText_all (bo.size : Int) W h)
  have hft := ftextB_size (x := (clW, decT (bo.size : Int)))
  have HF := hideB2 (fun W => FieldText_any clW (decT (bo.size : Int)) W (by decide) (by unfold maxLen; omega))
  unfold clW at HF hft HY
  clear hv hn htab hq
  generalize headB ⟨me, ta, st, re, ba, fs, bo⟩ = H at *
  generalize tellsQ ⟨me, ta, st, re, ba, fs, bo⟩ = T at *
  generalize firstB ⟨me, ta, st, re, ba, fs, bo⟩ = B0 at *
  generalize hPB : preB ⟨me, ta, st, re, ba, fs, bo⟩ = PB at *
  clear hPB
  simp only at HY HO PN
  generalize decT (bo.size : Int) = D at *
  go_enter Tryd.func29, Tryd.ntmps29
  go_wp2_with fail
  refine (H0.out _ (tab_later HT.out HB.out)).mono ?_
  rintro e w1 ⟨rfl, hb1⟩
  have A2 := hideB2 (A1.out.later hb1)
  have HB2 := hideB2 (below_then HB.out hb1)
  clear hb1 HB A1
  obtain ⟨p0, p1, p2, p3, p4, p5, p6⟩ := A2.out.c7
  go_wp2
  go_loopw [3, 12] (fun o i wr => ∃ k : Nat, k ≤ fn ∧ i = .int .i64 k ∧ o = .string (PB k) ∧ Below w1.heap.size w1 wr) (fun _ i _ => fn - (intOf i).toNat)
  case atStart => exact ⟨0, Nat.zero_le _, rfl, by rw [P0.out], Below.refl _ _⟩
  case round =>
    obtain ⟨k, hk, rfl, rfl, hb⟩ := hrel
    have hps := PS.out k
    clear p0 p1 p2 p3 p4 p5 p6
    by_cases hlt : k < fn
    · have hklt : k < fs.length := by rw [HN.out]; exact hlt
      obtain ⟨b, rfl, hr⟩ := HV.out.row (by omega)
      have hr2 := (hr.keep HB2.out).keep hb
      have q0 := hr2.dat k hklt
      have q1 := hr2.saf k hklt
      have hsz := HFQ.out k hklt
      have HNX := hideB2 (PN.out k hklt)
      have hfs := ftextB_size (x := fdAt fs k)
      have HBW := hideB2 hb
      clear hr hr2 hb hklt
      generalize fdAt fs k = x at *
      obtain ⟨d, s⟩ := x
      simp only at q0 q1 hsz
      have HFT := hideB2 (fun W => FieldText_any d s W (by unfold maxLen; omega) (by unfold maxLen; omega))
      generalize ftextB (d, s) = F at *
      generalize PB k = P at *
      go_wp2_with (go_at_call 56; refine (HFT.out _).mono ?_; rintro e w3 ⟨rfl, hb3⟩)
      refine ⟨⟨k + 1, by omega, by go_num, ?_, below_then (below_then HBW.out (below_a1 wr _)) hb3⟩, by simp [intOf]; omega⟩
      rw [HNX.out]
    · obtain rfl : k = fn := by omega
      obtain ⟨p0, p1, p2, p3, p4, p5, p6⟩ := (A2.out.later hb).c7
      have HBW := hideB2 (below_then HB2.out hb)
      have A3 := hideB2 (A2.out.later hb)
      have HT3 := hideB2 (tab_later HT.out HBW.out)
      clear hb
      cases T
      · have HE := hideB2 (HO.out rfl)
        rw [HN.out] at HE
        generalize PB k = P at *
        go_wp2_with (go_at_call 57; refine (H1.out _).mono ?_; rintro e w3 ⟨rfl, hb3⟩)
        go_ret
        exact ⟨ret_str HE.out, below_then HBW.out hb3⟩
      · have HE := hideB2 (HY.out rfl)
        rw [HN.out] at HE
        generalize PB k = P at *
        generalize ftextB (⟨#[67, 111, 110, 116, 101, 110, 116, 45, 76, 101, 110, 103, 116, 104]⟩, D) = F at *
        go_wp2_with (first
          | (go_at_call 57; refine (H1.out _).mono ?_; rintro e w3 ⟨rfl, hb3⟩; obtain ⟨r0, r1, r2, r3, r4, r5, r6⟩ := (A3.out.later hb3).c7)
          | (go_at_call 58; refine (HD.out _ (tab_later HT3.out hb3)).mono ?_; rintro e w4 ⟨rfl, hb4⟩)
          | (go_at_call 56; refine (HF.out _).mono ?_; rintro e w5 ⟨rfl, hb5⟩))
        go_ret
        exact ⟨ret_str HE.out, below_then (below_then (below_then HBW.out hb3) hb4) hb5⟩
theorem msgQ_no1 {m : Mg} (h : ownQ m.fs = false) : msgQ m = false := by unfold msgQ; rw [h]; rfl
theorem msgQ_no2 {m : Mg} (h : ¬ (m.bo.size : Int) ≤ 600) : msgQ m = false := by unfold msgQ; rw [decide_eq_false h]; simp
theorem msgQ_no3 {m : Mg} (h : kindQ m = false) : msgQ m = false := by unfold msgQ; rw [h]; simp
theorem msgQ_yes {m : Mg} (h1 : ownQ m.fs = true) (h2 : (m.bo.size : Int) ≤ 600) (h3 : kindQ m = true) : msgQ m = decide (((headB m).size : Int) ≤ 1500) := by
  unfold msgQ; rw [h1, decide_eq_true h2, h3]; rfl
theorem headB_small {m : Mg} (h1 : m.me.size ≤ 1048576) (h2 : m.ta.size ≤ 1048576) (h3 : m.re.size ≤ 1048576) (hl : m.fs.length ≤ 20) (hb : m.bo.size ≤ 1048576) : (headB m).size ≤ 2300000 := by
  have hp := preB_size h1 h2 h3 hl m.fs.length
  have hp' : (firstL m ++ [13, 10] ++ linesL (m.fs.take m.fs.length)).toArray.size ≤ 2200000 := hp
  rw [List.take_length] at hp'
  simp only [List.size_toArray, List.length_append, List.length_cons, List.length_nil] at hp'
  have hlen : (lenL m).length ≤ 50 := by
    unfold lenL
    split
    · have hd := decDigits_len m.bo.size (by omega)
      have hc : clW.data.toList.length = 14 := rfl
      simp only [List.length_append, List.length_cons, List.length_nil, hc]; omega
    · simp
  rw [headB_size]
  unfold headL
  simp only [List.length_append, List.length_cons, List.length_nil]
  omega
set_option maxHeartbeats 4000000 in
theorem MsgOk_any (me ta re bo : ByteArray) (st : Int) (ba : Bool) (fa : Option Addr) (fn fc : Nat) (fs : List Fd) (w : World) (hv : SlF w (.slice fa fn fc) fs) (hn : fs.length = fn) (hl : fs.length ≤ 1048576) (ht : totF fs ≤ 1099511627776) (hme : me.size ≤ 1048576) (hta : ta.size ≤ 1048576) (hre : re.size ≤ 1048576) (hbo : bo.size ≤ 1048576) (htab : Tab10 w) :
    Calls Tryd.prog 10 #[.agg #[.string me, .string ta, .int .i64 st, .string re, .bool ba, .slice fa fn fc, .string bo]] w fun e w' => e = .returned (.bool (msgQ ⟨me, ta, st, re, ba, fs, bo⟩)) ∧ Below w.heap.size w w' := by
  have HB := hideB2 (below_a1 w (.cells #[.string me, .string ta, .int .i64 st, .string re, .bool ba, .slice fa fn fc, .string bo] 29))
  have A1 := hideB2 (Blk.new w #[.string me, .string ta, .int .i64 st, .string re, .bool ba, .slice fa fn fc, .string bo] 29)
  have HV := hideB2 hv
  have HN := hideB2 hn
  have HT := hideB2 htab
  have HO := hideB2 (fun W h => ownFieldsOk_any (.slice fa fn fc) fs W h hl ht)
  have HK := hideB2 (fun W => kindOk_any me ta re bo st ba fa fn fc fs W (by unfold maxLen; omega) (by unfold maxLen; omega) (by unfold maxLen; omega))
  clear hv hn htab hl ht
  cases h1 : ownQ fs
  · have HE := hideB2 (msgQ_no1 (m := ⟨me, ta, st, re, ba, fs, bo⟩) h1)
    have H1 := hideB2 h1
    clear h1
    go_enter Tryd.func10, Tryd.ntmps10
    go_wp2_with (go_at_call 27; refine (HO.out _ (HV.out.later HB.out)).mono ?_; rintro e w1 ⟨rfl, hb1⟩; rw [H1.out])
    go_ret
    exact ⟨ret_bool HE.out, below_then HB.out hb1⟩
  · have hq := (ownQ_iff.1 h1).1
    have hl20 := (fieldsQ_iff.1 hq).1
    have HX := hideB2 (fun W h h' => headText_any me ta re bo st ba fa fn fc fs W h HN.out hq hme hta hre hbo h')
    have hsm := headB_small (m := ⟨me, ta, st, re, ba, fs, bo⟩) hme hta hre hl20 hbo
    by_cases h2 : (bo.size : Int) ≤ 600
    · cases h3 : kindQ ⟨me, ta, st, re, ba, fs, bo⟩
      · have HE := hideB2 (msgQ_no3 (m := ⟨me, ta, st, re, ba, fs, bo⟩) h3)
        have H1 := hideB2 h1
        have H3 := hideB2 h3
        clear h1 h3 hq hl20 hsm
        go_enter Tryd.func10, Tryd.ntmps10
        go_wp2_with (first
          | (go_at_call 27; refine (HO.out _ (HV.out.later HB.out)).mono ?_; rintro e w1 ⟨rfl, hb1⟩; rw [H1.out]; obtain ⟨p0, p1, p2, p3, p4, p5, p6⟩ := (A1.out.later hb1).c7)
          | (go_at_call 28; refine (HK.out _).mono ?_; rintro e w2 ⟨rfl, hb2⟩; rw [H3.out]))
        go_ret
        exact ⟨ret_bool HE.out, below_then (below_then HB.out hb1) hb2⟩
      · have HE := hideB2 (msgQ_yes (m := ⟨me, ta, st, re, ba, fs, bo⟩) h1 h2 h3)
        have H1 := hideB2 h1
        have H3 := hideB2 h3
        clear h1 h3 hq hl20
        generalize headB ⟨me, ta, st, re, ba, fs, bo⟩ = H at *
        go_enter Tryd.func10, Tryd.ntmps10
        go_wp2_with (first
          | (go_at_call 27; refine (HO.out _ (HV.out.later HB.out)).mono ?_; rintro e w1 ⟨rfl, hb1⟩; rw [H1.out]; obtain ⟨p0, p1, p2, p3, p4, p5, p6⟩ := (A1.out.later hb1).c7)
          | (go_at_call 28; refine (HK.out _).mono ?_; rintro e w2 ⟨rfl, hb2⟩; rw [H3.out]; have HB12 := hideB2 (below_then (below_then HB.out hb1) hb2); obtain ⟨r0, r1, r2, r3, r4, r5, r6⟩ := ((A1.out.later hb1).later hb2).c7)
          | (go_at_call 29; refine (HX.out _ (HV.out.later HB12.out) (tab_later HT.out HB12.out)).mono ?_; rintro e w3 ⟨rfl, hb3⟩))
        go_ret
        exact ⟨ret_bool HE.out, below_then HB12.out hb3⟩
    · have HE := hideB2 (msgQ_no2 (m := ⟨me, ta, st, re, ba, fs, bo⟩) h2)
      have H1 := hideB2 h1
      clear h1 hq hl20 hsm
      go_enter Tryd.func10, Tryd.ntmps10
      go_wp2_with (go_at_call 27; refine (HO.out _ (HV.out.later HB.out)).mono ?_; rintro e w1 ⟨rfl, hb1⟩; rw [H1.out]; obtain ⟨p0, p1, p2, p3, p4, p5, p6⟩ := (A1.out.later hb1).c7)
      go_ret
      exact ⟨ret_bool HE.out, below_then HB.out hb1⟩
theorem msgQ_sizes {m : Mg} (h : msgQ m = true) : fieldsQ m.fs = true ∧ m.bo.size ≤ 600 ∧ (headB m).size ≤ 1500 := by
  obtain ⟨h1, h2, _, h4⟩ := msgQ_iff.1 h
  exact ⟨(ownQ_iff.1 h1).1, h2, h4⟩
set_option maxHeartbeats 2000000 in
theorem WriteHead_any (me ta re bo : ByteArray) (st : Int) (ba : Bool) (fa : Option Addr) (fn fc : Nat) (fs : List Fd) (w : World) (hv : SlF w (.slice fa fn fc) fs) (hn : fs.length = fn) (hl : fs.length ≤ 1048576) (ht : totF fs ≤ 1099511627776) (hme : me.size ≤ 1048576) (hta : ta.size ≤ 1048576) (hre : re.size ≤ 1048576) (hbo : bo.size ≤ 1048576) (htab : Tab10 w) :
    Calls Tryd.prog 13 #[.agg #[.string me, .string ta, .int .i64 st, .string re, .bool ba, .slice fa fn fc, .string bo]] w fun e w' => e = .returned (.string (wheadB ⟨me, ta, st, re, ba, fs, bo⟩)) ∧ Below w.heap.size w w' := by
  have HB := hideB2 (below_a1 w (.cells #[.string me, .string ta, .int .i64 st, .string re, .bool ba, .slice fa fn fc, .string bo] 29))
  have A1 := hideB2 (Blk.new w #[.string me, .string ta, .int .i64 st, .string re, .bool ba, .slice fa fn fc, .string bo] 29)
  have HV := hideB2 hv
  have HN := hideB2 hn
  have HT := hideB2 htab
  have HM := hideB2 (fun W h h' => MsgOk_any me ta re bo st ba fa fn fc fs W h hn hl ht hme hta hre hbo h')
  clear hv hn htab hl ht
  cases h1 : msgQ ⟨me, ta, st, re, ba, fs, bo⟩
  · have HE := hideB2 (show wheadB ⟨me, ta, st, re, ba, fs, bo⟩ = ⟨#[]⟩ by unfold wheadB; rw [h1]; rfl)
    have H1 := hideB2 h1
    clear h1
    go_enter Tryd.func13, Tryd.ntmps13
    go_wp2_with (go_at_call 10; refine (HM.out _ (HV.out.later HB.out) (tab_later HT.out HB.out)).mono ?_; rintro e w1 ⟨rfl, hb1⟩; rw [H1.out])
    go_ret
    exact ⟨ret_str HE.out, below_then HB.out hb1⟩
  · have HE := hideB2 (show wheadB ⟨me, ta, st, re, ba, fs, bo⟩ = headB ⟨me, ta, st, re, ba, fs, bo⟩ by unfold wheadB; rw [h1]; rfl)
    have H1 := hideB2 h1
    have hq := (msgQ_sizes h1).1
    have HX := hideB2 (fun W h h' => headText_any me ta re bo st ba fa fn fc fs W h HN.out hq hme hta hre hbo h')
    clear h1 hq
    generalize headB ⟨me, ta, st, re, ba, fs, bo⟩ = H at *
    go_enter Tryd.func13, Tryd.ntmps13
    go_wp2_with (first
      | (go_at_call 10; refine (HM.out _ (HV.out.later HB.out) (tab_later HT.out HB.out)).mono ?_; rintro e w1 ⟨rfl, hb1⟩; rw [H1.out]; have HB1 := hideB2 (below_then HB.out hb1); obtain ⟨p0, p1, p2, p3, p4, p5, p6⟩ := (A1.out.later hb1).c7)
      | (go_at_call 29; refine (HX.out _ (HV.out.later HB1.out) (tab_later HT.out HB1.out)).mono ?_; rintro e w3 ⟨rfl, hb3⟩))
    go_ret
    exact ⟨ret_str HE.out, below_then HB1.out hb3⟩
set_option maxHeartbeats 2000000 in
theorem WriteMsg_any (me ta re bo : ByteArray) (st : Int) (ba : Bool) (fa : Option Addr) (fn fc : Nat) (fs : List Fd) (w : World) (hv : SlF w (.slice fa fn fc) fs) (hn : fs.length = fn) (hl : fs.length ≤ 1048576) (ht : totF fs ≤ 1099511627776) (hme : me.size ≤ 1048576) (hta : ta.size ≤ 1048576) (hre : re.size ≤ 1048576) (hbo : bo.size ≤ 1048576) (htab : Tab10 w) :
    Calls Tryd.prog 15 #[.agg #[.string me, .string ta, .int .i64 st, .string re, .bool ba, .slice fa fn fc, .string bo]] w fun e w' => e = .returned (.string (wmsgB ⟨me, ta, st, re, ba, fs, bo⟩)) ∧ Below w.heap.size w w' := by
  have HB := hideB2 (below_a1 w (.cells #[.string me, .string ta, .int .i64 st, .string re, .bool ba, .slice fa fn fc, .string bo] 29))
  have A1 := hideB2 (Blk.new w #[.string me, .string ta, .int .i64 st, .string re, .bool ba, .slice fa fn fc, .string bo] 29)
  have HV := hideB2 hv
  have HN := hideB2 hn
  have HT := hideB2 htab
  have HM := hideB2 (fun W h h' => MsgOk_any me ta re bo st ba fa fn fc fs W h hn hl ht hme hta hre hbo h')
  clear hv hn htab hl ht
  cases h1 : msgQ ⟨me, ta, st, re, ba, fs, bo⟩
  · have HE := hideB2 (show wmsgB ⟨me, ta, st, re, ba, fs, bo⟩ = ⟨#[]⟩ by unfold wmsgB; rw [h1]; rfl)
    have H1 := hideB2 h1
    clear h1
    go_enter Tryd.func15, Tryd.ntmps15
    go_wp2_with (go_at_call 10; refine (HM.out _ (HV.out.later HB.out) (tab_later HT.out HB.out)).mono ?_; rintro e w1 ⟨rfl, hb1⟩; rw [H1.out])
    go_ret
    exact ⟨ret_str HE.out, below_then HB.out hb1⟩
  · have HE := hideB2 (show wmsgB ⟨me, ta, st, re, ba, fs, bo⟩ = headB ⟨me, ta, st, re, ba, fs, bo⟩ ++ bo by unfold wmsgB; rw [h1]; rfl)
    have H1 := hideB2 h1
    obtain ⟨hq, hz1, hz2⟩ := msgQ_sizes h1
    have HX := hideB2 (fun W h h' => headText_any me ta re bo st ba fa fn fc fs W h HN.out hq hme hta hre hbo h')
    clear h1 hq
    generalize hW : wmsgB ⟨me, ta, st, re, ba, fs, bo⟩ = WB at *
    clear hW
    generalize headB ⟨me, ta, st, re, ba, fs, bo⟩ = H at *
    go_enter Tryd.func15, Tryd.ntmps15
    go_wp2_with fail
    refine (HM.out _ (HV.out.later HB.out) (tab_later HT.out HB.out)).mono ?_
    rintro e w1 ⟨rfl, hb1⟩
    rw [H1.out]
    have HB1 := hideB2 (below_then HB.out hb1)
    have A2 := hideB2 (A1.out.later hb1)
    obtain ⟨p0, p1, p2, p3, p4, p5, p6⟩ := A2.out.c7
    have HV1 := hideB2 (HV.out.later HB1.out)
    have HT1 := hideB2 (tab_later HT.out HB1.out)
    clear hb1 A1 HB HV HT
    go_wp2
    go_cut [2] (fun c wc => c = .string WB ∧ Below w1.heap.size w1 wc)
    case first =>
      go_region_with (go_at_call 29; refine (HX.out _ (HV1.out.later (by first | exact Below.refl _ _ | exact (Below.refl _ _).drew)) (tab_later HT1.out (by first | exact Below.refl _ _ | exact (Below.refl _ _).drew))).mono ?_; rintro e w3 ⟨rfl, hb3⟩; obtain ⟨r0, r1, r2, r3, r4, r5, r6⟩ := (A2.out.drew.later hb3).c7)
      all_goals
        go_wp2_with fail
        go_meet
        refine ⟨?_, ?_⟩
        · rw [HE.out]
        · exact below_then (Below.refl _ _).drew hb3
    case rest =>
      obtain ⟨rfl, hb3⟩ := hcut
      go_wp2
      go_ret
      exact ⟨rfl, below_then HB1.out hb3⟩
end Go.Proofs.YtaelopjalfapgabDoor
