/-
  Chapter 6: how a body is bounded. The specification's side. · Chapter 6: a message's head and bytes; the specification's side. · Chapter 6: a whole message read; the specification's side. · Chapter 6: a reader's panic is caught at the face. · Chapter 6: what a closure that fills a message's box, and a second one, leaves of the world. · Chapter 6: ReadRequest, ReadAnswer; the faces, both sides. · Chapter 10: an exchange is read; the program's side: its parts.
-/
import Derived.Test.YthdgeepedofleaaGreatDoorJ4
import Derived.Test.YthdgeepedofleaaGreatDoorJ9
import Derived.Test.YthdgeepedofleaaGreatDoorJ10
import Derived.Test.YthdgeepedofleaaGreatDoorJ12
import Derived.Test.YthdgeepedofleaaGreatDoorJ11
import Derived.Defers
import Derived.Recover
import Derived.Stop.Asserts
import Derived.Test.YthdgeepedofleaaGreatDoorJ8
import Derived.Deep.RegionHeld
namespace Go.Proofs.YthdgeepedofleaaGreatDoor
set_option linter.unusedVariables false
set_option linter.unusedSimpArgs false
open Go.RowKit
theorem eqB_ch2 {s : ByteArray} : eqB s chB = (s.toList == [99, 104, 117, 110, 107, 101, 100]) := by unfold eqB; rw [ByteArray.toList_eq chB]; rfl
theorem oneO_bad {ws : List ByteArray} {k : Nat} (hk : k < ws.length) (h : rdecOk (tAt ws k) = false ∨ ¬ rdecN (tAt ws k) = rdecN (tAt ws 0)) : oneO ws = false := by
  cases ho : oneO ws with
  | false => rfl
  | true =>
    exfalso
    unfold oneO at ho
    rw [Bool.and_eq_true, Bool.and_eq_true] at ho
    obtain ⟨⟨_, h2⟩, h3⟩ := ho
    have e := sameW_at h2 hk
    rw [e] at h
    rcases h with h | h
    · rw [h] at h3; cases h3
    · exact h rfl
theorem oneO_good {ws : List ByteArray} (h0 : 0 < ws.length) (h : ∀ j, j < ws.length → rdecOk (tAt ws j) = true ∧ rdecN (tAt ws j) = rdecN (tAt ws 0)) : oneO ws = true ∧ oneN ws = rdecN (tAt ws 0) := by
  have h1 : oneO ws = true := by
    unfold oneO
    rw [Bool.and_eq_true, Bool.and_eq_true]
    refine ⟨⟨?_, ?_⟩, (h 0 h0).1⟩
    · have : ((ws.length : Int) == 0) = false := beq_eq_false_iff_ne.2 (by omega)
      rw [this]; rfl
    · exact sameW_yes fun j hj => rdec_inj (h j hj).1 (h 0 h0).1 (h j hj).2
  exact ⟨h1, by unfold oneN; rw [if_pos h1]⟩
theorem oneO_none {ws : List ByteArray} (h : ((ws.length : Int) == 0) = true) : oneO ws = false := by unfold oneO; rw [h]; rfl
set_option maxHeartbeats 8000000 in
theorem sFraming_any (v : Value) (l : List Fd) (answer bare : Bool) (w : World) (hv : SlF w v l) (hl : l.length ≤ 1048576) (ht : totF l ≤ 1099511627776) :
    Calls Tryz.prog 120 #[v, .bool answer, .bool bare] w fun e w' => e = .returned (.tuple #[.int .i64 (frK l answer bare), .int .i64 (frN l answer bare)]) ∧ Below w.heap.size w w' := by
  have HF := hideB2 (fun W h => sFieldsOk_any v l W h hl ht)
  have HG1 := hideB2 (fun W h => sGet_any v l teN W h hl ht (by decide))
  have HG2 := hideB2 (fun W h => sGet_any v l clN W h hl ht (by decide))
  have HW1 := hideB2 (fun W h => sWords_any v l teN W h hl ht (by decide))
  have HW2 := hideB2 (fun W h => sWords_any v l clN W h hl ht (by decide))
  have HV := hideB2 hv
  obtain ⟨a, c0, rfl⟩ := hv.form
  clear hv
  generalize l.length = m at *
  cases hq : fieldsQ l
  · obtain ⟨e1, e2⟩ := frK_no (answer := answer) (bare := bare) hq
    rw [e1, e2]
    have H1 := hideB2 hq
    clear hq e1 e2
    go_enter Tryz.func120, Tryz.ntmps120
    go_wp2_with (go_at_call 130; refine (HF.out _ HV.out).mono ?_; rintro e w1 ⟨rfl, hb1⟩; rw [H1.out])
    go_ret2
    exact ⟨rfl, hb1⟩
  · obtain ⟨e1, e2⟩ := frK_yes (answer := answer) (bare := bare) hq
    rw [e1, e2]
    have H1 := hideB2 hq
    clear hq e1 e2
    have WL1 := words_len l teN
    have WL2 := words_len l clN
    have WS1 := hideB2 (words_size l teN)
    have WS2 := hideB2 (words_size l clN)
    change Hid (∀ W, SlF W _ l → Calls _ _ _ W fun e w' => ∃ v', e = .returned v' ∧ BufS W w' v' (wordsL l teN)) at HW1
    change Hid (∀ W, SlF W _ l → Calls _ _ _ W fun e w' => ∃ v', e = .returned v' ∧ BufS W w' v' (wordsL l clN)) at HW2
    change Hid (∀ W, SlF W _ l → Calls _ _ _ W fun e w' => e = .returned (.tuple #[.string (getB l teN), .bool (teQ l)]) ∧ Below W.heap.size W w') at HG1
    change Hid (∀ W, SlF W _ l → Calls _ _ _ W fun e w' => e = .returned (.tuple #[.string (getB l clN), .bool (clQ l)]) ∧ Below W.heap.size W w') at HG2
    generalize wordsL l teN = ws1 at *
    generalize wordsL l clN = ws2 at *
    generalize teQ l = te at *
    generalize clQ l = cl at *
    generalize getB l teN = gb1 at *
    generalize getB l clN = gb2 at *
    have HBAD := hideB2 (fun k hk h => oneO_bad (ws := ws2) (k := k) hk h)
    have HGOOD0 := hideB2 (fun h3 h => oneO_good (ws := ws2) h3 h)
    have HNONE := hideB2 (fun h => oneO_none (ws := ws2) h)
    have HCQ := hideB2 (show chkQ ws1 = (((ws1.length : Int) == 1) && eqB (foldB (tAt ws1 0)) chB) from rfl)
    generalize oneO ws2 = O at *
    generalize oneN ws2 = N at *
    generalize chkQ ws1 = C at *
    go_enter Tryz.func120, Tryz.ntmps120
    go_wp2_with fail
    refine (HF.out _ HV.out).mono ?_
    rintro e w1 ⟨rfl, hb1⟩
    rw [H1.out]
    go_wp2_with fail
    refine (HG1.out _ (HV.out.later hb1)).mono ?_
    rintro e w2 ⟨rfl, hb2⟩
    have HB2 := hideB2 (below_then hb1 hb2)
    clear hb1 hb2
    go_wp2_with fail
    refine (HG2.out _ (HV.out.later HB2.out)).mono ?_
    rintro e w3 ⟨rfl, hb3⟩
    have HB3 := hideB2 (below_then HB2.out hb3)
    clear hb3 HB2 HG1 HG2 HF
    cases te
    · cases cl
      · cases O <;> cases bare <;> cases answer
        all_goals
          go_wp2
          go_ret2
          exact ⟨rfl, HB3.out⟩
      · go_wp2_with fail
        refine (HW2.out _ (HV.out.later HB3.out)).mono ?_
        rintro e w4 ⟨v4, rfl, hb4⟩
        obtain ⟨a4, c4, rfl, hr4⟩ := hb4.rows
        have HB4 := hideB2 (below_then HB3.out hb4.below)
        have HR4 := hideB2 hr4
        clear hb4 hr4 HB3
        cases h0 : ((ws2.length : Int) == 0)
        · have h3 : 0 < ws2.length := by
            have : ¬ (ws2.length : Int) = 0 := by simpa using h0
            omega
          have HGOOD := hideB2 (fun h => HGOOD0.out h3 h)
          clear HGOOD0 HNONE
          obtain ⟨g, rfl, hc⟩ := HR4.out.at h3
          have HC := hideB2 (show ∀ j, j < ws2.length → w4.cell? ⟨g, j, none⟩ = some (.string (tAt ws2 j)) from hc)
          have hglt := World.block_lt_of_cell? _ _ (hc 0 h3)
          clear hc HR4
          generalize hm2 : ws2.length = m2 at *
          clear hm2
          go_wp2
          go_loopw [13, 15] (fun n i wr => ∃ k : Nat, k ≤ m2 ∧ i = .int .i64 k ∧ n = .int .i64 (if k = 0 then 0 else rdecN (tAt ws2 0)) ∧ (∀ j, j < k → rdecOk (tAt ws2 j) = true ∧ rdecN (tAt ws2 j) = rdecN (tAt ws2 0)) ∧ Below w4.heap.size w4 wr) (fun _ i _ => m2 - (intOf i).toNat)
          case atStart => exact ⟨0, Nat.zero_le _, rfl, rfl, fun j hj => absurd hj (by omega), Below.refl _ _⟩
          case round =>
            obtain ⟨k, hk, rfl, rfl, hall, hb⟩ := hrel
            have HALL := hideB2 hall
            have HBW := hideB2 hb
            clear hall
            by_cases hlt : k < m2
            · have pk := HC.out k hlt
              rw [← hb.cell (p := ⟨g, k, none⟩) hglt] at pk
              have HD := hideB2 (fun W => sReadDec_any (tAt ws2 k) W (WS2.out k))
              have HBK := hideB2 (HBAD.out k hlt)
              clear hb
              generalize hx : tAt ws2 k = x at *
              have HX := hideB2 hx
              clear hx
              cases hok : rdecOk x
              · have HF := hideB2 (HBK.out (Or.inl hok))
                rw [hok] at HD
                generalize rdecN x = nx at *
                generalize (if k = 0 then (0 : Int) else rdecN (tAt ws2 0)) = n13 at *
                obtain rfl := HF.out
                clear HF hok
                go_wp2_with (go_at_call 126; refine (HD.out _).mono ?_; rintro e w5 ⟨rfl, hb5⟩)
                go_ret2
                exact ⟨rfl, below_then (below_then HB4.out HBW.out) hb5⟩
              · have HOK := hideB2 hok
                rw [hok] at HD
                clear hok
                by_cases hk0 : k = 0
                · subst hk0
                  rw [if_pos rfl]
                  have HX2 := hideB2 (congrArg rdecN HX.out)
                  generalize hnx : rdecN x = nx at *
                  have HNX := hideB2 hnx
                  clear hnx
                  go_wp2_with (go_at_call 126; refine (HD.out _).mono ?_; rintro e w5 ⟨rfl, hb5⟩)
                  refine ⟨⟨1, by omega, by go_num, ?_, fun j hj => ?_, below_then HBW.out hb5⟩, by simp [intOf]; omega⟩
                  · rw [if_neg (by omega), HX2.out]
                  · obtain rfl : j = 0 := by omega
                    rw [HX.out]
                    exact ⟨HOK.out, rfl⟩
                · rw [if_neg hk0]
                  have hkp : (0 : Int) < (k : Int) := by omega
                  by_cases hsame : rdecN x = rdecN (tAt ws2 0)
                  · have HS := hideB2 hsame
                    rw [hsame] at HD
                    clear hsame
                    generalize hn0 : rdecN (tAt ws2 0) = n0 at *
                    have hne : (n0 == n0) = true := by simp
                    go_wp2_with (go_at_call 126; refine (HD.out _).mono ?_; rintro e w5 ⟨rfl, hb5⟩)
                    refine ⟨⟨k + 1, by omega, by go_num, ?_, fun j hj => ?_, below_then HBW.out hb5⟩, by simp [intOf]; omega⟩
                    · rw [if_neg (by omega)]
                    · by_cases e : j = k
                      · subst e; rw [HX.out]; exact ⟨HOK.out, HS.out⟩
                      · exact HALL.out j (by omega)
                  · have HF := hideB2 (HBK.out (Or.inr hsame))
                    generalize rdecN (tAt ws2 0) = n0 at *
                    generalize rdecN x = nx at *
                    have hne : (nx == n0) = false := beq_eq_false_iff_ne.2 hsame
                    obtain rfl := HF.out
                    clear HF
                    go_wp2_with (go_at_call 126; refine (HD.out _).mono ?_; rintro e w5 ⟨rfl, hb5⟩)
                    go_ret2
                    exact ⟨rfl, below_then (below_then HB4.out HBW.out) hb5⟩
            · obtain rfl : k = m2 := by omega
              have HF := hideB2 (HGOOD.out (fun j hj => HALL.out j hj))
              rw [if_neg (by omega)]
              obtain ⟨e1, e2⟩ := HF.out
              rw [← e2]
              subst e1
              clear HF HALL HBAD HGOOD hb e2
              generalize tAt ws2 0 = x0 at *
              cases bare
              all_goals
                go_wp2
                go_ret2
                exact ⟨rfl, below_then HB4.out HBW.out⟩
        · obtain rfl := HNONE.out h0
          generalize hm2 : ws2.length = m2 at *
          clear hm2 HR4
          go_wp2
          go_ret2
          exact ⟨rfl, HB4.out⟩
    · go_wp2_with fail
      refine (HW1.out _ (HV.out.later HB3.out)).mono ?_
      rintro e w6 ⟨v6, rfl, hb6⟩
      obtain ⟨a6, c6, rfl, hr6⟩ := hb6.rows
      have HB6 := hideB2 (below_then HB3.out hb6.below)
      have HR6 := hideB2 hr6
      clear hb6 hr6 HB3
      cases cl
      · cases h1 : ((ws1.length : Int) == 1)
        · obtain rfl : C = false := by rw [HCQ.out, h1]; rfl
          have hb1 : ((ws1.length : Int) != 1) = true := by unfold bne; rw [h1]; rfl
          generalize hm1 : ws1.length = m1 at *
          clear hm1 HR6
          go_wp2
          go_ret2
          exact ⟨rfl, HB6.out⟩
        · have HQ := hideB2 (show C = eqB (foldB (tAt ws1 0)) chB by rw [HCQ.out, h1]; rfl)
          rw [eqB_ch2] at HQ
          clear HCQ
          have h2 : (ws1.length : Int) = 1 := by simpa using h1
          have hb1 : ((ws1.length : Int) != 1) = false := by unfold bne; rw [h1]; rfl
          have h3 : 0 < ws1.length := by omega
          obtain ⟨g, rfl, hc⟩ := HR6.out.at h3
          have p0 : w6.cell? ⟨g, 0, none⟩ = some (.string (tAt ws1 0)) := hc 0 h3
          have HFo := hideB2 (fun W => sFold_any (tAt ws1 0) W (WS1.out 0))
          clear hc HR6
          generalize hx : tAt ws1 0 = x at *
          clear hx
          generalize foldB x = y at *
          generalize hm1 : ws1.length = m1 at *
          clear hm1
          cases hy : (y.toList == [99, 104, 117, 110, 107, 101, 100]) <;> cases bare
          all_goals
            rw [hy] at HQ
            obtain rfl := HQ.out
            clear HQ
            go_wp2_with (go_at_call 125; refine (HFo.out _).mono ?_; rintro e w7 ⟨rfl, hb7⟩)
            go_ret2
            exact ⟨rfl, below_then HB6.out hb7⟩
      · generalize hm1 : ws1.length = m1 at *
        clear hm1 HR6
        go_wp2
        go_ret2
        exact ⟨rfl, HB6.out⟩
end Go.Proofs.YthdgeepedofleaaGreatDoor
namespace Go.Proofs.YthdgeepedofleaaGreatDoor
set_option linter.unusedVariables false
set_option linter.unusedSimpArgs false
open Go.RowKit
theorem first_req2 {m : Mg} (h : eqB m.me ⟨#[]⟩ = false) : m.me ++ ⟨#[32]⟩ ++ m.ta ++ ⟨#[32, 72, 84, 84, 80, 47, 49, 46, 49, 13, 10]⟩ = preB m 0 := by
  rw [preB_zero, firstB_req h]
  apply bytes_ext
  simp [Go.Joins.data_append]
theorem first_ans2 {m : Mg} (h : eqB m.me ⟨#[]⟩ = true) : ⟨#[72, 84, 84, 80, 47, 49, 46, 49, 32]⟩ ++ decT m.st ++ ⟨#[32]⟩ ++ m.re ++ ⟨#[13, 10]⟩ = preB m 0 := by
  rw [preB_zero, firstB_ans h]
theorem headB_yes2 {m : Mg} (h : tellsQ m = true) (hb : m.bo.size ≤ 1048576) : headB m = preB m m.fs.length ++ ⟨#[67, 111, 110, 116, 101, 110, 116, 45, 76, 101, 110, 103, 116, 104, 58, 32]⟩ ++ decT (m.bo.size : Int) ++ ⟨#[13, 10]⟩ ++ ⟨#[13, 10]⟩ := by
  apply bytes_ext
  rw [decT_nat (by omega)]
  have hc : clW.data.toList = [67, 111, 110, 116, 101, 110, 116, 45, 76, 101, 110, 103, 116, 104] := rfl
  simp [headB, headL, preB, lenL, h, Go.Joins.data_append, decB, hc]
theorem preB_next2 (m : Mg) (k : Nat) (h : k < m.fs.length) : preB m (k + 1) = preB m k ++ ftextB (fdAt m.fs k) ++ ⟨#[13, 10]⟩ := by
  apply bytes_ext
  simp [preB, linesL_next m.fs k h, Go.Joins.data_append]
set_option maxHeartbeats 8000000 in
theorem l6head_any (me ta re bo : ByteArray) (st : Int) (ba : Bool) (fa : Option Addr) (fn fc : Nat) (fs : List Fd) (w : World) (hv : SlF w (.slice fa fn fc) fs) (hn : fs.length = fn) (hq : fieldsQ fs = true) (hme : me.size ≤ 1048576) (hta : ta.size ≤ 1048576) (hre : re.size ≤ 1048576) (hbo : bo.size ≤ 1048576) :
    Calls Tryz.prog 100 #[.agg #[.string me, .string ta, .int .i64 st, .string re, .bool ba, .slice fa fn fc, .string bo]] w fun e w' => e = .returned (.string (headB ⟨me, ta, st, re, ba, fs, bo⟩)) ∧ Below w.heap.size w w' := by
  have HB := hideB2 (below_a1 w (.cells #[.string me, .string ta, .int .i64 st, .string re, .bool ba, .slice fa fn fc, .string bo] 50))
  have A1 := hideB2 (Blk.new w #[.string me, .string ta, .int .i64 st, .string re, .bool ba, .slice fa fn fc, .string bo] 50)
  have HV := hideB2 hv
  have HN := hideB2 hn
  have hl20 : fn ≤ 20 := by rw [← hn]; exact (fieldsQ_iff.1 hq).1
  have HFQ := hideB2 (fun j (hj : j < fs.length) => fieldQ_sizes (fieldsQ_at hq hj))
  have PN := hideB2 (fun k h => preB_next2 ⟨me, ta, st, re, ba, fs, bo⟩ k h)
  have PS := hideB2 (fun k => preB_size (m := ⟨me, ta, st, re, ba, fs, bo⟩) hme hta hre (by rw [← HN.out] at hl20; exact hl20) k)
  have HR := hideB2 (fun h => first_req2 (m := ⟨me, ta, st, re, ba, fs, bo⟩) h)
  have HA := hideB2 (fun h => first_ans2 (m := ⟨me, ta, st, re, ba, fs, bo⟩) h)
  have HY := hideB2 (fun h => headB_yes2 (m := ⟨me, ta, st, re, ba, fs, bo⟩) h hbo)
  have HO := hideB2 (fun h => headB_no (m := ⟨me, ta, st, re, ba, fs, bo⟩) h)
  have TQ := hideB2 (show tellsQ ⟨me, ta, st, re, ba, fs, bo⟩ = if eqB me ⟨#[]⟩ = true then !ba else !eqB bo ⟨#[]⟩ from rfl)
  have hds := decT_size (bo.size : Int)
  have HD := hideB2 (fun W => sDecText_all (bo.size : Int) W)
  have hds2 := decT_size st
  have HD2 := hideB2 (fun W => sDecText_all st W)
  clear hv hn hq
  generalize headB ⟨me, ta, st, re, ba, fs, bo⟩ = H at *
  generalize tellsQ ⟨me, ta, st, re, ba, fs, bo⟩ = T at *
  generalize hPB : preB ⟨me, ta, st, re, ba, fs, bo⟩ = PB at *
  clear hPB
  simp only at HY HO PN HR HA
  generalize decT (bo.size : Int) = D at *
  generalize decT st = S at *
  cases h1 : eqB me ⟨#[]⟩
  · have H0 := hideB2 (HR.out h1)
    rw [h1] at TQ
    replace TQ : Hid (T = !eqB bo ⟨#[]⟩) := TQ
    have A2 := A1
    have HB2 := HB
    rw [eqB_nil] at h1
    go_enter Tryz.func100, Tryz.ntmps100
    go_wp2
    generalize hW : w.alloc (.cells #[.string me, .string ta, .int .i64 st, .string re, .bool ba, .slice fa fn fc, .string bo] 50) = W1 at *
    clear hW A1 HB
    go_wp2
    go_loopw [3, 4] (fun o i wr => ∃ k : Nat, k ≤ fn ∧ i = .int .i64 k ∧ o = .string (PB k) ∧ Below W1.heap.size W1 wr) (fun _ i _ => fn - (intOf i).toNat)
    case atStart => exact ⟨0, Nat.zero_le _, rfl, by rw [H0.out], Below.refl _ _⟩
    case round =>
      obtain ⟨k, hk, rfl, rfl, hb⟩ := hrel
      have hps := PS.out k
      try clear p0 p1 p2 p3 p4 p5 p6
      obtain ⟨p0, p1, p2, p3, p4, p5, p6⟩ := (A2.out.later hb).c7
      by_cases hlt : k < fn
      · have hklt : k < fs.length := by rw [HN.out]; exact hlt
        obtain ⟨b, rfl, hr⟩ := HV.out.row (by omega)
        have hr2 := (hr.keep HB2.out).keep hb
        have q0 := hr2.dat k hklt
        have q1 := hr2.saf k hklt
        have hsz := HFQ.out k hklt
        have HNX := hideB2 (PN.out k hklt)
        have hfs := ftextB_size (x := fdAt fs k)
        have HBW := hideB2 hb
        clear hr hr2 hb hklt
        generalize fdAt fs k = x at *
        obtain ⟨d, s⟩ := x
        simp only at q0 q1 hsz
        have HFT := hideB2 (fun W => sFieldText_any d s W (by unfold maxLen; omega) (by unfold maxLen; omega))
        generalize ftextB (d, s) = F at *
        generalize PB k = P at *
        go_wp2_with (go_at_call 134; refine (HFT.out _).mono ?_; rintro e w3 ⟨rfl, hb3⟩)
        refine ⟨⟨k + 1, by omega, by go_num, ?_, below_then HBW.out hb3⟩, by simp [intOf]; omega⟩
        rw [HNX.out]
      · obtain rfl : k = fn := by omega
        have HBW := hideB2 (below_then HB2.out hb)
        clear hb
        cases h2 : eqB bo ⟨#[]⟩
        · rw [h2] at TQ
          rw [eqB_nil] at h2
          replace TQ : Hid (T = true) := TQ
          have HE := hideB2 (HY.out TQ.out)
          rw [HN.out] at HE
          generalize PB k = P at *
          go_wp2_with (go_at_call 93; refine (HD.out _).mono ?_; rintro e w3 ⟨rfl, hb3⟩)
          go_ret
          exact ⟨ret_str HE.out, below_then HBW.out hb3⟩
        · rw [h2] at TQ
          rw [eqB_nil] at h2
          replace TQ : Hid (T = false) := TQ
          have HE := hideB2 (HO.out TQ.out)
          rw [HN.out] at HE
          generalize PB k = P at *
          go_wp2
          go_ret
          exact ⟨ret_str HE.out, HBW.out⟩
  · have H0 := hideB2 (HA.out h1)
    rw [h1] at TQ
    replace TQ : Hid (T = !ba) := TQ
    rw [eqB_nil] at h1
    go_enter Tryz.func100, Tryz.ntmps100
    go_wp2
    go_cut [3] (fun c wc => c = .string (PB 0) ∧ Below w.heap.size w wc ∧ Blk wc w.heap.size #[.string me, .string ta, .int .i64 st, .string re, .bool ba, .slice fa fn fc, .string bo] 50)
    case first =>
      go_region_with (go_at_call 93; refine (HD2.out _).mono ?_; rintro e w' ⟨rfl, hb⟩; obtain ⟨p0, p1, p2, p3, p4, p5, p6⟩ := (A1.out.drew.later hb).c7)
      all_goals
        go_wp2_with fail
        go_meet
        refine ⟨?_, ?_, ?_⟩
        · rw [H0.out]
        · exact below_then HB.out.drew hb
        · exact A1.out.drew.later hb
    case rest =>
      obtain ⟨rfl, hb2, ha2⟩ := hcut
      have HB2 := hideB2 hb2
      have A2 := hideB2 ha2
      have hp0 := PS.out 0
      clear hb2 ha2 A1 HB
      obtain ⟨p0, p1, p2, p3, p4, p5, p6⟩ := A2.out.c7
      go_wp2
      go_loopw [3, 4] (fun o i wr => ∃ k : Nat, k ≤ fn ∧ i = .int .i64 k ∧ o = .string (PB k) ∧ Below wc.heap.size wc wr) (fun _ i _ => fn - (intOf i).toNat)
      case atStart => exact ⟨0, Nat.zero_le _, rfl, rfl, Below.refl _ _⟩
      case round =>
        obtain ⟨k, hk, rfl, rfl, hb⟩ := hrel
        have hps := PS.out k
        try clear p0 p1 p2 p3 p4 p5 p6
        obtain ⟨p0, p1, p2, p3, p4, p5, p6⟩ := (A2.out.later hb).c7
        by_cases hlt : k < fn
        · have hklt : k < fs.length := by rw [HN.out]; exact hlt
          obtain ⟨b, rfl, hr⟩ := HV.out.row (by omega)
          have hr2 := (hr.keep HB2.out).keep hb
          have q0 := hr2.dat k hklt
          have q1 := hr2.saf k hklt
          have hsz := HFQ.out k hklt
          have HNX := hideB2 (PN.out k hklt)
          have hfs := ftextB_size (x := fdAt fs k)
          have HBW := hideB2 hb
          clear hr hr2 hb hklt
          generalize fdAt fs k = x at *
          obtain ⟨d, s⟩ := x
          simp only at q0 q1 hsz
          have HFT := hideB2 (fun W => sFieldText_any d s W (by unfold maxLen; omega) (by unfold maxLen; omega))
          generalize ftextB (d, s) = F at *
          generalize PB k = P at *
          go_wp2_with (go_at_call 134; refine (HFT.out _).mono ?_; rintro e w3 ⟨rfl, hb3⟩)
          refine ⟨⟨k + 1, by omega, by go_num, ?_, below_then HBW.out hb3⟩, by simp [intOf]; omega⟩
          rw [HNX.out]
        · obtain rfl : k = fn := by omega
          have HBW := hideB2 (below_then HB2.out hb)
          clear hb
          cases ba
          · replace TQ : Hid (T = true) := TQ
            have HE := hideB2 (HY.out TQ.out)
            rw [HN.out] at HE
            generalize PB k = P at *
            go_wp2_with (go_at_call 93; refine (HD.out _).mono ?_; rintro e w3 ⟨rfl, hb3⟩)
            go_ret
            exact ⟨ret_str HE.out, below_then HBW.out hb3⟩
          · replace TQ : Hid (T = false) := TQ
            have HE := hideB2 (HO.out TQ.out)
            rw [HN.out] at HE
            generalize PB k = P at *
            go_wp2
            go_ret
            exact ⟨ret_str HE.out, HBW.out⟩
theorem ownQ_20 {l : List Fd} (h : (((l.length : Nat) : Int) == 20) = true) : ownQ l = false := by
  have h1 : (l.length : Int) = 20 := by simpa using h
  exact ownQ_no2 (by omega)
theorem ownQ_frm {l : List Fd} (h : frmL l = true) : ownQ l = false := by unfold ownQ; rw [h]; simp
theorem ownQ_all {l : List Fd} (h : fieldsQ l = true) (h1 : (((l.length : Nat) : Int) == 20) = false) (h2 : frmL l = false) : ownQ l = true := by
  have h3 : ¬ (l.length : Int) = 20 := by simpa using h1
  have h4 := (fieldsQ_iff.1 h).1
  rw [ownQ_iff]
  exact ⟨h, by omega, h2⟩
set_option maxHeartbeats 8000000 in
theorem sMsgOk_any (me ta re bo : ByteArray) (st : Int) (ba : Bool) (fa : Option Addr) (fn fc : Nat) (fs : List Fd) (w : World) (hv : SlF w (.slice fa fn fc) fs) (hn : fs.length = fn) (hl : fs.length ≤ 1048576) (ht : totF fs ≤ 1099511627776) (hme : me.size ≤ 1048576) (hta : ta.size ≤ 1048576) (hre : re.size ≤ 1048576) (hbo : bo.size ≤ 1048576) :
    Calls Tryz.prog 99 #[.agg #[.string me, .string ta, .int .i64 st, .string re, .bool ba, .slice fa fn fc, .string bo]] w fun e w' => e = .returned (.bool (msgQ ⟨me, ta, st, re, ba, fs, bo⟩)) ∧ Below w.heap.size w w' := by
  have HB := hideB2 (below_a1 w (.cells #[.string me, .string ta, .int .i64 st, .string re, .bool ba, .slice fa fn fc, .string bo] 50))
  have A1 := hideB2 (Blk.new w #[.string me, .string ta, .int .i64 st, .string re, .bool ba, .slice fa fn fc, .string bo] 50)
  have HV := hideB2 hv
  have HN := hideB2 hn
  have HF := hideB2 (fun W h => sFieldsOk_any (.slice fa fn fc) fs W h hl ht)
  have HK := hideB2 (fun W => l6request_any me ta re bo st ba fa fn fc fs W (by unfold maxLen; omega) (by unfold maxLen; omega))
  have HAns := hideB2 (fun W => l6answer_any me ta re bo st ba fa fn fc fs W (by unfold maxLen; omega))
  clear hv hl ht
  subst hn
  cases hq : fieldsQ fs
  · have HE := hideB2 (msgQ_no1 (m := ⟨me, ta, st, re, ba, fs, bo⟩) (ownQ_no1 hq))
    have H1 := hideB2 hq
    clear hq
    generalize hm : fs.length = fn at *
    clear hm
    go_enter Tryz.func99, Tryz.ntmps99
    go_wp2_with (go_at_call 130; refine (HF.out _ (HV.out.later HB.out)).mono ?_; rintro e w1 ⟨rfl, hb1⟩; rw [H1.out])
    go_ret
    exact ⟨ret_bool HE.out, below_then HB.out hb1⟩
  · have hl20 := (fieldsQ_iff.1 hq).1
    have HU := hideB2 (fun W h => l6framed_any (.slice fa fs.length fc) fs W h hl20 (fun j hj => (fieldQ_sizes (fieldsQ_at hq hj)).1))
    have HX := hideB2 (fun W h => l6head_any me ta re bo st ba fa fs.length fc fs W h rfl hq hme hta hre hbo)
    have hsm := headB_small (m := ⟨me, ta, st, re, ba, fs, bo⟩) hme hta hre hl20 hbo
    cases h20 : (((fs.length : Nat) : Int) == 20)
    · cases hf : frmL fs
      · have hown := ownQ_all hq h20 hf
        by_cases h2 : (600 : Int) < (bo.size : Int)
        · have HE := hideB2 (msgQ_no2 (m := ⟨me, ta, st, re, ba, fs, bo⟩) (by simp only; omega))
          have H1 := hideB2 hq
          have H2 := hideB2 hf
          clear hq hf hown hl20 hsm HX
          generalize hm : fs.length = fn at *
          clear hm
          go_enter Tryz.func99, Tryz.ntmps99
          go_wp2_with (first
            | (go_at_call 130; refine (HF.out _ (HV.out.later HB.out)).mono ?_; rintro e w1 ⟨rfl, hb1⟩; rw [H1.out]; obtain ⟨p0, p1, p2, p3, p4, p5, p6⟩ := (A1.out.later hb1).c7)
            | (go_at_call 131; refine (HU.out _ (HV.out.later (below_then HB.out hb1))).mono ?_; rintro e w2 ⟨rfl, hb2⟩; rw [H2.out]; obtain ⟨q0, q1, q2, q3, q4, q5, q6⟩ := ((A1.out.later hb1).later hb2).c7))
          go_ret
          exact ⟨ret_bool HE.out, below_then (below_then HB.out hb1) hb2⟩
        · have d2 : decide ((600 : Int) < (bo.size : Int)) = false := decide_eq_false h2
          cases h3 : kindQ ⟨me, ta, st, re, ba, fs, bo⟩
          · have HE := hideB2 (msgQ_no3 (m := ⟨me, ta, st, re, ba, fs, bo⟩) h3)
            cases h4 : eqB me ⟨#[]⟩
            · rw [kindQ_req (m := ⟨me, ta, st, re, ba, fs, bo⟩) h4] at h3
              have H1 := hideB2 hq
              have H2 := hideB2 hf
              have H3 := hideB2 h3
              clear hq hf hown hl20 h3 hsm
              generalize hm : fs.length = fn at *
              clear hm
              rw [eqB_nil] at h4
              go_enter Tryz.func99, Tryz.ntmps99
              go_wp2_with (first
                | (go_at_call 130; refine (HF.out _ (HV.out.later HB.out)).mono ?_; rintro e w1 ⟨rfl, hb1⟩; rw [H1.out]; obtain ⟨p0, p1, p2, p3, p4, p5, p6⟩ := (A1.out.later hb1).c7)
                | (go_at_call 131; refine (HU.out _ (HV.out.later (below_then HB.out hb1))).mono ?_; rintro e w2 ⟨rfl, hb2⟩; rw [H2.out]; obtain ⟨q0, q1, q2, q3, q4, q5, q6⟩ := ((A1.out.later hb1).later hb2).c7; have HB2 := hideB2 (below_then (below_then HB.out hb1) hb2); have A2 := hideB2 ((A1.out.later hb1).later hb2))
                | (go_at_call 132; refine (HK.out _).mono ?_; rintro e w3 ⟨rfl, hb3⟩; rw [H3.out]))
              go_ret
              exact ⟨ret_bool HE.out, below_then HB2.out hb3⟩
            · rw [kindQ_ans (m := ⟨me, ta, st, re, ba, fs, bo⟩) h4] at h3
              have H1 := hideB2 hq
              have H2 := hideB2 hf
              have H3 := hideB2 h3
              clear hq hf hown hl20 h3 hsm
              generalize hm : fs.length = fn at *
              clear hm
              rw [eqB_nil] at h4
              go_enter Tryz.func99, Tryz.ntmps99
              go_wp2_with (first
                | (go_at_call 130; refine (HF.out _ (HV.out.later HB.out)).mono ?_; rintro e w1 ⟨rfl, hb1⟩; rw [H1.out]; obtain ⟨p0, p1, p2, p3, p4, p5, p6⟩ := (A1.out.later hb1).c7)
                | (go_at_call 131; refine (HU.out _ (HV.out.later (below_then HB.out hb1))).mono ?_; rintro e w2 ⟨rfl, hb2⟩; rw [H2.out]; obtain ⟨q0, q1, q2, q3, q4, q5, q6⟩ := ((A1.out.later hb1).later hb2).c7; have HB2 := hideB2 (below_then (below_then HB.out hb1) hb2); have A2 := hideB2 ((A1.out.later hb1).later hb2))
                | (go_at_call 133; refine (HAns.out _).mono ?_; rintro e w3 ⟨rfl, hb3⟩; rw [H3.out]))
              go_ret
              exact ⟨ret_bool HE.out, below_then HB2.out hb3⟩
          · have HE := hideB2 (msgQ_yes (m := ⟨me, ta, st, re, ba, fs, bo⟩) hown (by simp only; omega) h3)
            cases h4 : eqB me ⟨#[]⟩
            · rw [kindQ_req (m := ⟨me, ta, st, re, ba, fs, bo⟩) h4] at h3
              have H1 := hideB2 hq
              have H2 := hideB2 hf
              have H3 := hideB2 h3
              clear hq hf hown hl20 h3
              generalize hm : fs.length = fn at *
              clear hm
              generalize headB ⟨me, ta, st, re, ba, fs, bo⟩ = HD at *
              rw [eqB_nil] at h4
              go_enter Tryz.func99, Tryz.ntmps99
              go_wp2_with (first
                | (go_at_call 130; refine (HF.out _ (HV.out.later HB.out)).mono ?_; rintro e w1 ⟨rfl, hb1⟩; rw [H1.out]; obtain ⟨p0, p1, p2, p3, p4, p5, p6⟩ := (A1.out.later hb1).c7)
                | (go_at_call 131; refine (HU.out _ (HV.out.later (below_then HB.out hb1))).mono ?_; rintro e w2 ⟨rfl, hb2⟩; rw [H2.out]; obtain ⟨q0, q1, q2, q3, q4, q5, q6⟩ := ((A1.out.later hb1).later hb2).c7; have HB2 := hideB2 (below_then (below_then HB.out hb1) hb2); have A2 := hideB2 ((A1.out.later hb1).later hb2))
                | (go_at_call 132; refine (HK.out _).mono ?_; rintro e w3 ⟨rfl, hb3⟩; rw [H3.out]; obtain ⟨r0, r1, r2, r3, r4, r5, r6⟩ := (A2.out.later hb3).c7; have HB3 := hideB2 (below_then HB2.out hb3))
                | (go_at_call 100; refine (HX.out _ (HV.out.later HB3.out)).mono ?_; rintro e w4 ⟨rfl, hb4⟩))
              go_ret
              exact ⟨ret_bool HE.out, below_then HB3.out hb4⟩
            · rw [kindQ_ans (m := ⟨me, ta, st, re, ba, fs, bo⟩) h4] at h3
              have H1 := hideB2 hq
              have H2 := hideB2 hf
              have H3 := hideB2 h3
              clear hq hf hown hl20 h3
              generalize hm : fs.length = fn at *
              clear hm
              generalize headB ⟨me, ta, st, re, ba, fs, bo⟩ = HD at *
              rw [eqB_nil] at h4
              go_enter Tryz.func99, Tryz.ntmps99
              go_wp2_with (first
                | (go_at_call 130; refine (HF.out _ (HV.out.later HB.out)).mono ?_; rintro e w1 ⟨rfl, hb1⟩; rw [H1.out]; obtain ⟨p0, p1, p2, p3, p4, p5, p6⟩ := (A1.out.later hb1).c7)
                | (go_at_call 131; refine (HU.out _ (HV.out.later (below_then HB.out hb1))).mono ?_; rintro e w2 ⟨rfl, hb2⟩; rw [H2.out]; obtain ⟨q0, q1, q2, q3, q4, q5, q6⟩ := ((A1.out.later hb1).later hb2).c7; have HB2 := hideB2 (below_then (below_then HB.out hb1) hb2); have A2 := hideB2 ((A1.out.later hb1).later hb2))
                | (go_at_call 133; refine (HAns.out _).mono ?_; rintro e w3 ⟨rfl, hb3⟩; rw [H3.out]; obtain ⟨r0, r1, r2, r3, r4, r5, r6⟩ := (A2.out.later hb3).c7; have HB3 := hideB2 (below_then HB2.out hb3))
                | (go_at_call 100; refine (HX.out _ (HV.out.later HB3.out)).mono ?_; rintro e w4 ⟨rfl, hb4⟩))
              go_ret
              exact ⟨ret_bool HE.out, below_then HB3.out hb4⟩
      · have HE := hideB2 (msgQ_no1 (m := ⟨me, ta, st, re, ba, fs, bo⟩) (ownQ_frm hf))
        have H1 := hideB2 hq
        have H2 := hideB2 hf
        clear hq hf hl20 hsm HX
        generalize hm : fs.length = fn at *
        clear hm
        go_enter Tryz.func99, Tryz.ntmps99
        go_wp2_with (first
          | (go_at_call 130; refine (HF.out _ (HV.out.later HB.out)).mono ?_; rintro e w1 ⟨rfl, hb1⟩; rw [H1.out]; obtain ⟨p0, p1, p2, p3, p4, p5, p6⟩ := (A1.out.later hb1).c7)
          | (go_at_call 131; refine (HU.out _ (HV.out.later (below_then HB.out hb1))).mono ?_; rintro e w2 ⟨rfl, hb2⟩; rw [H2.out]))
        go_ret
        exact ⟨ret_bool HE.out, below_then (below_then HB.out hb1) hb2⟩
    · have HE := hideB2 (msgQ_no1 (m := ⟨me, ta, st, re, ba, fs, bo⟩) (ownQ_20 h20))
      have H1 := hideB2 hq
      clear hq hl20 hsm HX HU
      generalize hm : fs.length = fn at *
      clear hm
      go_enter Tryz.func99, Tryz.ntmps99
      go_wp2_with (go_at_call 130; refine (HF.out _ (HV.out.later HB.out)).mono ?_; rintro e w1 ⟨rfl, hb1⟩; rw [H1.out]; obtain ⟨p0, p1, p2, p3, p4, p5, p6⟩ := (A1.out.later hb1).c7)
      go_ret
      exact ⟨ret_bool HE.out, below_then HB.out hb1⟩
set_option maxHeartbeats 2000000 in
theorem sWriteMsg_any (me ta re bo : ByteArray) (st : Int) (ba : Bool) (fa : Option Addr) (fn fc : Nat) (fs : List Fd) (w : World) (hv : SlF w (.slice fa fn fc) fs) (hn : fs.length = fn) (hl : fs.length ≤ 1048576) (ht : totF fs ≤ 1099511627776) (hme : me.size ≤ 1048576) (hta : ta.size ≤ 1048576) (hre : re.size ≤ 1048576) (hbo : bo.size ≤ 1048576) :
    Calls Tryz.prog 72 #[.agg #[.string me, .string ta, .int .i64 st, .string re, .bool ba, .slice fa fn fc, .string bo]] w fun e w' => e = .returned (.string (wmsgB ⟨me, ta, st, re, ba, fs, bo⟩)) ∧ Below w.heap.size w w' := by
  have HB := hideB2 (below_a1 w (.cells #[.string me, .string ta, .int .i64 st, .string re, .bool ba, .slice fa fn fc, .string bo] 50))
  have A1 := hideB2 (Blk.new w #[.string me, .string ta, .int .i64 st, .string re, .bool ba, .slice fa fn fc, .string bo] 50)
  have HV := hideB2 hv
  have HN := hideB2 hn
  have HM := hideB2 (fun W h => sMsgOk_any me ta re bo st ba fa fn fc fs W h hn hl ht hme hta hre hbo)
  clear hv hn hl ht
  cases h1 : msgQ ⟨me, ta, st, re, ba, fs, bo⟩
  · have HE := hideB2 (show wmsgB ⟨me, ta, st, re, ba, fs, bo⟩ = ⟨#[]⟩ by unfold wmsgB; rw [h1]; rfl)
    have H1 := hideB2 h1
    clear h1
    go_enter Tryz.func72, Tryz.ntmps72
    go_wp2_with (go_at_call 99; refine (HM.out _ (HV.out.later HB.out)).mono ?_; rintro e w1 ⟨rfl, hb1⟩; rw [H1.out])
    go_ret
    exact ⟨ret_str HE.out, below_then HB.out hb1⟩
  · have HE := hideB2 (show wmsgB ⟨me, ta, st, re, ba, fs, bo⟩ = headB ⟨me, ta, st, re, ba, fs, bo⟩ ++ bo by unfold wmsgB; rw [h1]; rfl)
    have H1 := hideB2 h1
    obtain ⟨hq, hz1, hz2⟩ := msgQ_sizes h1
    have HX := hideB2 (fun W h => l6head_any me ta re bo st ba fa fn fc fs W h HN.out hq hme hta hre hbo)
    clear h1 hq
    generalize hW : wmsgB ⟨me, ta, st, re, ba, fs, bo⟩ = WB at *
    clear hW
    generalize headB ⟨me, ta, st, re, ba, fs, bo⟩ = H at *
    go_enter Tryz.func72, Tryz.ntmps72
    go_wp2_with fail
    refine (HM.out _ (HV.out.later HB.out)).mono ?_
    rintro e w1 ⟨rfl, hb1⟩
    rw [H1.out]
    have HB1 := hideB2 (below_then HB.out hb1)
    have A2 := hideB2 (A1.out.later hb1)
    obtain ⟨p0, p1, p2, p3, p4, p5, p6⟩ := A2.out.c7
    have HV1 := hideB2 (HV.out.later HB1.out)
    clear hb1 A1 HB HV
    go_wp2
    go_cut [2] (fun c wc => c = .string WB ∧ Below w1.heap.size w1 wc)
    case first =>
      go_region_with (go_at_call 100; refine (HX.out _ (HV1.out.later (by first | exact Below.refl _ _ | exact (Below.refl _ _).drew))).mono ?_; rintro e w3 ⟨rfl, hb3⟩; obtain ⟨r0, r1, r2, r3, r4, r5, r6⟩ := (A2.out.drew.later hb3).c7)
      all_goals
        go_wp2_with fail
        go_meet
        refine ⟨?_, ?_⟩
        · rw [HE.out]
        · exact below_then (Below.refl _ _).drew hb3
    case rest =>
      obtain ⟨rfl, hb3⟩ := hcut
      go_wp2
      go_ret
      exact ⟨rfl, below_then HB1.out hb3⟩
end Go.Proofs.YthdgeepedofleaaGreatDoor
namespace Go.Proofs.YthdgeepedofleaaGreatDoor
set_option linter.unusedVariables false
set_option linter.unusedSimpArgs false
open Go.RowKit
theorem exM_err {c : Int} : exM (.error c) = mg0 := rfl
set_option maxRecDepth 100000 in
set_option maxHeartbeats 8000000 in
theorem l6read_any (s : ByteArray) (answer head : Bool) (w : World) (hs : s.size ≤ 1048576) :
    Calls Tryz.prog 96 #[.string s, .bool answer, .bool head] w fun e w' => ∃ v, e = .returned (.tuple #[mgV (exM (msX answer head s)) v, .int .i64 (exC (msX answer head s))]) ∧ BufF w w' v (exM (msX answer head s)).fs := by
  generalize hX : msX answer head s = X
  have HB := hideB2 (below_a1 w (.cells #[.string ⟨#[]⟩, .string ⟨#[]⟩, .int .i64 0, .string ⟨#[]⟩, .bool false, .slice none 0 0, .string ⟨#[]⟩] 50))
  have HA := hideB2 (Blk.new w #[.string ⟨#[]⟩, .string ⟨#[]⟩, .int .i64 0, .string ⟨#[]⟩, .bool false, .slice none 0 0, .string ⟨#[]⟩] 50)
  have HT := hideB2 (fun W => sReadHead_any s answer W hs)
  cases hh : hdX answer s with
  | error c =>
    obtain rfl : X = .error c := hX.symm.trans (msX_bad hh)
    rw [hh] at HT
    have hc := hdX_err hh
    have hcb : (c != 0) = true := by simpa using hc
    clear hX hh hc
    go_enter Tryz.func96, Tryz.ntmps96
    go_wp2_with fail
    refine (HT.out _).mono ?_
    rintro e w2 ⟨v, rfl, hbuf2⟩
    obtain ⟨va, vc, rfl⟩ := hbuf2.form
    have hb2 := hbuf2.below
    simp only [hdM, mgV, mg0, exC, hdN, List.length_nil]
    have A2 := HA.out.later hb2
    have hlt2 := A2.lt
    obtain ⟨a0, a1, a2, a3, a4, a5, a6⟩ := A2.c7
    obtain ⟨f0, f1, f2, f3, f4, f5, f6⟩ := A2.f7
    have HA3 := hideB2 ((A2.set7 (.string ⟨#[]⟩) (.string ⟨#[]⟩) (.int .i64 0) (.string ⟨#[]⟩) (.bool false) (.slice none 0 0) (.string ⟨#[]⟩)).alloc (.cells #[.string ⟨#[]⟩, .string ⟨#[]⟩, .int .i64 0, .string ⟨#[]⟩, .bool false, .slice va 0 vc, .string ⟨#[]⟩] 50))
    have HB3 := hideB2 (below_then (below_set7 (below_then HB.out hb2) (Nat.le_refl _) (.string ⟨#[]⟩) (.string ⟨#[]⟩) (.int .i64 0) (.string ⟨#[]⟩) (.bool false) (.slice none 0 0) (.string ⟨#[]⟩)) (below_a1 _ (.cells #[.string ⟨#[]⟩, .string ⟨#[]⟩, .int .i64 0, .string ⟨#[]⟩, .bool false, .slice va 0 vc, .string ⟨#[]⟩] 50)))
    clear A2 hbuf2 hb2 HT
    go_wp2
    refine bodyPost_ret (results_cellT rfl _ _ _ rfl HA3.out Tryz.underlying50 Tryz.infoMsg) rfl ⟨.slice none 0 0, ?_, ?_⟩
    · rfl
    · exact (BufF.start w).later HB3.out
  | ok y =>
    obtain ⟨⟨a, b, n, r⟩, fs, m⟩ := y
    obtain ⟨hz4, ha20, hb200, hr40, hf20, hms, htot, hfq⟩ := hdX_facts hh
    rw [hh] at HT
    have HXB := hideB2 (fun c h => (hX.symm.trans (msX_body (head := head) (c := c) hh h)))
    have HXN := hideB2 (fun body h h' => (hX.symm.trans (msX_no (head := head) (body := body) hh h h')))
    have HXY := hideB2 (fun body h h' => (hX.symm.trans (msX_yes (head := head) (body := body) hh h h')))
    simp only [mgR] at HXB HXN HXY
    have HFQ := hideB2 (fieldsQ_of hf20 hfq)
    clear hX hh hfq
    generalize hBR : bareR answer head n = BR at *
    have hez : (s.extract m s.size).size ≤ 4000 := by rw [ByteArray.size_extract]; omega
    have hmi : (m : Int) ≤ (s.size : Int) := by omega
    go_enter Tryz.func96, Tryz.ntmps96
    go_wp2_with fail
    refine (HT.out _).mono ?_
    rintro e w2 ⟨v, rfl, hbuf2⟩
    obtain ⟨va, vc, rfl⟩ := hbuf2.form
    have hb2 := hbuf2.below
    simp only [hdM, mgV, exC, hdN] at hbuf2 ⊢
    have hal := below_a1 w2 (.cells #[.string a, .string b, .int .i64 n, .string r, .bool false, .slice va fs.length vc, .string ⟨#[]⟩] 50)
    have M2 := Blk.new w2 #[.string a, .string b, .int .i64 n, .string r, .bool false, .slice va fs.length vc, .string ⟨#[]⟩] 50
    have A2 := (HA.out.later hb2).alloc (.cells #[.string a, .string b, .int .i64 n, .string r, .bool false, .slice va fs.length vc, .string ⟨#[]⟩] 50)
    have hsl := hbuf2.ans.1
    have hown : ∀ g, (Value.slice va fs.length vc).ownBlock = some g → g ≠ w2.heap.size := fun g h => by have := hsl.own_lt h; omega
    have S2 := hsl.later hal
    have hlt2 := (HA.out.later hb2).lt
    have HB2 := hideB2 (below_then (below_then HB.out hb2) hal)
    obtain ⟨m0, m1, m2, m3, m4, m5, m6⟩ := M2.c7
    have mf4 := M2.free 4
    have HM2 := hideB2 M2
    have HA2 := hideB2 A2
    have HS2 := hideB2 S2
    have HOW := hideB2 hown
    clear hbuf2 hb2 hal M2 A2 S2 hsl hown HT HA HB
    go_upto_region 4 with fail
    generalize hW : w2.alloc (.cells #[.string a, .string b, .int .i64 n, .string r, .bool false, .slice va fs.length vc, .string ⟨#[]⟩] 50) = W2 at *
    clear hW
    generalize w2.heap.size = G at *
    go_cut [33] (fun c wc => c = .bool BR ∧ wc = W2.setCell ⟨G, 4, none⟩ (.bool BR))
    case first =>
      cases answer
      · obtain rfl : BR = false := hBR.symm
        go_wp2_with fail
        go_meet
        exact ⟨rfl, rfl⟩
      · cases head
        · obtain rfl : bareSt n = BR := hBR
          go_wp2_with (go_at_call 107; refine (l6bare_any _ _).mono ?_; rintro e w3 ⟨rfl, rfl⟩)
          go_meet
          exact ⟨rfl, rfl⟩
        · obtain rfl : BR = true := hBR.symm
          go_wp2_with fail
          go_meet
          exact ⟨rfl, rfl⟩
    case rest =>
      obtain ⟨rfl, rfl⟩ := hcut
      have M3 : Blk (W2.setCell ⟨G, 4, none⟩ (.bool BR)) G #[.string a, .string b, .int .i64 n, .string r, .bool BR, .slice va fs.length vc, .string ⟨#[]⟩] 50 := HM2.out.set 4 (.bool BR)
      have A3 := HA2.out.other (show G ≠ w.heap.size by omega) 4 (.bool BR)
      have S3 := HS2.out.oth (g := G) HOW.out 4 (.bool BR)
      have hB3 := HB2.out.setCell (p := ⟨G, 4, none⟩) (show w.heap.size ≤ G by omega) (.bool BR)
      generalize hW : W2.setCell ⟨G, 4, none⟩ (.bool BR) = W3 at *
      clear hW m0 m1 m2 m3 m4 m5 m6 mf4 HM2 HA2 HS2 HB2
      have HFR := hideB2 (fun W h => sFraming_any (.slice va fs.length vc) fs answer BR W h (by omega) (by omega))
      have HTK := hideB2 (fun W k n' => l6body_any (s.extract m s.size) k n' W (by unfold maxLen; omega))
      have HSZ := hideB2 (fun k n' body (h : bodX (s.extract m s.size) k n' = .ok body) => bodX_size hez h)
      have HER := hideB2 (fun k n' c (h : bodX (s.extract m s.size) k n' = .error c) => bodX_err h)
      generalize frK fs answer BR = K at *
      generalize frN fs answer BR = N at *
      obtain ⟨m0, m1, m2, m3, m4, m5, m6⟩ := M3.c7
      go_wp2_with fail
      refine (HFR.out _ S3).mono ?_
      rintro e w4 ⟨rfl, hb4⟩
      have M4 := M3.later hb4
      have A4 := A3.later hb4
      have S4 := S3.later hb4
      have hB4 := below_then hB3 hb4
      clear m0 m1 m2 m3 m4 m5 m6 M3 A3 S3 hB3 hb4 HFR
      replace HTK := hideB2 (fun W => HTK.out W K N)
      generalize hY : bodX (s.extract m s.size) K N = Y at *
      go_wp2_with fail
      refine (HTK.out _).mono ?_
      rintro e w5 ⟨rfl, hb5⟩
      have M5 := M4.later hb5
      have A5 := A4.later hb5
      have S5 := S4.later hb5
      have hB5 := below_then hB4 hb5
      clear M4 A4 S4 hB4 hb5 HTK
      cases Y with
      | error c =>
        obtain rfl : X = .error c := HXB.out c rfl
        have hc := HER.out K N c hY
        have hcb : (c != 0) = true := by simpa using hc
        simp only [exB, exC]
        obtain ⟨a0, a1, a2, a3, a4, a5, a6⟩ := A5.c7
        obtain ⟨f0, f1, f2, f3, f4, f5, f6⟩ := A5.f7
        have HA6 := hideB2 (A5.set7 (.string ⟨#[]⟩) (.string ⟨#[]⟩) (.int .i64 0) (.string ⟨#[]⟩) (.bool false) (.slice none 0 0) (.string ⟨#[]⟩))
        have HB6 := hideB2 (below_set7 hB5 (Nat.le_refl _) (.string ⟨#[]⟩) (.string ⟨#[]⟩) (.int .i64 0) (.string ⟨#[]⟩) (.bool false) (.slice none 0 0) (.string ⟨#[]⟩))
        clear HER HSZ HXB HXN HXY hc hY M5 A5 S5 hB5
        go_wp2
        refine bodyPost_ret (results_cellT rfl _ _ _ rfl HA6.out Tryz.underlying50 Tryz.infoMsg) rfl ⟨.slice none 0 0, ?_, ?_⟩
        · rfl
        · exact (BufF.start w).later HB6.out
      | ok body =>
        have hbz := HSZ.out K N body hY
        have HXN2 := hideB2 (HXN.out body rfl)
        have HXY2 := hideB2 (HXY.out body rfl)
        simp only [exB, exC]
        clear HXB HXN HXY HSZ hY HER
        obtain ⟨m0, m1, m2, m3, m4, m5, m6⟩ := M5.c7
        have mf6 := M5.free 6
        have M6 : Blk (w5.setCell ⟨G, 6, none⟩ (.string body)) G #[.string a, .string b, .int .i64 n, .string r, .bool BR, .slice va fs.length vc, .string body] 50 := M5.set 6 (.string body)
        have A6 := A5.other (show G ≠ w.heap.size by omega) 6 (.string body)
        have S6 := S5.oth (g := G) HOW.out 6 (.string body)
        have hB6 := hB5.setCell (p := ⟨G, 6, none⟩) (show w.heap.size ≤ G by omega) (.string body)
        clear M5 A5 S5 hB5
        have q1 := HFQ.out
        have q2 := withoutL_fieldsQ clN q1
        have q3 := withoutL_fieldsQ teN q2
        have q4 := withoutL_fieldsQ trN q3
        have W1 := hideB2 (fun W h => sWithout_any (.slice va fs.length vc) fs clN W h (by omega) (by omega) (by decide))
        have W2' := hideB2 (fun W v h => sWithout_any v (withoutL fs clN) teN W h (by have := (fieldsQ_bds q2).1; omega) (by have := (fieldsQ_bds q2).2; omega) (by decide))
        have W3' := hideB2 (fun W v h => sWithout_any v (withoutL (withoutL fs clN) teN) trN W h (by have := (fieldsQ_bds q3).1; omega) (by have := (fieldsQ_bds q3).2; omega) (by decide))
        have hU := unfr_without fs q1
        rw [hU] at W3' q4
        clear q1 q2 q3 hU
        have hul := (fieldsQ_bds q4).1
        have hut := (fieldsQ_bds q4).2
        generalize withoutL (withoutL fs clN) teN = L2 at *
        generalize withoutL fs clN = L1 at *
        generalize unfrL fs = U at *
        unfold clN at W1
        unfold teN at W2'
        unfold trN at W3'
        go_wp2_with fail
        generalize hW : w5.setCell ⟨G, 6, none⟩ (.string body) = W6 at *
        clear hW m0 m1 m2 m3 m4 m5 m6 mf6
        refine (W1.out _ S6).mono ?_
        rintro e u1 ⟨v1, rfl, hbuf1⟩
        go_wp2_with fail
        refine (W2'.out _ _ hbuf1.ans.1).mono ?_
        rintro e u2 ⟨v2, rfl, hbuf2⟩
        go_wp2_with fail
        refine (W3'.out _ _ hbuf2.ans.1).mono ?_
        rintro e w7 ⟨v7, rfl, hbuf7⟩
        obtain ⟨ua, uc, rfl⟩ := hbuf7.form
        have hb7 := below_then (below_then hbuf1.below hbuf2.below) hbuf7.below
        have hglt := M6.lt
        have M7 := M6.later hb7
        have A7 := A6.later hb7
        have hB7 := below_then hB6 hb7
        have hWs : W6.heap.size ≤ u2.heap.size := (below_then hbuf1.below hbuf2.below).size
        have O7 : OwF u2.heap.size w7 (.slice ua U.length uc) U := ⟨hbuf7.own, hbuf7.below.size⟩
        have hW6 : w.heap.size ≤ u2.heap.size := Nat.le_trans hB6.size hWs
        obtain ⟨m0, m1, m2, m3, m4, m5, m6⟩ := M7.c7
        have mf5 := M7.free 5
        have M8 : Blk (w7.setCell ⟨G, 5, none⟩ (.slice ua U.length uc)) G #[.string a, .string b, .int .i64 n, .string r, .bool BR, .slice ua U.length uc, .string body] 50 := M7.set 5 _
        have A8 := A7.other (show G ≠ w.heap.size by omega) 5 (.slice ua U.length uc)
        have O8 := O7.set (show G < u2.heap.size by omega) 5 (.slice ua U.length uc)
        have hB8 := hB7.setCell (p := ⟨G, 5, none⟩) (show w.heap.size ≤ G by omega) (.slice ua U.length uc)
        have HMQ := hideB2 (fun W h => sMsgOk_any a b r body n BR ua U.length uc U W h rfl (by omega) (by omega) (by omega) (by omega) (by omega) (by omega))
        clear M6 A6 S6 hB6 hbuf1 hbuf2 hbuf7 hb7 W1 W2' W3'
        generalize hQ : msgQ ⟨a, b, n, r, BR, U, body⟩ = Q at *
        obtain ⟨k0, k1, k2, k3, k4, k5, k6⟩ := M8.c7
        go_wp2_with fail
        generalize hW : w7.setCell ⟨G, 5, none⟩ (.slice ua U.length uc) = W8 at *
        clear hW m0 m1 m2 m3 m4 m5 m6 mf5 k0 k1 k2 k3 k4 k5 k6
        refine (HMQ.out _ O8.sl).mono ?_
        rintro e w9 ⟨rfl, hb9⟩
        have M9 := M8.later hb9
        have A9 := A8.later hb9
        have O9 := O8.later hb9
        have hB9 := below_then hB8 hb9
        clear M8 A8 O8 hB8 hb9 HMQ M7 A7 O7 hB7
        obtain ⟨a0, a1, a2, a3, a4, a5, a6⟩ := A9.c7
        obtain ⟨f0, f1, f2, f3, f4, f5, f6⟩ := A9.f7
        cases Q
        · obtain rfl : X = .error 431 := HXN2.out rfl
          have HA10 := hideB2 (A9.set7 (.string ⟨#[]⟩) (.string ⟨#[]⟩) (.int .i64 0) (.string ⟨#[]⟩) (.bool false) (.slice none 0 0) (.string ⟨#[]⟩))
          have HB10 := hideB2 (below_set7 hB9 (Nat.le_refl _) (.string ⟨#[]⟩) (.string ⟨#[]⟩) (.int .i64 0) (.string ⟨#[]⟩) (.bool false) (.slice none 0 0) (.string ⟨#[]⟩))
          clear M9 A9 O9 hB9
          go_wp2
          refine bodyPost_ret (results_cellT rfl _ _ _ rfl HA10.out Tryz.underlying50 Tryz.infoMsg) rfl ⟨.slice none 0 0, ?_, ?_⟩
          · rfl
          · exact (BufF.start w).later HB10.out
        · obtain rfl := HXY2.out rfl
          obtain ⟨m0, m1, m2, m3, m4, m5, m6⟩ := M9.c7
          have HA10 := hideB2 (A9.set7 (.string a) (.string b) (.int .i64 n) (.string r) (.bool BR) (.slice ua U.length uc) (.string body))
          have HO10 := hideB2 ((O9.set7 (g := w.heap.size) (by omega) (.string a) (.string b) (.int .i64 n) (.string r) (.bool BR) (.slice ua U.length uc) (.string body)).buf (w0 := w) hW6 (below_set7 hB9 (Nat.le_refl _) (.string a) (.string b) (.int .i64 n) (.string r) (.bool BR) (.slice ua U.length uc) (.string body)))
          clear M9 A9 O9 hB9
          go_wp2
          refine bodyPost_ret (results_cellT rfl _ _ _ rfl HA10.out Tryz.underlying50 Tryz.infoMsg) rfl ⟨.slice ua U.length uc, ?_, HO10.out⟩
          rfl
end Go.Proofs.YthdgeepedofleaaGreatDoor
namespace Go.Proofs.YthdgeepedofleaaGreatDoor
set_option linter.unusedVariables false
set_option linter.unusedSimpArgs false
open Go.RowKit
/-- The panic, when it has been recovered. -/
def goneR (c : Int) : List PanicEntry := [{ v := .iface 195 (.int .i64 c), recovered := true }]
theorem catch_panicking (g : Nat) (x c : Int) (w : World) (hc : w.cell? ⟨g, 0, none⟩ = some (.int .i64 x)) (hz : w.frozen? ⟨g, 0, none⟩ = false) :
    CallsD Tryz.prog 175 #[.pointer (some ⟨g, 0, none⟩)] (.panicking (gone c)) w fun e u' w' =>
      e = .returned (.tuple #[]) ∧ u' = .panicking (goneR c) ∧ w' = w.setCell ⟨g, 0, none⟩ (.int .i64 c) := by
  unfold gone goneR
  refine callsD_of_wpS Tryz.func175 rfl fun c₀ cs hu => ?_
  apply wpS_seq
  apply wpS_region
  simp [wpOpsS, go_sem, recoverD, hu, Tryz.ntmps175, Exit.thenS]
  refine wpS_of_wp ?_
  rw [show (#[Value.pointer (some { block := g, off := 0 })] ++ ((Array.replicate 6 undef).setIfInBounds 1 (Value.iface 195 (.int .i64 c))).setIfInBounds 0 (Value.iface 195 (.int .i64 c))) = #[Value.pointer (some { block := g, off := 0 }), Value.iface 195 (.int .i64 c), Value.iface 195 (.int .i64 c), undef, undef, undef, undef] from rfl]
  have hta : ∀ (c : Int) (w : World), (Instr.typeAssert (.iface 195 (.int .i64 c)) 20 195 false).run Tryz.prog w = .ok (.int .i64 c) w := fun c w => by kernel_rfl
  go_wp2
  simp [bodyPostS, results, Tryz.results175, go_sem]
theorem catch_idle (g : Nat) (w : World) :
    CallsD Tryz.prog 175 #[.pointer (some ⟨g, 0, none⟩)] .returning w fun e u' w' => e = .returned (.tuple #[]) ∧ u' = .returning ∧ w' = w := by
  refine callsD_of_wpS Tryz.func175 rfl fun c₀ cs hu => ?_
  apply wpS_seq
  apply wpS_region
  simp [wpOpsS, go_sem, recoverD, hu, Tryz.ntmps175, Exit.thenS]
  refine wpS_of_wp ?_
  rw [show (#[Value.pointer (some { block := g, off := 0 })] ++ ((Array.replicate 6 undef).setIfInBounds 1 Value.nilIface).setIfInBounds 0 Value.nilIface) = #[Value.pointer (some { block := g, off := 0 }), Value.nilIface, Value.nilIface, undef, undef, undef, undef] from rfl]
  go_wp2
  cases c₀
  simp_all [bodyPostS, results, Tryz.results175]
end Go.Proofs.YthdgeepedofleaaGreatDoor
namespace Go.Proofs.YthdgeepedofleaaGreatDoor
set_option linter.unusedVariables false
set_option linter.unusedSimpArgs false
open Go.RowKit
theorem Blk.c1 {w : World} {g : Nat} {x : Value} {t : TypeId} (h : Blk w g #[x] t) : w.cell? ⟨g, 0, none⟩ = some x := h.cell 0
theorem Blk.set1 {w : World} {g : Nat} {a : Value} {t : TypeId} (h : Blk w g #[a] t) (x : Value) : Blk (w.setCell ⟨g, 0, none⟩ x) g #[x] t := h.set 0 x
/-- What comes of a reader behind its closure. -/
def cbPost {α : Type} (X : Except Int α) (e : Ending) : Prop :=
  match X with
  | .ok _ => e = .returned (.tuple #[])
  | .error c => e = .panicked (gone c)
/-- Nothing that was there has turned but the message at gm and the box gs. -/
def KB7 (gm gs : Nat) (w w' : World) : Prop := ∃ w2, Below w.heap.size w w2 ∧ (w' = w2 ∨ ∃ x0 x1 x2 x3 x4 x5 x6 y, w' = (((((((w2.setCell ⟨gm, 0, none⟩ x0).setCell ⟨gm, 1, none⟩ x1).setCell ⟨gm, 2, none⟩ x2).setCell ⟨gm, 3, none⟩ x3).setCell ⟨gm, 4, none⟩ x4).setCell ⟨gm, 5, none⟩ x5).setCell ⟨gm, 6, none⟩ x6).setCell ⟨gs, 0, none⟩ y)
theorem KB7.blk {gm gs : Nat} {w w' : World} (h : KB7 gm gs w w') {b : Nat} {c : Array Value} {t : TypeId} (hb : Blk w b c t) (hne : gm ≠ b) (hne2 : gs ≠ b) : Blk w' b c t := by
  obtain ⟨w2, h1, rfl | ⟨x0, x1, x2, x3, x4, x5, x6, y, rfl⟩⟩ := h
  · exact hb.later h1
  · exact ((hb.later h1).oth7 hne x0 x1 x2 x3 x4 x5 x6).other hne2 0 y
theorem KB7.below {gm gs : Nat} {w w' : World} (h : KB7 gm gs w w') {B : Nat} (h1 : B ≤ gm) (h1' : B ≤ gs) (h2 : B ≤ w.heap.size) : Below B w w' := by
  obtain ⟨w2, h3, rfl | ⟨x0, x1, x2, x3, x4, x5, x6, y, rfl⟩⟩ := h
  · exact h3.mono h2
  · exact (below_set7 (h3.mono h2) h1 x0 x1 x2 x3 x4 x5 x6).setCell (p := ⟨gs, 0, none⟩) h1' y
end Go.Proofs.YthdgeepedofleaaGreatDoor
namespace Go.Proofs.YthdgeepedofleaaGreatDoor
set_option linter.unusedVariables false
set_option linter.unusedSimpArgs false
open Go.RowKit
/-- Nothing that was there has turned but the message at gm. -/
def KBm (gm : Nat) (w w' : World) : Prop := ∃ w2, Below w.heap.size w w2 ∧ (w' = w2 ∨ ∃ x0 x1 x2 x3 x4 x5 x6, w' = ((((((w2.setCell ⟨gm, 0, none⟩ x0).setCell ⟨gm, 1, none⟩ x1).setCell ⟨gm, 2, none⟩ x2).setCell ⟨gm, 3, none⟩ x3).setCell ⟨gm, 4, none⟩ x4).setCell ⟨gm, 5, none⟩ x5).setCell ⟨gm, 6, none⟩ x6)
theorem KBm.blk {gm : Nat} {w w' : World} (h : KBm gm w w') {b : Nat} {c : Array Value} {t : TypeId} (hb : Blk w b c t) (hne : gm ≠ b) : Blk w' b c t := by
  obtain ⟨w2, h1, rfl | ⟨x0, x1, x2, x3, x4, x5, x6, rfl⟩⟩ := h
  · exact hb.later h1
  · exact (hb.later h1).oth7 hne x0 x1 x2 x3 x4 x5 x6
theorem KBm.below {gm : Nat} {w w' : World} (h : KBm gm w w') {B : Nat} (h1 : B ≤ gm) (h2 : B ≤ w.heap.size) : Below B w w' := by
  obtain ⟨w2, h3, rfl | ⟨x0, x1, x2, x3, x4, x5, x6, rfl⟩⟩ := h
  · exact h3.mono h2
  · exact below_set7 (h3.mono h2) h1 x0 x1 x2 x3 x4 x5 x6
set_option maxRecDepth 100000 in
set_option maxHeartbeats 4000000 in
theorem readRequestIn_any (s : ByteArray) (gb gm : Nat) (w : World) (hs : s.size ≤ 1048576) (X : Except Int Mg) (hX : msX false false s = X) (hb : Blk w gb #[.string s] 9) (hm : Blk w gm #[.string ⟨#[]⟩, .string ⟨#[]⟩, .int .i64 0, .string ⟨#[]⟩, .bool false, .slice none 0 0, .string ⟨#[]⟩] 50) (htab : Tab10 w) :
    Calls Tryz.prog 136 #[.pointer (some ⟨gb, 0, none⟩), .pointer (some ⟨gm, 0, none⟩)] w fun e w' =>
      cbPost X e ∧ ∃ v, Blk w' gm (mgA (exM X) v) 50 ∧ OwF w.heap.size w' v (exM X).fs ∧ KBm gm w w' := by
  have HT := hideB2 (fun W h => takenMsg_any s false false W hs X hX h)
  have HTB := hideB2 htab
  have HM := hideB2 hm
  have p0 := hb.c1
  have hlm := hm.lt
  clear hX hb hm htab
  cases X with
  | ok g =>
    obtain ⟨me, ta, st, re, ba, fs, bo⟩ := g
    go_enter Tryz.func136, Tryz.ntmps136
    go_wp2_with fail
    refine (HT.out _ HTB.out).mono ?_
    rintro e w2 ⟨v, rfl, hbuf⟩
    obtain ⟨va, vc, rfl⟩ := hbuf.form
    have hb2 := hbuf.below
    have hown : OwF w.heap.size w2 (.slice va fs.length vc) fs := ⟨hbuf.own, hb2.size⟩
    have M2 := HM.out.later hb2
    obtain ⟨a0, a1, a2, a3, a4, a5, a6⟩ := M2.c7
    obtain ⟨f0, f1, f2, f3, f4, f5, f6⟩ := M2.f7
    have hM3 := hideB2 (M2.set7 (.string me) (.string ta) (.int .i64 st) (.string re) (.bool ba) (.slice va fs.length vc) (.string bo))
    have hO3 := hideB2 (hown.set7 (g := gm) hlm (.string me) (.string ta) (.int .i64 st) (.string re) (.bool ba) (.slice va fs.length vc) (.string bo))
    have HB2 := hideB2 hb2
    clear hbuf hb2 hown M2
    simp only [mgV]
    go_wp2
    go_end0
    exact ⟨show cbPost (.ok _) _ from rfl, .slice va fs.length vc, hM3.out, hO3.out, w2, HB2.out, .inr ⟨.string me, .string ta, .int .i64 st, .string re, .bool ba, .slice va fs.length vc, .string bo, rfl⟩⟩
  | error c =>
    go_enter Tryz.func136, Tryz.ntmps136
    go_wp2_with fail
    refine (HT.out _ HTB.out).mono ?_
    rintro e w2 ⟨he, hb2⟩
    subst he
    go_wp2
    exact ⟨rfl, show cbPost (.error c) _ from rfl, .slice none 0 0, HM.out.later hb2, OwF.start hb2.size, w2, hb2, .inl rfl⟩
set_option maxRecDepth 100000 in
set_option maxHeartbeats 4000000 in
theorem caughtReadRequest_any (s : ByteArray) (gb gm B : Nat) (w : World) (hs : s.size ≤ 1048576) (X : Except Int Mg) (hX : msX false false s = X) (hb : Blk w gb #[.string s] 9) (hm : Blk w gm #[.string ⟨#[]⟩, .string ⟨#[]⟩, .int .i64 0, .string ⟨#[]⟩, .bool false, .slice none 0 0, .string ⟨#[]⟩] 50) (htab : Tab10 w) (hB : B ≤ gm) (hB2 : B ≤ w.heap.size) :
    Calls Tryz.prog 135 #[.func (.func 136) #[] #[.pointer (some ⟨gb, 0, none⟩), .pointer (some ⟨gm, 0, none⟩)]] w fun e w' =>
      e = .returned (.int .i64 (exC X)) ∧ ∃ v, Blk w' gm (mgA (exM X) v) 50 ∧ OwF (w.heap.size + 1) w' v (exM X).fs ∧ Below B w w' ∧ (∀ b c t, Blk w b c t → gm ≠ b → Blk w' b c t) := by
  have hmf : ∀ (fn : Fn) (first cap : Array Value) (w : World), (Instr.makeFunc fn first cap).run Tryz.prog w = .ok (.func fn first cap) w := fun _ _ _ _ => rfl
  have C1 := Blk.new w #[.int .i64 0] 3
  have hne1 : gm ≠ w.heap.size := by have := hm.lt; omega
  have hba := below_a1 w (.cells #[.int .i64 0] 3)
  have HC := hideB2 (readRequestIn_any s gb gm (w.alloc (.cells #[.int .i64 0] 3)) hs X hX (hb.alloc _) (hm.alloc _) (tab_later htab hba))
  have hkeep : ∀ b c t, Blk w b c t → w.heap.size ≠ b ∧ Blk (w.alloc (.cells #[.int .i64 0] 3)) b c t := fun b c t h => ⟨by have := h.lt; omega, h.alloc _⟩
  have HKP := hideB2 hkeep
  clear hkeep
  have hsz : (w.alloc (.cells #[.int .i64 0] 3)).heap.size = w.heap.size + 1 := by simp
  have hBs : B ≤ (w.alloc (.cells #[.int .i64 0] 3)).heap.size := by omega
  rw [hsz] at HC
  clear hX hb hm htab
  go_enter_defers Tryz.func135, Tryz.ntmps135
  go_wp2_with fail
  refine HC.out.mono ?_
  rintro e w2 ⟨he, v, hm2, ho2, hkb⟩
  have C2 := hkb.blk C1 hne1
  have hB3 := (hba.mono hB2).trans (hkb.below hB hBs)
  have c0 := C2.c1
  have f0 := C2.free 0
  have hlt : w.heap.size < w.heap.size + 1 := by omega
  cases X with
  | ok b =>
    replace he : e = .returned (.tuple #[]) := he
    subst he
    have hm3 := hm2.other (Ne.symm hne1) 0 (.int .i64 0)
    have ho3 := ho2.set hlt 0 (.int .i64 0)
    have hB4 := hB3.setCell (p := ⟨w.heap.size, 0, none⟩) hB2 (.int .i64 0)
    have c1 := (C2.set1 (.int .i64 0)).c1
    go_wp2
    refine leaves_cons (f := 175) (args := #[.pointer (some ⟨w.heap.size, 0, none⟩)]) (by simp) (by simp [go_sem]) ?_
    refine (catch_idle w.heap.size _).mono ?_
    rintro e u' w3 ⟨rfl, rfl, rfl⟩
    refine ⟨.int .i64 0, ?_, rfl, v, hm3, ho3, hB4, fun b c t h h1 => (hkb.blk (HKP.out b c t h).2 h1).other (HKP.out b c t h).1 0 _⟩
    simp [settle, results, Tryz.results135, go_sem, c1]
  | error c =>
    replace he : e = .panicked (gone c) := he
    subst he
    have hm3 := hm2.other (Ne.symm hne1) 0 (.int .i64 c)
    have ho3 := ho2.set hlt 0 (.int .i64 c)
    have hB4 := hB3.setCell (p := ⟨w.heap.size, 0, none⟩) hB2 (.int .i64 c)
    have c1 := (C2.set1 (.int .i64 c)).c1
    go_wp2
    refine leaves_cons (f := 175) (args := #[.pointer (some ⟨w.heap.size, 0, none⟩)]) (by simp) (by simp [go_sem]) ?_
    refine (catch_panicking w.heap.size 0 c _ c0 f0).mono ?_
    rintro e u' w3 ⟨rfl, rfl, rfl⟩
    refine ⟨.int .i64 c, ?_, rfl, v, hm3, ho3, hB4, fun b c t h h1 => (hkb.blk (HKP.out b c t h).2 h1).other (HKP.out b c t h).1 0 _⟩
    simp [results, Tryz.results135, go_sem, c1]
set_option maxRecDepth 100000 in
set_option maxHeartbeats 4000000 in
theorem ReadRequest_any (s : ByteArray) (w : World) (hs : s.size ≤ 1048576) (htab : Tab10 w) :
    Calls Tryz.prog 102 #[.string s] w fun e w' => ∃ v, e = .returned (.tuple #[mgV (exM (msX false false s)) v, .int .i64 (exC (msX false false s))]) ∧ BufF w w' v (exM (msX false false s)).fs := by
  have hmf : ∀ (fn : Fn) (first cap : Array Value) (w : World), (Instr.makeFunc fn first cap).run Tryz.prog w = .ok (.func fn first cap) w := fun _ _ _ _ => rfl
  have o0_0 : Blk (w.alloc (.cells #[.string s] 9)) (w.heap.size) #[.string s] 9 := Blk.new w _ _
  have b1 := below_a1 w (.cells #[.string s] 9)
  generalize hW1 : w.alloc (.cells #[.string s] 9) = W1 at *
  have n1 : W1.heap.size = w.heap.size + 1 := by rw [← hW1]; simp
  have o1_1 : Blk (W1.alloc (.cells #[.string ⟨#[]⟩, .string ⟨#[]⟩, .int .i64 0, .string ⟨#[]⟩, .bool false, .slice none 0 0, .string ⟨#[]⟩] 50)) (w.heap.size + 1) #[.string ⟨#[]⟩, .string ⟨#[]⟩, .int .i64 0, .string ⟨#[]⟩, .bool false, .slice none 0 0, .string ⟨#[]⟩] 50 := by rw [← n1]; exact Blk.new W1 _ _
  have o0_1 := o0_0.alloc (.cells #[.string ⟨#[]⟩, .string ⟨#[]⟩, .int .i64 0, .string ⟨#[]⟩, .bool false, .slice none 0 0, .string ⟨#[]⟩] 50)
  have b2 := below_then b1 (below_a1 W1 (.cells #[.string ⟨#[]⟩, .string ⟨#[]⟩, .int .i64 0, .string ⟨#[]⟩, .bool false, .slice none 0 0, .string ⟨#[]⟩] 50))
  generalize hW2 : W1.alloc (.cells #[.string ⟨#[]⟩, .string ⟨#[]⟩, .int .i64 0, .string ⟨#[]⟩, .bool false, .slice none 0 0, .string ⟨#[]⟩] 50) = W2 at *
  have n2 : W2.heap.size = w.heap.size + 1 + 1 := by rw [← hW2]; simp [n1]
  have o2_2 : Blk (W2.alloc (.cells #[.string ⟨#[]⟩, .string ⟨#[]⟩, .int .i64 0, .string ⟨#[]⟩, .bool false, .slice none 0 0, .string ⟨#[]⟩] 50)) (w.heap.size + 1 + 1) #[.string ⟨#[]⟩, .string ⟨#[]⟩, .int .i64 0, .string ⟨#[]⟩, .bool false, .slice none 0 0, .string ⟨#[]⟩] 50 := by rw [← n2]; exact Blk.new W2 _ _
  have o0_2 := o0_1.alloc (.cells #[.string ⟨#[]⟩, .string ⟨#[]⟩, .int .i64 0, .string ⟨#[]⟩, .bool false, .slice none 0 0, .string ⟨#[]⟩] 50)
  have o1_2 := o1_1.alloc (.cells #[.string ⟨#[]⟩, .string ⟨#[]⟩, .int .i64 0, .string ⟨#[]⟩, .bool false, .slice none 0 0, .string ⟨#[]⟩] 50)
  have b3 := below_then b2 (below_a1 W2 (.cells #[.string ⟨#[]⟩, .string ⟨#[]⟩, .int .i64 0, .string ⟨#[]⟩, .bool false, .slice none 0 0, .string ⟨#[]⟩] 50))
  generalize hW3 : W2.alloc (.cells #[.string ⟨#[]⟩, .string ⟨#[]⟩, .int .i64 0, .string ⟨#[]⟩, .bool false, .slice none 0 0, .string ⟨#[]⟩] 50) = W3 at *
  have n3 : W3.heap.size = w.heap.size + 1 + 1 + 1 := by rw [← hW3]; simp [n2]
  generalize hX : msX false false s = X
  have HC := hideB2 (caughtReadRequest_any s (w.heap.size) (w.heap.size + 1 + 1) w.heap.size W3 hs X hX o0_2 o2_2 (tab_later htab b3) (by omega) b3.size)
  rw [n3] at HC
  have HR := hideB2 o1_2
  have HB5 := hideB2 b3
  subst hW3
  subst hW2
  subst hW1
  clear o0_0 o0_1 o1_1 o0_2 o1_2 o2_2 b1 n1 b2 n2 b3 n3 hX htab
  generalize exM X = g at *
  obtain ⟨me, ta, st, re, ba, fs, bo⟩ := g
  simp only [mgV, mgA] at HC ⊢
  go_enter Tryz.func102, Tryz.ntmps102
  go_wp2_with fail
  refine HC.out.mono ?_
  rintro e w6 ⟨rfl, v, hm6, ho6, hb6, hk6⟩
  obtain ⟨va, vc, rfl⟩ := ho6.form
  have hr6 := hk6 _ _ _ HR.out (by omega)
  have HB6 := hideB2 (HB5.out.trans hb6)
  have HO6 := hideB2 ho6
  obtain ⟨p0, p1, p2, p3, p4, p5, p6⟩ := hm6.c7
  obtain ⟨a0, a1, a2, a3, a4, a5, a6⟩ := hr6.c7
  obtain ⟨f0, f1, f2, f3, f4, f5, f6⟩ := hr6.f7
  have hA7 := hideB2 (hr6.set7 (.string me) (.string ta) (.int .i64 st) (.string re) (.bool ba) (.slice va fs.length vc) (.string bo))
  have hO7 := hideB2 ((HO6.out.set7 (g := w.heap.size + 1) (by omega) (.string me) (.string ta) (.int .i64 st) (.string re) (.bool ba) (.slice va fs.length vc) (.string bo)).buf (w0 := w) (by omega) (below_set7 HB6.out (show w.heap.size ≤ w.heap.size + 1 by omega) (.string me) (.string ta) (.int .i64 st) (.string re) (.bool ba) (.slice va fs.length vc) (.string bo)))
  clear hm6 ho6 hb6 hk6 hr6 HR HC HB5 hmf
  go_wp2
  refine bodyPost_ret (results_cellT rfl _ _ _ rfl hA7.out Tryz.underlying50 Tryz.infoMsg) rfl ⟨.slice va fs.length vc, ?_, hO7.out⟩
  rfl
set_option maxRecDepth 100000 in
set_option maxHeartbeats 4000000 in
theorem sReadRequest_any (s : ByteArray) (w : World) (hs : s.size ≤ 1048576) :
    Calls Tryz.prog 69 #[.string s] w fun e w' => ∃ v, e = .returned (.tuple #[mgV (exM (msX false false s)) v, .int .i64 (exC (msX false false s))]) ∧ BufF w w' v (exM (msX false false s)).fs := by
  have HB := hideB2 (below_a1 w (.cells #[.string ⟨#[]⟩, .string ⟨#[]⟩, .int .i64 0, .string ⟨#[]⟩, .bool false, .slice none 0 0, .string ⟨#[]⟩] 50))
  have HA := hideB2 (Blk.new w #[.string ⟨#[]⟩, .string ⟨#[]⟩, .int .i64 0, .string ⟨#[]⟩, .bool false, .slice none 0 0, .string ⟨#[]⟩] 50)
  have HT := hideB2 (fun W => l6read_any s false false W hs)
  generalize msX false false s = X at *
  generalize exM X = g at *
  obtain ⟨me, ta, st, re, ba, fs, bo⟩ := g
  simp only [mgV] at HT ⊢
  go_enter Tryz.func69, Tryz.ntmps69
  go_wp2_with fail
  refine (HT.out _).mono ?_
  rintro e w2 ⟨v, rfl, hbuf⟩
  obtain ⟨va, vc, rfl⟩ := hbuf.form
  have hb2 := hbuf.below
  have A2 := HA.out.later hb2
  have O2 : OwF (w.heap.size + 1) w2 (.slice va fs.length vc) fs := by
    have h := (show OwF _ w2 (.slice va fs.length vc) fs from ⟨hbuf.own, hb2.size⟩)
    rw [show (w.alloc (.cells #[.string ⟨#[]⟩, .string ⟨#[]⟩, .int .i64 0, .string ⟨#[]⟩, .bool false, .slice none 0 0, .string ⟨#[]⟩] 50)).heap.size = w.heap.size + 1 by simp] at h
    exact h
  have hB2 := below_then HB.out hb2
  obtain ⟨a0, a1, a2, a3, a4, a5, a6⟩ := A2.c7
  obtain ⟨f0, f1, f2, f3, f4, f5, f6⟩ := A2.f7
  have hA7 := hideB2 (A2.set7 (.string me) (.string ta) (.int .i64 st) (.string re) (.bool ba) (.slice va fs.length vc) (.string bo))
  have hO7 := hideB2 ((O2.set7 (g := w.heap.size) (by omega) (.string me) (.string ta) (.int .i64 st) (.string re) (.bool ba) (.slice va fs.length vc) (.string bo)).buf (w0 := w) (by omega) (below_set7 hB2 (Nat.le_refl _) (.string me) (.string ta) (.int .i64 st) (.string re) (.bool ba) (.slice va fs.length vc) (.string bo)))
  clear A2 O2 hB2 hbuf hb2 HT
  go_wp2
  refine bodyPost_ret (results_cellT rfl _ _ _ rfl hA7.out Tryz.underlying50 Tryz.infoMsg) rfl ⟨.slice va fs.length vc, ?_, hO7.out⟩
  rfl
set_option maxRecDepth 100000 in
set_option maxHeartbeats 4000000 in
theorem readAnswerIn_any (s : ByteArray) (head : Bool) (gb gh gm : Nat) (w : World) (hs : s.size ≤ 1048576) (X : Except Int Mg) (hX : msX true head s = X) (hb : Blk w gb #[.string s] 9) (hh : Blk w gh #[.bool head] 4) (hm : Blk w gm #[.string ⟨#[]⟩, .string ⟨#[]⟩, .int .i64 0, .string ⟨#[]⟩, .bool false, .slice none 0 0, .string ⟨#[]⟩] 50) (htab : Tab10 w) :
    Calls Tryz.prog 140 #[.pointer (some ⟨gb, 0, none⟩), .pointer (some ⟨gh, 0, none⟩), .pointer (some ⟨gm, 0, none⟩)] w fun e w' =>
      cbPost X e ∧ ∃ v, Blk w' gm (mgA (exM X) v) 50 ∧ OwF w.heap.size w' v (exM X).fs ∧ KBm gm w w' := by
  have HT := hideB2 (fun W h => takenMsg_any s true head W hs X hX h)
  have HTB := hideB2 htab
  have HM := hideB2 hm
  have p0 := hb.c1
  have q0 := hh.c1
  clear hh
  have hlm := hm.lt
  clear hX hb hm htab
  cases X with
  | ok g =>
    obtain ⟨me, ta, st, re, ba, fs, bo⟩ := g
    go_enter Tryz.func140, Tryz.ntmps140
    go_wp2_with fail
    refine (HT.out _ HTB.out).mono ?_
    rintro e w2 ⟨v, rfl, hbuf⟩
    obtain ⟨va, vc, rfl⟩ := hbuf.form
    have hb2 := hbuf.below
    have hown : OwF w.heap.size w2 (.slice va fs.length vc) fs := ⟨hbuf.own, hb2.size⟩
    have M2 := HM.out.later hb2
    obtain ⟨a0, a1, a2, a3, a4, a5, a6⟩ := M2.c7
    obtain ⟨f0, f1, f2, f3, f4, f5, f6⟩ := M2.f7
    have hM3 := hideB2 (M2.set7 (.string me) (.string ta) (.int .i64 st) (.string re) (.bool ba) (.slice va fs.length vc) (.string bo))
    have hO3 := hideB2 (hown.set7 (g := gm) hlm (.string me) (.string ta) (.int .i64 st) (.string re) (.bool ba) (.slice va fs.length vc) (.string bo))
    have HB2 := hideB2 hb2
    clear hbuf hb2 hown M2
    simp only [mgV]
    go_wp2
    go_end0
    exact ⟨show cbPost (.ok _) _ from rfl, .slice va fs.length vc, hM3.out, hO3.out, w2, HB2.out, .inr ⟨.string me, .string ta, .int .i64 st, .string re, .bool ba, .slice va fs.length vc, .string bo, rfl⟩⟩
  | error c =>
    go_enter Tryz.func140, Tryz.ntmps140
    go_wp2_with fail
    refine (HT.out _ HTB.out).mono ?_
    rintro e w2 ⟨he, hb2⟩
    subst he
    go_wp2
    exact ⟨rfl, show cbPost (.error c) _ from rfl, .slice none 0 0, HM.out.later hb2, OwF.start hb2.size, w2, hb2, .inl rfl⟩
set_option maxRecDepth 100000 in
set_option maxHeartbeats 4000000 in
theorem caughtReadAnswer_any (s : ByteArray) (head : Bool) (gb gh gm B : Nat) (w : World) (hs : s.size ≤ 1048576) (X : Except Int Mg) (hX : msX true head s = X) (hb : Blk w gb #[.string s] 9) (hh : Blk w gh #[.bool head] 4) (hm : Blk w gm #[.string ⟨#[]⟩, .string ⟨#[]⟩, .int .i64 0, .string ⟨#[]⟩, .bool false, .slice none 0 0, .string ⟨#[]⟩] 50) (htab : Tab10 w) (hB : B ≤ gm) (hB2 : B ≤ w.heap.size) :
    Calls Tryz.prog 135 #[.func (.func 140) #[] #[.pointer (some ⟨gb, 0, none⟩), .pointer (some ⟨gh, 0, none⟩), .pointer (some ⟨gm, 0, none⟩)]] w fun e w' =>
      e = .returned (.int .i64 (exC X)) ∧ ∃ v, Blk w' gm (mgA (exM X) v) 50 ∧ OwF (w.heap.size + 1) w' v (exM X).fs ∧ Below B w w' ∧ (∀ b c t, Blk w b c t → gm ≠ b → Blk w' b c t) := by
  have hmf : ∀ (fn : Fn) (first cap : Array Value) (w : World), (Instr.makeFunc fn first cap).run Tryz.prog w = .ok (.func fn first cap) w := fun _ _ _ _ => rfl
  have C1 := Blk.new w #[.int .i64 0] 3
  have hne1 : gm ≠ w.heap.size := by have := hm.lt; omega
  have hba := below_a1 w (.cells #[.int .i64 0] 3)
  have HC := hideB2 (readAnswerIn_any s head gb gh gm (w.alloc (.cells #[.int .i64 0] 3)) hs X hX (hb.alloc _) (hh.alloc _) (hm.alloc _) (tab_later htab hba))
  have hkeep : ∀ b c t, Blk w b c t → w.heap.size ≠ b ∧ Blk (w.alloc (.cells #[.int .i64 0] 3)) b c t := fun b c t h => ⟨by have := h.lt; omega, h.alloc _⟩
  have HKP := hideB2 hkeep
  clear hkeep
  have hsz : (w.alloc (.cells #[.int .i64 0] 3)).heap.size = w.heap.size + 1 := by simp
  have hBs : B ≤ (w.alloc (.cells #[.int .i64 0] 3)).heap.size := by omega
  rw [hsz] at HC
  clear hX hb hm htab hh
  go_enter_defers Tryz.func135, Tryz.ntmps135
  go_wp2_with fail
  refine HC.out.mono ?_
  rintro e w2 ⟨he, v, hm2, ho2, hkb⟩
  have C2 := hkb.blk C1 hne1
  have hB3 := (hba.mono hB2).trans (hkb.below hB hBs)
  have c0 := C2.c1
  have f0 := C2.free 0
  have hlt : w.heap.size < w.heap.size + 1 := by omega
  cases X with
  | ok b =>
    replace he : e = .returned (.tuple #[]) := he
    subst he
    have hm3 := hm2.other (Ne.symm hne1) 0 (.int .i64 0)
    have ho3 := ho2.set hlt 0 (.int .i64 0)
    have hB4 := hB3.setCell (p := ⟨w.heap.size, 0, none⟩) hB2 (.int .i64 0)
    have c1 := (C2.set1 (.int .i64 0)).c1
    go_wp2
    refine leaves_cons (f := 175) (args := #[.pointer (some ⟨w.heap.size, 0, none⟩)]) (by simp) (by simp [go_sem]) ?_
    refine (catch_idle w.heap.size _).mono ?_
    rintro e u' w3 ⟨rfl, rfl, rfl⟩
    refine ⟨.int .i64 0, ?_, rfl, v, hm3, ho3, hB4, fun b c t h h1 => (hkb.blk (HKP.out b c t h).2 h1).other (HKP.out b c t h).1 0 _⟩
    simp [settle, results, Tryz.results135, go_sem, c1]
  | error c =>
    replace he : e = .panicked (gone c) := he
    subst he
    have hm3 := hm2.other (Ne.symm hne1) 0 (.int .i64 c)
    have ho3 := ho2.set hlt 0 (.int .i64 c)
    have hB4 := hB3.setCell (p := ⟨w.heap.size, 0, none⟩) hB2 (.int .i64 c)
    have c1 := (C2.set1 (.int .i64 c)).c1
    go_wp2
    refine leaves_cons (f := 175) (args := #[.pointer (some ⟨w.heap.size, 0, none⟩)]) (by simp) (by simp [go_sem]) ?_
    refine (catch_panicking w.heap.size 0 c _ c0 f0).mono ?_
    rintro e u' w3 ⟨rfl, rfl, rfl⟩
    refine ⟨.int .i64 c, ?_, rfl, v, hm3, ho3, hB4, fun b c t h h1 => (hkb.blk (HKP.out b c t h).2 h1).other (HKP.out b c t h).1 0 _⟩
    simp [results, Tryz.results135, go_sem, c1]
set_option maxRecDepth 100000 in
set_option maxHeartbeats 4000000 in
theorem ReadAnswer_any (s : ByteArray) (head : Bool) (w : World) (hs : s.size ≤ 1048576) (htab : Tab10 w) :
    Calls Tryz.prog 104 #[.string s, .bool head] w fun e w' => ∃ v, e = .returned (.tuple #[mgV (exM (msX true head s)) v, .int .i64 (exC (msX true head s))]) ∧ BufF w w' v (exM (msX true head s)).fs := by
  have hmf : ∀ (fn : Fn) (first cap : Array Value) (w : World), (Instr.makeFunc fn first cap).run Tryz.prog w = .ok (.func fn first cap) w := fun _ _ _ _ => rfl
  have o0_0 : Blk (w.alloc (.cells #[.string s] 9)) (w.heap.size) #[.string s] 9 := Blk.new w _ _
  have b1 := below_a1 w (.cells #[.string s] 9)
  generalize hW1 : w.alloc (.cells #[.string s] 9) = W1 at *
  have n1 : W1.heap.size = w.heap.size + 1 := by rw [← hW1]; simp
  have o1_1 : Blk (W1.alloc (.cells #[.bool head] 4)) (w.heap.size + 1) #[.bool head] 4 := by rw [← n1]; exact Blk.new W1 _ _
  have o0_1 := o0_0.alloc (.cells #[.bool head] 4)
  have b2 := below_then b1 (below_a1 W1 (.cells #[.bool head] 4))
  generalize hW2 : W1.alloc (.cells #[.bool head] 4) = W2 at *
  have n2 : W2.heap.size = w.heap.size + 1 + 1 := by rw [← hW2]; simp [n1]
  have o2_2 : Blk (W2.alloc (.cells #[.string ⟨#[]⟩, .string ⟨#[]⟩, .int .i64 0, .string ⟨#[]⟩, .bool false, .slice none 0 0, .string ⟨#[]⟩] 50)) (w.heap.size + 1 + 1) #[.string ⟨#[]⟩, .string ⟨#[]⟩, .int .i64 0, .string ⟨#[]⟩, .bool false, .slice none 0 0, .string ⟨#[]⟩] 50 := by rw [← n2]; exact Blk.new W2 _ _
  have o0_2 := o0_1.alloc (.cells #[.string ⟨#[]⟩, .string ⟨#[]⟩, .int .i64 0, .string ⟨#[]⟩, .bool false, .slice none 0 0, .string ⟨#[]⟩] 50)
  have o1_2 := o1_1.alloc (.cells #[.string ⟨#[]⟩, .string ⟨#[]⟩, .int .i64 0, .string ⟨#[]⟩, .bool false, .slice none 0 0, .string ⟨#[]⟩] 50)
  have b3 := below_then b2 (below_a1 W2 (.cells #[.string ⟨#[]⟩, .string ⟨#[]⟩, .int .i64 0, .string ⟨#[]⟩, .bool false, .slice none 0 0, .string ⟨#[]⟩] 50))
  generalize hW3 : W2.alloc (.cells #[.string ⟨#[]⟩, .string ⟨#[]⟩, .int .i64 0, .string ⟨#[]⟩, .bool false, .slice none 0 0, .string ⟨#[]⟩] 50) = W3 at *
  have n3 : W3.heap.size = w.heap.size + 1 + 1 + 1 := by rw [← hW3]; simp [n2]
  have o3_3 : Blk (W3.alloc (.cells #[.string ⟨#[]⟩, .string ⟨#[]⟩, .int .i64 0, .string ⟨#[]⟩, .bool false, .slice none 0 0, .string ⟨#[]⟩] 50)) (w.heap.size + 1 + 1 + 1) #[.string ⟨#[]⟩, .string ⟨#[]⟩, .int .i64 0, .string ⟨#[]⟩, .bool false, .slice none 0 0, .string ⟨#[]⟩] 50 := by rw [← n3]; exact Blk.new W3 _ _
  have o0_3 := o0_2.alloc (.cells #[.string ⟨#[]⟩, .string ⟨#[]⟩, .int .i64 0, .string ⟨#[]⟩, .bool false, .slice none 0 0, .string ⟨#[]⟩] 50)
  have o1_3 := o1_2.alloc (.cells #[.string ⟨#[]⟩, .string ⟨#[]⟩, .int .i64 0, .string ⟨#[]⟩, .bool false, .slice none 0 0, .string ⟨#[]⟩] 50)
  have o2_3 := o2_2.alloc (.cells #[.string ⟨#[]⟩, .string ⟨#[]⟩, .int .i64 0, .string ⟨#[]⟩, .bool false, .slice none 0 0, .string ⟨#[]⟩] 50)
  have b4 := below_then b3 (below_a1 W3 (.cells #[.string ⟨#[]⟩, .string ⟨#[]⟩, .int .i64 0, .string ⟨#[]⟩, .bool false, .slice none 0 0, .string ⟨#[]⟩] 50))
  generalize hW4 : W3.alloc (.cells #[.string ⟨#[]⟩, .string ⟨#[]⟩, .int .i64 0, .string ⟨#[]⟩, .bool false, .slice none 0 0, .string ⟨#[]⟩] 50) = W4 at *
  have n4 : W4.heap.size = w.heap.size + 1 + 1 + 1 + 1 := by rw [← hW4]; simp [n3]
  generalize hX : msX true head s = X
  have HC := hideB2 (caughtReadAnswer_any s head (w.heap.size) (w.heap.size + 1) (w.heap.size + 1 + 1 + 1) w.heap.size W4 hs X hX o0_3 o1_3 o3_3 (tab_later htab b4) (by omega) b4.size)
  rw [n4] at HC
  have HR := hideB2 o2_3
  have HB5 := hideB2 b4
  subst hW4
  subst hW3
  subst hW2
  subst hW1
  clear o0_0 o0_1 o1_1 o0_2 o1_2 o2_2 o0_3 o1_3 o2_3 o3_3 b1 n1 b2 n2 b3 n3 b4 n4 hX htab
  generalize exM X = g at *
  obtain ⟨me, ta, st, re, ba, fs, bo⟩ := g
  simp only [mgV, mgA] at HC ⊢
  go_enter Tryz.func104, Tryz.ntmps104
  go_wp2_with fail
  refine HC.out.mono ?_
  rintro e w6 ⟨rfl, v, hm6, ho6, hb6, hk6⟩
  obtain ⟨va, vc, rfl⟩ := ho6.form
  have hr6 := hk6 _ _ _ HR.out (by omega)
  have HB6 := hideB2 (HB5.out.trans hb6)
  have HO6 := hideB2 ho6
  obtain ⟨p0, p1, p2, p3, p4, p5, p6⟩ := hm6.c7
  obtain ⟨a0, a1, a2, a3, a4, a5, a6⟩ := hr6.c7
  obtain ⟨f0, f1, f2, f3, f4, f5, f6⟩ := hr6.f7
  have hA7 := hideB2 (hr6.set7 (.string me) (.string ta) (.int .i64 st) (.string re) (.bool ba) (.slice va fs.length vc) (.string bo))
  have hO7 := hideB2 ((HO6.out.set7 (g := w.heap.size + 1 + 1) (by omega) (.string me) (.string ta) (.int .i64 st) (.string re) (.bool ba) (.slice va fs.length vc) (.string bo)).buf (w0 := w) (by omega) (below_set7 HB6.out (show w.heap.size ≤ w.heap.size + 1 + 1 by omega) (.string me) (.string ta) (.int .i64 st) (.string re) (.bool ba) (.slice va fs.length vc) (.string bo)))
  clear hm6 ho6 hb6 hk6 hr6 HR HC HB5 hmf
  go_wp2
  refine bodyPost_ret (results_cellT rfl _ _ _ rfl hA7.out Tryz.underlying50 Tryz.infoMsg) rfl ⟨.slice va fs.length vc, ?_, hO7.out⟩
  rfl
set_option maxRecDepth 100000 in
set_option maxHeartbeats 4000000 in
theorem sReadAnswer_any (s : ByteArray) (head : Bool) (w : World) (hs : s.size ≤ 1048576) :
    Calls Tryz.prog 71 #[.string s, .bool head] w fun e w' => ∃ v, e = .returned (.tuple #[mgV (exM (msX true head s)) v, .int .i64 (exC (msX true head s))]) ∧ BufF w w' v (exM (msX true head s)).fs := by
  have HB := hideB2 (below_a1 w (.cells #[.string ⟨#[]⟩, .string ⟨#[]⟩, .int .i64 0, .string ⟨#[]⟩, .bool false, .slice none 0 0, .string ⟨#[]⟩] 50))
  have HA := hideB2 (Blk.new w #[.string ⟨#[]⟩, .string ⟨#[]⟩, .int .i64 0, .string ⟨#[]⟩, .bool false, .slice none 0 0, .string ⟨#[]⟩] 50)
  have HT := hideB2 (fun W => l6read_any s true head W hs)
  generalize msX true head s = X at *
  generalize exM X = g at *
  obtain ⟨me, ta, st, re, ba, fs, bo⟩ := g
  simp only [mgV] at HT ⊢
  go_enter Tryz.func71, Tryz.ntmps71
  go_wp2_with fail
  refine (HT.out _).mono ?_
  rintro e w2 ⟨v, rfl, hbuf⟩
  obtain ⟨va, vc, rfl⟩ := hbuf.form
  have hb2 := hbuf.below
  have A2 := HA.out.later hb2
  have O2 : OwF (w.heap.size + 1) w2 (.slice va fs.length vc) fs := by
    have h := (show OwF _ w2 (.slice va fs.length vc) fs from ⟨hbuf.own, hb2.size⟩)
    rw [show (w.alloc (.cells #[.string ⟨#[]⟩, .string ⟨#[]⟩, .int .i64 0, .string ⟨#[]⟩, .bool false, .slice none 0 0, .string ⟨#[]⟩] 50)).heap.size = w.heap.size + 1 by simp] at h
    exact h
  have hB2 := below_then HB.out hb2
  obtain ⟨a0, a1, a2, a3, a4, a5, a6⟩ := A2.c7
  obtain ⟨f0, f1, f2, f3, f4, f5, f6⟩ := A2.f7
  have hA7 := hideB2 (A2.set7 (.string me) (.string ta) (.int .i64 st) (.string re) (.bool ba) (.slice va fs.length vc) (.string bo))
  have hO7 := hideB2 ((O2.set7 (g := w.heap.size) (by omega) (.string me) (.string ta) (.int .i64 st) (.string re) (.bool ba) (.slice va fs.length vc) (.string bo)).buf (w0 := w) (by omega) (below_set7 hB2 (Nat.le_refl _) (.string me) (.string ta) (.int .i64 st) (.string re) (.bool ba) (.slice va fs.length vc) (.string bo)))
  clear A2 O2 hB2 hbuf hb2 HT
  go_wp2
  refine bodyPost_ret (results_cellT rfl _ _ _ rfl hA7.out Tryz.underlying50 Tryz.infoMsg) rfl ⟨.slice va fs.length vc, ?_, hO7.out⟩
  rfl
end Go.Proofs.YthdgeepedofleaaGreatDoor
namespace Go.Proofs.YthdgeepedofleaaGreatDoor
set_option linter.unusedVariables false
set_option linter.unusedSimpArgs false
open Go.RowKit
theorem right_any (n : Int) (w : World) : Calls Tryz.prog 73 #[.int .i64 n] w fun e w' => e = .returned (.bool (n == 0 || n == 1)) ∧ w' = w := by
  cases h : (n == 0)
  · cases h1 : (n == 1)
    all_goals
      go_enter Tryz.func73, Tryz.ntmps73
      go_wp2
      go_ret
      exact ⟨rfl, rfl⟩
  · go_enter Tryz.func73, Tryz.ntmps73
    go_wp2
    go_ret
    exact ⟨rfl, rfl⟩
set_option maxHeartbeats 1000000 in
theorem timesOk_any (si ak wh : Int) (ur rq an : ByteArray) (w : World) :
    Calls Tryz.prog 74 #[.agg #[.int .i64 si, .int .i64 ak, .int .i64 wh, .string ur, .string rq, .string an]] w fun e w' => e = .returned (.bool (timeB ak && timeB wh && decide (ak ≤ wh))) ∧ Below w.heap.size w w' := by
  have HB := hideB2 (below_a1 w (.cells #[.int .i64 si, .int .i64 ak, .int .i64 wh, .string ur, .string rq, .string an] 24))
  have HI := hideB2 (fun n W => isTime_any n W)
  cases h1 : timeB ak
  · go_enter Tryz.func74, Tryz.ntmps74
    go_wp2_with (go_at_call 101; refine (HI.out _ _).mono ?_; rintro e w' ⟨rfl, rfl⟩; rw [h1])
    go_ret
    exact ⟨rfl, HB.out⟩
  · cases h2 : timeB wh
    · go_enter Tryz.func74, Tryz.ntmps74
      go_wp2_with (go_at_call 101; refine (HI.out _ _).mono ?_; rintro e w' ⟨rfl, rfl⟩; first | rw [h1] | rw [h2])
      go_ret
      exact ⟨rfl, HB.out⟩
    · cases h3 : decide (ak ≤ wh)
      all_goals
        go_enter Tryz.func74, Tryz.ntmps74
        go_wp2_with (go_at_call 101; refine (HI.out _ _).mono ?_; rintro e w' ⟨rfl, rfl⟩; first | rw [h1] | rw [h2])
        go_ret
        exact ⟨rfl, HB.out⟩
set_option maxRecDepth 100000 in
set_option maxHeartbeats 4000000 in
theorem readRequest_any (si ak wh : Int) (ur rq an : ByteArray) (w : World) (z : rq.size ≤ 1048576) (htab : Tab10 w) :
    Calls Tryz.prog 75 #[.agg #[.int .i64 si, .int .i64 ak, .int .i64 wh, .string ur, .string rq, .string an]] w fun e w' => ∃ v, e = .returned (.tuple #[mgV (rrX ⟨si, ak, wh, ur, rq, an⟩).1 v, .bool (rrX ⟨si, ak, wh, ur, rq, an⟩).2]) ∧ BufF w w' v (rrX ⟨si, ak, wh, ur, rq, an⟩).1.fs := by
  have hb0 := below_a1 w (.cells #[.int .i64 si, .int .i64 ak, .int .i64 wh, .string ur, .string rq, .string an] 24)
  have E0 := Blk.new w #[.int .i64 si, .int .i64 ak, .int .i64 wh, .string ur, .string rq, .string an] 24
  generalize hW0 : w.alloc (.cells #[.int .i64 si, .int .i64 ak, .int .i64 wh, .string ur, .string rq, .string an] 24) = W0 at *
  have n0 : W0.heap.size = w.heap.size + 1 := by rw [← hW0]; simp
  have A1 : Blk (W0.alloc (.cells #[.string ⟨#[]⟩, .string ⟨#[]⟩, .int .i64 0, .string ⟨#[]⟩, .bool false, .slice none 0 0, .string ⟨#[]⟩] 50)) (w.heap.size + 1) #[.string ⟨#[]⟩, .string ⟨#[]⟩, .int .i64 0, .string ⟨#[]⟩, .bool false, .slice none 0 0, .string ⟨#[]⟩] 50 := by rw [← n0]; exact Blk.new W0 _ _
  have E1 := E0.alloc (.cells #[.string ⟨#[]⟩, .string ⟨#[]⟩, .int .i64 0, .string ⟨#[]⟩, .bool false, .slice none 0 0, .string ⟨#[]⟩] 50)
  have hb1 := below_then hb0 (below_a1 W0 (.cells #[.string ⟨#[]⟩, .string ⟨#[]⟩, .int .i64 0, .string ⟨#[]⟩, .bool false, .slice none 0 0, .string ⟨#[]⟩] 50))
  have n1 : (W0.alloc (.cells #[.string ⟨#[]⟩, .string ⟨#[]⟩, .int .i64 0, .string ⟨#[]⟩, .bool false, .slice none 0 0, .string ⟨#[]⟩] 50)).heap.size = w.heap.size + 1 + 1 := by simp [n0]
  have HT0 := hideB2 htab
  have HT := hideB2 (tab_later htab hb1)
  clear htab
  have HR := hideB2 (fun W h => ReadRequest_any rq W z h)
  have HBD := hideB2 (fun g (h : msX false false rq = .ok g) => msX_bds h)
  have HE1 := hideB2 E1
  have HA1 := hideB2 A1
  have HB1 := hideB2 hb1
  have HN1 := hideB2 n1
  obtain ⟨p0, p1, p2, p3, p4, p5⟩ := E1.c6
  have hlt1 := A1.lt
  subst hW0
  clear E0 A1 E1 hb0 hb1 n0 n1
  cases hm : msX false false rq with
  | error c =>
    rw [rr_err (x := ⟨si, ak, wh, ur, rq, an⟩) hm]
    rw [hm] at HR
    have hcb : (c != 0) = true := by simpa using msX_err hm
    clear hm
    go_enter Tryz.func75, Tryz.ntmps75
    go_wp2_with fail
    refine (HR.out _ HT.out).mono ?_
    rintro e w2 ⟨v, rfl, hbuf⟩
    obtain ⟨va, vc, rfl⟩ := hbuf.form
    have hb2 := hbuf.below
    simp only [exM, mgV, mg0, exC, List.length_nil]
    have A2 := HA1.out.later hb2
    have hlt2 := A2.lt
    obtain ⟨a0, a1, a2, a3, a4, a5, a6⟩ := A2.c7
    obtain ⟨f0, f1, f2, f3, f4, f5, f6⟩ := A2.f7
    have HA3 := hideB2 ((A2.set7 (.string ⟨#[]⟩) (.string ⟨#[]⟩) (.int .i64 0) (.string ⟨#[]⟩) (.bool false) (.slice none 0 0) (.string ⟨#[]⟩)).alloc (.cells #[.string ⟨#[]⟩, .string ⟨#[]⟩, .int .i64 0, .string ⟨#[]⟩, .bool false, .slice va 0 vc, .string ⟨#[]⟩] 50))
    have HB3 := hideB2 (below_then (below_set7 (below_then HB1.out hb2) (show w.heap.size ≤ w.heap.size + 1 by omega) (.string ⟨#[]⟩) (.string ⟨#[]⟩) (.int .i64 0) (.string ⟨#[]⟩) (.bool false) (.slice none 0 0) (.string ⟨#[]⟩)) (below_a1 _ (.cells #[.string ⟨#[]⟩, .string ⟨#[]⟩, .int .i64 0, .string ⟨#[]⟩, .bool false, .slice va 0 vc, .string ⟨#[]⟩] 50)))
    clear A2 hbuf hb2 p0 p1 p2 p3 p4 p5
    go_wp2
    refine bodyPost_ret (results_cellT rfl _ _ _ rfl HA3.out Tryz.underlying50 Tryz.infoMsg) rfl ⟨.slice none 0 0, ?_, ?_⟩
    · rfl
    · exact (BufF.start w).later HB3.out
  | ok q =>
    rw [rr_ok (x := ⟨si, ak, wh, ur, rq, an⟩) hm]
    rw [hm] at HR
    have hbd := HBD.out q hm
    have HCA := hideB2 (fun W h => Canon_any q.ta W (by have := hbd.ta; omega) h)
    clear hm HBD hbd
    generalize rdO q.ta = O at *
    generalize canB q.ta = C at *
    obtain ⟨me, ta, st, re, ba, fs, bo⟩ := q
    simp only [exM, mgV, exC] at HR HCA ⊢
    go_enter Tryz.func75, Tryz.ntmps75
    go_wp2_with fail
    refine (HR.out _ HT.out).mono ?_
    rintro e w2 ⟨v, rfl, hbuf⟩
    obtain ⟨va, vc, rfl⟩ := hbuf.form
    have hb2 := hbuf.below
    have O2 : OwF (w.heap.size + 1 + 1) w2 (.slice va fs.length vc) fs := by
      have h := (show OwF _ w2 (.slice va fs.length vc) fs from ⟨hbuf.own, hb2.size⟩)
      rw [HN1.out] at h
      exact h
    have hal := below_a1 w2 (.cells #[.string me, .string ta, .int .i64 st, .string re, .bool ba, .slice va fs.length vc, .string bo] 50)
    have M3 := Blk.new w2 #[.string me, .string ta, .int .i64 st, .string re, .bool ba, .slice va fs.length vc, .string bo] 50
    have A3 := (HA1.out.later hb2).alloc (.cells #[.string me, .string ta, .int .i64 st, .string re, .bool ba, .slice va fs.length vc, .string bo] 50)
    have E3 := (HE1.out.later hb2).alloc (.cells #[.string me, .string ta, .int .i64 st, .string re, .bool ba, .slice va fs.length vc, .string bo] 50)
    have O3 := O2.alloc (.cells #[.string me, .string ta, .int .i64 st, .string re, .bool ba, .slice va fs.length vc, .string bo] 50)
    have hB3 := below_then (below_then HB1.out hb2) hal
    have hltA := (HA1.out.later hb2).lt
    obtain ⟨m0, m1, m2, m3, m4, m5, m6⟩ := M3.c7
    clear p0 p1 p2 p3 p4 p5 hbuf O2
    go_wp2_with fail
    generalize hW : w2.alloc (.cells #[.string me, .string ta, .int .i64 st, .string re, .bool ba, .slice va fs.length vc, .string bo] 50) = W3 at *
    clear hW hal hb2 m0 m1 m2 m3 m4 m5 m6
    generalize w2.heap.size = G at *
    refine (HCA.out _ (tab_later HT0.out hB3)).mono ?_
    rintro e w4 ⟨rfl, hb4⟩
    have M4 := M3.later hb4
    have A4 := A3.later hb4
    have E4 := E3.later hb4
    have O4 := O3.later hb4
    have hB4 := below_then hB3 hb4
    obtain ⟨m0, m1, m2, m3, m4, m5, m6⟩ := M4.c7
    obtain ⟨a0, a1, a2, a3, a4, a5, a6⟩ := A4.c7
    obtain ⟨f0, f1, f2, f3, f4, f5, f6⟩ := A4.f7
    obtain ⟨p0, p1, p2, p3, p4, p5⟩ := E4.c6
    have hA5 := hideB2 (A4.set7 (.string me) (.string ta) (.int .i64 st) (.string re) (.bool ba) (.slice va fs.length vc) (.string bo)).drew
    have hO5 := hideB2 (((O4.set7 (g := w.heap.size + 1) (by omega) (.string me) (.string ta) (.int .i64 st) (.string re) (.bool ba) (.slice va fs.length vc) (.string bo)).drew).buf (w0 := w) (by omega) (below_set7 hB4 (show w.heap.size ≤ w.heap.size + 1 by omega) (.string me) (.string ta) (.int .i64 st) (.string re) (.bool ba) (.slice va fs.length vc) (.string bo)).drew)
    clear M3 A3 E3 O3 hB3 hb4 M4 A4 E4 O4 hB4 HR HCA HE1 HA1 HB1 HN1 HT
    cases O
    · go_wp2
      go_big_region
      go_wp2
      refine bodyPost_ret (results_cellT rfl _ _ _ rfl hA5.out Tryz.underlying50 Tryz.infoMsg) rfl ⟨.slice va fs.length vc, ?_, hO5.out⟩
      rfl
    · cases hq : eqB C ur
      all_goals
        have hq' : (C.toList == ur.toList) = eqB C ur := rfl
        rw [hq] at hq'
        go_wp2
        go_big_region
        go_wp2
        refine bodyPost_ret (results_cellT rfl _ _ _ rfl hA5.out Tryz.underlying50 Tryz.infoMsg) rfl ⟨.slice va fs.length vc, ?_, hO5.out⟩
        rw [hq]
        rfl
end Go.Proofs.YthdgeepedofleaaGreatDoor
