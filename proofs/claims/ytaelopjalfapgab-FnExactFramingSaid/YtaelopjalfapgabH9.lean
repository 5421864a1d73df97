/-
  Chapter 6: how a body is bounded. The specification's side.
-/
import Derived.Test.YtaelopjalfapgabMK6
namespace Go.Proofs.Ytaelopjalfapgab
set_option linter.unusedVariables false
set_option linter.unusedSimpArgs false
open Go.RowKit
theorem eqB_ch2 {s : ByteArray} : eqB s chB = (s.toList == [99, 104, 117, 110, 107, 101, 100]) := by unfold eqB; rw [ByteArray.toList_eq chB]; rfl
theorem oneO_bad {ws : List ByteArray} {k : Nat} (hk : k < ws.length) (h : rdecOk (tAt ws k) = false ∨ ¬ rdecN (tAt ws k) = rdecN (tAt ws 0)) : oneO ws = false := by
  cases ho : oneO ws with
  | false => rfl
  | true =>
    exfalso
    unfold oneO at ho
    rw [Bool.and_eq_true, Bool.and_eq_true] at ho
    obtain ⟨⟨_, h2⟩, h3⟩ := ho
    have e := sameW_at h2 hk
    rw [e] at h
    rcases h with h | h
    · rw [h] at h3; cases h3
    · exact h rfl
theorem oneO_good {ws : List ByteArray} (h0 : 0 < ws.length) (h : ∀ j, j < ws.length → rdecOk (tAt ws j) = true ∧ rdecN (tAt ws j) = rdecN (tAt ws 0)) : oneO ws = true ∧ oneN ws = rdecN (tAt ws 0) := by
  have h1 : oneO ws = true := by
    unfold oneO
    rw [Bool.and_eq_true, Bool.and_eq_true]
    refine ⟨⟨?_, ?_⟩, (h 0 h0).1⟩
    · have : ((ws.length : Int) == 0) = false := beq_eq_false_iff_ne.2 (by omega)
      rw [this]; rfl
    · exact sameW_yes fun j hj => rdec_inj (h j hj).1 (h 0 h0).1 (h j hj).2
  exact ⟨h1, by unfold oneN; rw [if_pos h1]⟩
theorem oneO_none {ws : List ByteArray} (h : ((ws.length : Int) == 0) = true) : oneO ws = false := by unfold oneO; rw [h]; rfl
set_option maxHeartbeats 8000000 in
theorem sFraming_any (v : Value) (l : List Fd) (answer bare : Bool) (w : World) (hv : SlF w v l) (hl : l.length ≤ 1048576) (ht : totF l ≤ 1099511627776) :
    Calls Try.prog 5 #[v, .bool answer, .bool bare] w fun e w' => e = .returned (.tuple #[.int .i64 (frK l answer bare), .int .i64 (frN l answer bare)]) ∧ Below w.heap.size w w' := by
  have HF := hideB2 (fun W h => sFieldsOk_any v l W h hl ht)
  have HG1 := hideB2 (fun W h => sGet_any v l teN W h hl ht (by decide))
  have HG2 := hideB2 (fun W h => sGet_any v l clN W h hl ht (by decide))
  have HW1 := hideB2 (fun W h => sWords_any v l teN W h hl ht (by decide))
  have HW2 := hideB2 (fun W h => sWords_any v l clN W h hl ht (by decide))
  have HV := hideB2 hv
  obtain ⟨a, c0, rfl⟩ := hv.form
  clear hv
  generalize l.length = m at *
  cases hq : fieldsQ l
  · obtain ⟨e1, e2⟩ := frK_no (answer := answer) (bare := bare) hq
    rw [e1, e2]
    have H1 := hideB2 hq
    clear hq e1 e2
    go_enter Try.func5, Try.ntmps5
    go_wp2_with (go_at_call 10; refine (HF.out _ HV.out).mono ?_; rintro e w1 ⟨rfl, hb1⟩; rw [H1.out])
    go_ret2
    exact ⟨rfl, hb1⟩
  · obtain ⟨e1, e2⟩ := frK_yes (answer := answer) (bare := bare) hq
    rw [e1, e2]
    have H1 := hideB2 hq
    clear hq e1 e2
    have WL1 := words_len l teN
    have WL2 := words_len l clN
    have WS1 := hideB2 (words_size l teN)
    have WS2 := hideB2 (words_size l clN)
    change Hid (∀ W, SlF W _ l → Calls _ _ _ W fun e w' => ∃ v', e = .returned v' ∧ BufS W w' v' (wordsL l teN)) at HW1
    change Hid (∀ W, SlF W _ l → Calls _ _ _ W fun e w' => ∃ v', e = .returned v' ∧ BufS W w' v' (wordsL l clN)) at HW2
    change Hid (∀ W, SlF W _ l → Calls _ _ _ W fun e w' => e = .returned (.tuple #[.string (getB l teN), .bool (teQ l)]) ∧ Below W.heap.size W w') at HG1
    change Hid (∀ W, SlF W _ l → Calls _ _ _ W fun e w' => e = .returned (.tuple #[.string (getB l clN), .bool (clQ l)]) ∧ Below W.heap.size W w') at HG2
    generalize wordsL l teN = ws1 at *
    generalize wordsL l clN = ws2 at *
    generalize teQ l = te at *
    generalize clQ l = cl at *
    generalize getB l teN = gb1 at *
    generalize getB l clN = gb2 at *
    have HBAD := hideB2 (fun k hk h => oneO_bad (ws := ws2) (k := k) hk h)
    have HGOOD0 := hideB2 (fun h3 h => oneO_good (ws := ws2) h3 h)
    have HNONE := hideB2 (fun h => oneO_none (ws := ws2) h)
    have HCQ := hideB2 (show chkQ ws1 = (((ws1.length : Int) == 1) && eqB (foldB (tAt ws1 0)) chB) from rfl)
    generalize oneO ws2 = O at *
    generalize oneN ws2 = N at *
    generalize chkQ ws1 = C at *
    go_enter Try.func5, Try.ntmps5
    go_wp2_with fail
    refine (HF.out _ HV.out).mono ?_
    rintro e w1 ⟨rfl, hb1⟩
    rw [H1.out]
    go_wp2_with fail
    refine (HG1.out _ (HV.out.later hb1)).mono ?_
    rintro e w2 ⟨rfl, hb2⟩
    have HB2 := hideB2 (below_then hb1 hb2)
    clear hb1 hb2
    go_wp2_with fail
    refine (HG2.out _ (HV.out.later HB2.out)).mono ?_
    rintro e w3 ⟨rfl, hb3⟩
    have HB3 := hideB2 (below_then HB2.out hb3)
    clear hb3 HB2 HG1 HG2 HF
    cases te
    · cases cl
      · cases O <;> cases bare <;> cases answer
        all_goals
          go_wp2
          go_ret2
          exact ⟨rfl, HB3.out⟩
      · go_wp2_with fail
        refine (HW2.out _ (HV.out.later HB3.out)).mono ?_
        rintro e w4 ⟨v4, rfl, hb4⟩
        obtain ⟨a4, c4, rfl, hr4⟩ := hb4.rows
        have HB4 := hideB2 (below_then HB3.out hb4.below)
        have HR4 := hideB2 hr4
        clear hb4 hr4 HB3
        cases h0 : ((ws2.length : Int) == 0)
        · have h3 : 0 < ws2.length := by
            have : ¬ (ws2.length : Int) = 0 := by simpa using h0
            omega
          have HGOOD := hideB2 (fun h => HGOOD0.out h3 h)
          clear HGOOD0 HNONE
          obtain ⟨g, rfl, hc⟩ := HR4.out.at h3
          have HC := hideB2 (show ∀ j, j < ws2.length → w4.cell? ⟨g, j, none⟩ = some (.string (tAt ws2 j)) from hc)
          have hglt := World.block_lt_of_cell? _ _ (hc 0 h3)
          clear hc HR4
          generalize hm2 : ws2.length = m2 at *
          clear hm2
          go_wp2
          go_loopw [13, 15] (fun n i wr => ∃ k : Nat, k ≤ m2 ∧ i = .int .i64 k ∧ n = .int .i64 (if k = 0 then 0 else rdecN (tAt ws2 0)) ∧ (∀ j, j < k → rdecOk (tAt ws2 j) = true ∧ rdecN (tAt ws2 j) = rdecN (tAt ws2 0)) ∧ Below w4.heap.size w4 wr) (fun _ i _ => m2 - (intOf i).toNat)
          case atStart => exact ⟨0, Nat.zero_le _, rfl, rfl, fun j hj => absurd hj (by omega), Below.refl _ _⟩
          case round =>
            obtain ⟨k, hk, rfl, rfl, hall, hb⟩ := hrel
            have HALL := hideB2 hall
            have HBW := hideB2 hb
            clear hall
            by_cases hlt : k < m2
            · have pk := HC.out k hlt
              rw [← hb.cell (p := ⟨g, k, none⟩) hglt] at pk
              have HD := hideB2 (fun W => sReadDec_any (tAt ws2 k) W (WS2.out k))
              have HBK := hideB2 (HBAD.out k hlt)
              clear hb
              generalize hx : tAt ws2 k = x at *
              have HX := hideB2 hx
              clear hx
              cases hok : rdecOk x
              · have HF := hideB2 (HBK.out (Or.inl hok))
                rw [hok] at HD
                generalize rdecN x = nx at *
                generalize (if k = 0 then (0 : Int) else rdecN (tAt ws2 0)) = n13 at *
                obtain rfl := HF.out
                clear HF hok
                go_wp2_with (go_at_call 14; refine (HD.out _).mono ?_; rintro e w5 ⟨rfl, hb5⟩)
                go_ret2
                exact ⟨rfl, below_then (below_then HB4.out HBW.out) hb5⟩
              · have HOK := hideB2 hok
                rw [hok] at HD
                clear hok
                by_cases hk0 : k = 0
                · subst hk0
                  rw [if_pos rfl]
                  have HX2 := hideB2 (congrArg rdecN HX.out)
                  generalize hnx : rdecN x = nx at *
                  have HNX := hideB2 hnx
                  clear hnx
                  go_wp2_with (go_at_call 14; refine (HD.out _).mono ?_; rintro e w5 ⟨rfl, hb5⟩)
                  refine ⟨⟨1, by omega, by go_num, ?_, fun j hj => ?_, below_then HBW.out hb5⟩, by simp [intOf]; omega⟩
                  · rw [if_neg (by omega), HX2.out]
                  · obtain rfl : j = 0 := by omega
                    rw [HX.out]
                    exact ⟨HOK.out, rfl⟩
                · rw [if_neg hk0]
                  have hkp : (0 : Int) < (k : Int) := by omega
                  by_cases hsame : rdecN x = rdecN (tAt ws2 0)
                  · have HS := hideB2 hsame
                    rw [hsame] at HD
                    clear hsame
                    generalize hn0 : rdecN (tAt ws2 0) = n0 at *
                    have hne : (n0 == n0) = true := by simp
                    go_wp2_with (go_at_call 14; refine (HD.out _).mono ?_; rintro e w5 ⟨rfl, hb5⟩)
                    refine ⟨⟨k + 1, by omega, by go_num, ?_, fun j hj => ?_, below_then HBW.out hb5⟩, by simp [intOf]; omega⟩
                    · rw [if_neg (by omega)]
                    · by_cases e : j = k
                      · subst e; rw [HX.out]; exact ⟨HOK.out, HS.out⟩
                      · exact HALL.out j (by omega)
                  · have HF := hideB2 (HBK.out (Or.inr hsame))
                    generalize rdecN (tAt ws2 0) = n0 at *
                    generalize rdecN x = nx at *
                    have hne : (nx == n0) = false := beq_eq_false_iff_ne.2 hsame
                    obtain rfl := HF.out
                    clear HF
                    go_wp2_with (go_at_call 14; refine (HD.out _).mono ?_; rintro e w5 ⟨rfl, hb5⟩)
                    go_ret2
                    exact ⟨rfl, below_then (below_then HB4.out HBW.out) hb5⟩
            · obtain rfl : k = m2 := by omega
              have HF := hideB2 (HGOOD.out (fun j hj => HALL.out j hj))
              rw [if_neg (by omega)]
              obtain ⟨e1, e2⟩ := HF.out
              rw [← e2]
              subst e1
              clear HF HALL HBAD HGOOD hb e2
              generalize tAt ws2 0 = x0 at *
              cases bare
              all_goals
                go_wp2
                go_ret2
                exact ⟨rfl, below_then HB4.out HBW.out⟩
        · obtain rfl := HNONE.out h0
          generalize hm2 : ws2.length = m2 at *
          clear hm2 HR4
          go_wp2
          go_ret2
          exact ⟨rfl, HB4.out⟩
    · go_wp2_with fail
      refine (HW1.out _ (HV.out.later HB3.out)).mono ?_
      rintro e w6 ⟨v6, rfl, hb6⟩
      obtain ⟨a6, c6, rfl, hr6⟩ := hb6.rows
      have HB6 := hideB2 (below_then HB3.out hb6.below)
      have HR6 := hideB2 hr6
      clear hb6 hr6 HB3
      cases cl
      · cases h1 : ((ws1.length : Int) == 1)
        · obtain rfl : C = false := by rw [HCQ.out, h1]; rfl
          have hb1 : ((ws1.length : Int) != 1) = true := by unfold bne; rw [h1]; rfl
          generalize hm1 : ws1.length = m1 at *
          clear hm1 HR6
          go_wp2
          go_ret2
          exact ⟨rfl, HB6.out⟩
        · have HQ := hideB2 (show C = eqB (foldB (tAt ws1 0)) chB by rw [HCQ.out, h1]; rfl)
          rw [eqB_ch2] at HQ
          clear HCQ
          have h2 : (ws1.length : Int) = 1 := by simpa using h1
          have hb1 : ((ws1.length : Int) != 1) = false := by unfold bne; rw [h1]; rfl
          have h3 : 0 < ws1.length := by omega
          obtain ⟨g, rfl, hc⟩ := HR6.out.at h3
          have p0 : w6.cell? ⟨g, 0, none⟩ = some (.string (tAt ws1 0)) := hc 0 h3
          have HFo := hideB2 (fun W => sFold_any (tAt ws1 0) W (WS1.out 0))
          clear hc HR6
          generalize hx : tAt ws1 0 = x at *
          clear hx
          generalize foldB x = y at *
          generalize hm1 : ws1.length = m1 at *
          clear hm1
          cases hy : (y.toList == [99, 104, 117, 110, 107, 101, 100]) <;> cases bare
          all_goals
            rw [hy] at HQ
            obtain rfl := HQ.out
            clear HQ
            go_wp2_with (go_at_call 13; refine (HFo.out _).mono ?_; rintro e w7 ⟨rfl, hb7⟩)
            go_ret2
            exact ⟨rfl, below_then HB6.out hb7⟩
      · generalize hm1 : ws1.length = m1 at *
        clear hm1 HR6
        go_wp2
        go_ret2
        exact ⟨rfl, HB6.out⟩
end Go.Proofs.Ytaelopjalfapgab
