/-
  Chapter 6: how a body is bounded. The program's side.
-/
import Derived.Test.YtaelopjalfapgabMK6
namespace Go.Proofs.Ytaelopjalfapgab
set_option linter.unusedVariables false
set_option linter.unusedSimpArgs false
open Go.RowKit
theorem eqB_ch {s : ByteArray} : eqB s chB = (s.toList == [99, 104, 117, 110, 107, 101, 100]) := by unfold eqB; rw [ByteArray.toList_eq chB]; rfl
set_option maxHeartbeats 1000000 in
theorem onlyChunked_any (a : Option Addr) (c : Nat) (ws : List ByteArray) (w : World) (hr : RowS w a ws) (hl : ws.length ≤ 4001) (hz : (tAt ws 0).size ≤ maxLen) :
    Calls Try.prog 20 #[.slice a ws.length c] w fun e w' => e = .returned (.bool (chkQ ws)) ∧ Below w.heap.size w w' := by
  cases h1 : ((ws.length : Int) == 1)
  · have HQ := hideB2 (show chkQ ws = false by unfold chkQ; rw [h1]; rfl)
    generalize hm : ws.length = m at *
    clear hm
    go_enter Try.func20, Try.ntmps20
    go_wp2
    go_ret
    exact ⟨ret_bool HQ.out, Below.refl _ _⟩
  · have HQ := hideB2 (show chkQ ws = eqB (foldB (tAt ws 0)) chB by unfold chkQ; rw [h1]; rfl)
    rw [eqB_ch] at HQ
    have h2 : (ws.length : Int) = 1 := by simpa using h1
    have h3 : 0 < ws.length := by omega
    obtain ⟨g, rfl, hc⟩ := hr.at h3
    have p0 : w.cell? ⟨g, 0, none⟩ = some (.string (tAt ws 0)) := hc 0 h3
    have HF := hideB2 (fun W => Fold_any (tAt ws 0) W hz)
    clear hc hr
    generalize tAt ws 0 = x at *
    generalize foldB x = y at *
    generalize hm : ws.length = m at *
    clear hm
    go_enter Try.func20, Try.ntmps20
    go_wp2_with (go_at_call 34; refine (HF.out _).mono ?_; rintro e w2 ⟨rfl, hb2⟩)
    go_ret
    exact ⟨ret_bool HQ.out, hb2⟩
theorem oneO_no0 {ws : List ByteArray} (h : ((ws.length : Int) == 0) = true) : oneO ws = false ∧ oneN ws = 0 := by
  have h1 : oneO ws = false := by unfold oneO; rw [h]; rfl
  exact ⟨h1, by unfold oneN; rw [h1]; rfl⟩
theorem oneO_no1 {ws : List ByteArray} (h : sameW ws = false) : oneO ws = false ∧ oneN ws = 0 := by
  have h1 : oneO ws = false := by unfold oneO; rw [h]; simp
  exact ⟨h1, by unfold oneN; rw [h1]; rfl⟩
theorem oneO_yes {ws : List ByteArray} (h0 : ((ws.length : Int) == 0) = false) (h : sameW ws = true) : oneO ws = rdecOk (tAt ws 0) ∧ oneN ws = rdecN (tAt ws 0) := by
  have h1 : oneO ws = rdecOk (tAt ws 0) := by unfold oneO; rw [h0, h]; rfl
  refine ⟨h1, ?_⟩
  unfold oneN; rw [h1]
  split
  · rfl
  · rename_i h2
    unfold rdecOk at h2
    unfold rdecN
    cases hr : rdec (tAt ws 0) with
    | none => rfl
    | some u => rw [hr] at h2; simp at h2
set_option maxHeartbeats 2000000 in
theorem onlyLength_any (a : Option Addr) (c : Nat) (ws : List ByteArray) (w : World) (hr : RowS w a ws) (hl : ws.length ≤ 4001) (hz : ∀ j, (tAt ws j).size ≤ maxLen) :
    Calls Try.prog 18 #[.slice a ws.length c] w fun e w' => e = .returned (.tuple #[.int .i64 (oneN ws), .bool (oneO ws)]) ∧ w' = w := by
  cases h0 : ((ws.length : Int) == 0)
  · have h3 : 0 < ws.length := by
      have : ¬ (ws.length : Int) = 0 := by simpa using h0
      omega
    obtain ⟨g, rfl, hc⟩ := hr.at h3
    have HC := hideB2 (show ∀ j, j < ws.length → w.cell? ⟨g, j, none⟩ = some (.string (tAt ws j)) from hc)
    have p0 := HC.out 0 h3
    have HY := hideB2 (fun h => oneO_yes h0 h)
    have HNO := hideB2 (fun h => oneO_no1 (ws := ws) h)
    have HS1 := hideB2 (fun h => sameW_yes (ws := ws) h)
    have HS0 := hideB2 (fun k hk h => sameW_no (ws := ws) (k := k) hk h)
    have HD := hideB2 (fun W => ReadDec_any (tAt ws 0) W (hz 0))
    clear hc hr hz
    generalize oneN ws = N at *
    generalize oneO ws = O at *
    generalize hx : tAt ws 0 = x at *
    have HX := hideB2 hx
    clear hx
    generalize hm : ws.length = m at *
    clear hm
    go_enter Try.func18, Try.ntmps18
    go_wp2
    go_loop [11] (fun i => ∃ k : Nat, k ≤ m ∧ i = .int .i64 k ∧ ∀ j, j < k → tAt ws j = x) (fun i => m - (intOf i).toNat)
    case atStart => exact ⟨0, Nat.zero_le _, rfl, fun j hj => absurd hj (by omega)⟩
    case round =>
      obtain ⟨k, hk, rfl, hall⟩ := hrel
      have HALL := hideB2 hall
      clear hall
      by_cases hlt : k < m
      · have pk := HC.out k hlt
        by_cases he : tAt ws k = x
        · have hbe : (x.toList != x.toList) = false := by simp
          have HE := hideB2 he
          rw [he] at pk
          clear he
          go_wp2
          go_round
          case rel => exact ⟨k + 1, by omega, by go_num, fun j hj => by
            by_cases e : j = k
            · subst e; exact HE.out
            · exact HALL.out j (by omega)⟩
          case measure => simp [intOf]; omega
        · have HF := hideB2 (HNO.out (HS0.out k hlt he))
          generalize tAt ws k = y at *
          have hbe : (y.toList == x.toList) = false := by
            rw [beq_eq_false_iff_ne]
            intro h
            apply he
            rw [ByteArray.toList_eq, ByteArray.toList_eq] at h
            exact bytes_ext h
          obtain ⟨e1, e2⟩ := HF.out
          clear he HF
          subst e1 e2
          go_wp2
          go_ret2
          exact ⟨rfl, rfl⟩
      · obtain rfl : k = m := by omega
        have HF := hideB2 (HY.out (HS1.out (fun j hj => HALL.out j hj)))
        go_wp2_with (go_at_call 31; refine (HD.out _).mono ?_; rintro e w' ⟨rfl, rfl⟩)
        go_ret2
        exact ⟨ret_ib HF.out.2 HF.out.1, rfl⟩
  · obtain ⟨e1, e2⟩ := oneO_no0 h0
    rw [e1, e2]
    clear e1 e2
    generalize hm : ws.length = m at *
    clear hm
    go_enter Try.func18, Try.ntmps18
    go_wp2
    go_ret2
    exact ⟨rfl, rfl⟩
set_option maxHeartbeats 4000000 in
theorem Framing_any (v : Value) (l : List Fd) (answer bare : Bool) (w : World) (hv : SlF w v l) (hl : l.length ≤ 1048576) (ht : totF l ≤ 1099511627776) :
    Calls Try.prog 7 #[v, .bool answer, .bool bare] w fun e w' => e = .returned (.tuple #[.int .i64 (frK l answer bare), .int .i64 (frN l answer bare)]) ∧ Below w.heap.size w w' := by
  have HF := hideB2 (fun W h => FieldsOk_any v l W h hl ht)
  have HG1 := hideB2 (fun W h => Get_any v l teN W h hl ht (by decide))
  have HG2 := hideB2 (fun W h => Get_any v l clN W h hl ht (by decide))
  have HW1 := hideB2 (fun W h => Words_any v l teN W h hl ht (by decide))
  have HW2 := hideB2 (fun W h => Words_any v l clN W h hl ht (by decide))
  have HV := hideB2 hv
  obtain ⟨a, c0, rfl⟩ := hv.form
  clear hv
  generalize l.length = m at *
  cases hq : fieldsQ l
  · obtain ⟨e1, e2⟩ := frK_no (answer := answer) (bare := bare) hq
    rw [e1, e2]
    have H1 := hideB2 hq
    clear hq e1 e2
    go_enter Try.func7, Try.ntmps7
    go_wp2_with (go_at_call 16; refine (HF.out _ HV.out).mono ?_; rintro e w1 ⟨rfl, hb1⟩; rw [H1.out])
    go_ret2
    exact ⟨rfl, hb1⟩
  · obtain ⟨e1, e2⟩ := frK_yes (answer := answer) (bare := bare) hq
    rw [e1, e2]
    have H1 := hideB2 hq
    clear hq e1 e2
    have WL1 := words_len l teN
    have WL2 := words_len l clN
    have WS1 := hideB2 (words_size l teN)
    have WS2 := hideB2 (words_size l clN)
    change Hid (∀ W, SlF W _ l → Calls _ _ _ W fun e w' => ∃ v', e = .returned v' ∧ BufS W w' v' (wordsL l teN)) at HW1
    change Hid (∀ W, SlF W _ l → Calls _ _ _ W fun e w' => ∃ v', e = .returned v' ∧ BufS W w' v' (wordsL l clN)) at HW2
    change Hid (∀ W, SlF W _ l → Calls _ _ _ W fun e w' => e = .returned (.tuple #[.string (getB l teN), .bool (teQ l)]) ∧ Below W.heap.size W w') at HG1
    change Hid (∀ W, SlF W _ l → Calls _ _ _ W fun e w' => e = .returned (.tuple #[.string (getB l clN), .bool (clQ l)]) ∧ Below W.heap.size W w') at HG2
    generalize wordsL l teN = ws1 at *
    generalize wordsL l clN = ws2 at *
    generalize teQ l = te at *
    generalize clQ l = cl at *
    generalize getB l teN = gb1 at *
    generalize getB l clN = gb2 at *
    have HO := hideB2 (fun a c W h => onlyLength_any a c ws2 W h WL2 WS2.out)
    have HC := hideB2 (fun a c W h => onlyChunked_any a c ws1 W h WL1 (WS1.out 0))
    generalize oneO ws2 = O at *
    generalize oneN ws2 = N at *
    generalize hCQ : chkQ ws1 = C at *
    go_enter Try.func7, Try.ntmps7
    go_wp2_with fail
    refine (HF.out _ HV.out).mono ?_
    rintro e w1 ⟨rfl, hb1⟩
    rw [H1.out]
    go_wp2_with fail
    refine (HG1.out _ (HV.out.later hb1)).mono ?_
    rintro e w2 ⟨rfl, hb2⟩
    have HB2 := hideB2 (below_then hb1 hb2)
    clear hb1 hb2
    go_wp2_with fail
    refine (HG2.out _ (HV.out.later HB2.out)).mono ?_
    rintro e w3 ⟨rfl, hb3⟩
    have HB3 := hideB2 (below_then HB2.out hb3)
    clear hb3 HB2
    go_wp2_with fail
    refine (HW2.out _ (HV.out.later HB3.out)).mono ?_
    rintro e w4 ⟨v4, rfl, hb4⟩
    obtain ⟨a4, c4, rfl, hr4⟩ := hb4.rows
    have HB4 := hideB2 (below_then HB3.out hb4.below)
    have HR4 := hideB2 hr4
    clear hb4 hr4 HB3
    generalize hm2 : ws2.length = m2 at *
    clear hm2
    go_wp2_with fail
    refine (HO.out _ _ _ HR4.out).mono ?_
    rintro e w5 ⟨rfl, rfl⟩
    clear HO HR4 HG1 HG2 HW2 HF
    cases te
    · cases cl <;> cases O <;> cases bare <;> cases answer
      all_goals
        go_wp2
        go_ret2
        exact ⟨rfl, HB4.out⟩
    · cases cl
      · go_wp2_with fail
        refine (HW1.out _ (HV.out.later HB4.out)).mono ?_
        rintro e w6 ⟨v6, rfl, hb6⟩
        obtain ⟨a6, c6, rfl, hr6⟩ := hb6.rows
        have HB6 := hideB2 (below_then HB4.out hb6.below)
        have HR6 := hideB2 hr6
        clear hb6 hr6 HB4
        generalize hm1 : ws1.length = m1 at *
        clear hm1
        go_wp2_with fail
        refine (HC.out _ _ _ HR6.out).mono ?_
        rintro e w7 ⟨rfl, hb7⟩
        have HB7 := hideB2 (below_then HB6.out hb7)
        clear hb7 HB6 HR6 HC
        cases C <;> cases bare
        all_goals
          go_wp2
          go_ret2
          exact ⟨rfl, HB7.out⟩
      · go_wp2
        go_ret2
        exact ⟨rfl, HB4.out⟩
end Go.Proofs.Ytaelopjalfapgab
