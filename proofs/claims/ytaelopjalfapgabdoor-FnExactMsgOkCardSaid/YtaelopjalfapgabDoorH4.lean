/-
  Chapter 6: of what kind a message is, its head and its bytes; the specification's side.
-/
import Derived.Test.YtaelopjalfapgabDoorH3
import Derived.Test.YtaelopjalfapgabDoorMF
namespace Go.Proofs.YtaelopjalfapgabDoor
set_option linter.unusedVariables false
set_option linter.unusedSimpArgs false
open Go.RowKit
set_option maxHeartbeats 400000 in
theorem l6bare_any (n : Int) (w : World) :
    Calls Tryd.prog 46 #[.int .i64 n] w fun e w' => e = .returned (.bool (bareSt n)) ∧ w' = w := by
  cases h : (n == 204)
  · rw [show bareSt n = (n == 304) by simp [bareSt, h]]
    go_enter Tryd.func46, Tryd.ntmps46
    go_wp2
    go_ret
    exact ⟨rfl, rfl⟩
  · rw [show bareSt n = true by simp [bareSt, h]]
    go_enter Tryd.func46, Tryd.ntmps46
    go_wp2
    go_ret
    exact ⟨rfl, rfl⟩
set_option maxHeartbeats 2000000 in
theorem l6framed_any (v : Value) (l : List Fd) (w : World) (hv : SlF w v l) (hl : l.length ≤ 20) (hn : ∀ j, j < l.length → (fdAt l j).1.size ≤ 40) :
    Calls Tryd.prog 22 #[v] w fun e w' => e = .returned (.bool (frmL l)) ∧ Below w.heap.size w w' := by
  obtain ⟨a, c0, rfl⟩ := hv.form
  have HV := hideB2 hv
  have HNM := hideB2 hn
  have HY := hideB2 (fun k (hk : k < l.length) h => frmL_yes (l := l) hk h)
  have HO := hideB2 (fun h => frmL_no (l := l) h)
  clear hv hn
  generalize frmL l = R at *
  generalize hm : l.length = m at *
  have HM := hideB2 hm
  clear hm
  go_enter Tryd.func22, Tryd.ntmps22
  go_wp2
  go_loopw [3] (fun i wr => ∃ k : Nat, k ≤ m ∧ i = .int .i64 k ∧ (∀ j, j < k → frmN (fdAt l j).1 = false) ∧ Below w.heap.size w wr) (fun i _ => m - (intOf i).toNat)
  case atStart => exact ⟨0, Nat.zero_le _, rfl, fun j hj => absurd hj (by omega), Below.refl _ _⟩
  case round =>
    obtain ⟨k, hk, rfl, hall, hb⟩ := hrel
    by_cases hlt : k < m
    · have hklt : k < l.length := by rw [HM.out]; exact hlt
      obtain ⟨b, rfl, hr⟩ := HV.out.row (by omega)
      have p0 := (hr.keep hb).dat k hklt
      have hsz := HNM.out k hlt
      have HYK := hideB2 (HY.out k hlt)
      have HALL := hideB2 hall
      have HBW := hideB2 hb
      clear hr hall hb HY
      generalize hx : fdAt l k = x at *
      have HX := hideB2 hx
      clear hx
      obtain ⟨d, s⟩ := x
      simp only at p0 hsz HYK
      have hd : d.size ≤ maxLen := by unfold maxLen; omega
      have HFold := hideB2 (fun W => sFold_any d W hd)
      clear hsz hd hklt
      have HFE := hideB2 (frmN_eq d)
      generalize foldB d = F at *
      generalize hFN : frmN d = fnd at *
      have HFN := hideB2 hFN
      clear hFN
      cases h1 : (F.toList == [99, 111, 110, 116, 101, 110, 116, 45, 108, 101, 110, 103, 116, 104])
      · cases h2 : (F.toList == [116, 114, 97, 110, 115, 102, 101, 114, 45, 101, 110, 99, 111, 100, 105, 110, 103])
        · cases h3 : (F.toList == [116, 114, 97, 105, 108, 101, 114])
          · rw [h1, h2, h3] at HFE
            go_wp2_with (first | (go_at_call 42; refine (HFold.out _).mono ?_; rintro e w3 ⟨rfl, hb3⟩))
            refine ⟨⟨k + 1, by omega, by go_num, fun j hj => ?_, below_then HBW.out hb3⟩, by simp [intOf]; omega⟩
            by_cases e : j = k
            · subst e; rw [HX.out]; exact HFN.out.trans HFE.out
            · exact HALL.out j (by omega)
          · rw [h1, h2, h3] at HFE
            have HR := hideB2 (HYK.out HFE.out)
            go_wp2_with (first | (go_at_call 42; refine (HFold.out _).mono ?_; rintro e w3 ⟨rfl, hb3⟩))
            go_ret
            exact ⟨ret_bool HR.out, below_then HBW.out hb3⟩
        · rw [h1, h2] at HFE
          have HR := hideB2 (HYK.out HFE.out)
          go_wp2_with (first | (go_at_call 42; refine (HFold.out _).mono ?_; rintro e w3 ⟨rfl, hb3⟩))
          go_ret
          exact ⟨ret_bool HR.out, below_then HBW.out hb3⟩
      · rw [h1] at HFE
        have HR := hideB2 (HYK.out HFE.out)
        go_wp2_with (first | (go_at_call 42; refine (HFold.out _).mono ?_; rintro e w3 ⟨rfl, hb3⟩))
        go_ret
        exact ⟨ret_bool HR.out, below_then HBW.out hb3⟩
    · obtain rfl : k = m := by omega
      have HR := hideB2 (HO.out (fun j hj => hall j hj))
      clear hall
      go_wp2
      go_ret
      exact ⟨ret_bool HR.out, hb⟩
theorem vis_int (n : Int) : visP n = (!decide (n < 33) && !decide (126 < n)) := by
  unfold visP
  by_cases h1 : n < 33 <;> by_cases h2 : 126 < n <;> simp [h1, h2] <;> omega
set_option maxHeartbeats 1000000 in
theorem l6visible_any (s : ByteArray) (w : World) (hs : s.size ≤ maxLen) :
    Calls Tryd.prog 44 #[.string s] w fun e w' => e = .returned (.bool (decide (0 < (s.size : Int)) && allB vis8 s)) ∧ w' = w := by
  unfold maxLen at hs
  generalize hR : (decide (0 < (s.size : Int)) && allB vis8 s) = R
  have HR := hideB2 hR
  clear hR
  go_enter Tryd.func44, Tryd.ntmps44
  go_wp2
  go_loop [3] (fun i => ∃ k : Nat, k ≤ s.size ∧ i = .int .i64 k ∧ ∀ j, j < k → vis8 (at8 s j) = true) (fun i => s.size - (intOf i).toNat)
  case atStart => exact ⟨0, Nat.zero_le _, rfl, fun j hj => by omega⟩
  case round =>
    obtain ⟨k, hk, rfl, hall⟩ := hrel
    have Hall : Hid (∀ j, j < k → vis8 (at8 s j) = true) := hall
    clear hall
    by_cases hlt : k < s.size
    · have hat : (s[k].toNat : Int) = ((at8 s k).toNat : Int) := by rw [at8_eq s k hlt]
      by_cases h33 : (s[k].toNat : Int) < 33
      · have hfin : Hid (R = false) := by
          show R = false
          rw [← HR.out, allB_no hlt (by unfold vis8; rw [← hat, vis_int]; simp [h33]), Bool.and_false]
        clear hat
        go_wp2
        go_ret
        exact ⟨ret_bool hfin.out, rfl⟩
      · by_cases h126 : (126 : Int) < (s[k].toNat : Int)
        · have hfin : Hid (R = false) := by
            show R = false
            rw [← HR.out, allB_no hlt (by unfold vis8; rw [← hat, vis_int]; simp [h126]), Bool.and_false]
          clear hat
          have d33 : decide ((s[k].toNat : Int) < 33) = false := decide_eq_false h33
          go_wp2
          go_ret
          exact ⟨ret_bool hfin.out, rfl⟩
        · have Hg : Hid (vis8 (at8 s k) = true) := by
            show vis8 _ = true
            unfold vis8; rw [← hat, vis_int]; simp [h33, h126]
          clear hat
          have d33 : decide ((s[k].toNat : Int) < 33) = false := decide_eq_false h33
          have d126 : decide ((126 : Int) < (s[k].toNat : Int)) = false := decide_eq_false h126
          go_wp2
          go_round
          case rel => exact ⟨k + 1, by omega, by go_num, all_succ Hall.out Hg.out⟩
          case measure => simp [intOf]; omega
    · have hfin : Hid (R = decide (0 < s.size)) := by
        show R = _
        rw [← HR.out, allB_yes (fun j hj => Hall.out j (by omega)), Bool.and_true]
        apply decide_eq_decide.2
        omega
      go_wp2
      go_ret
      exact ⟨ret_bool hfin.out, rfl⟩

theorem reqQ_spec (m : Mg) : reqQ m = (decide ((m.me.size : Int) ≤ 20) && tokB m.me && decide ((m.ta.size : Int) ≤ 200) && (decide (0 < (m.ta.size : Int)) && allB vis8 m.ta) && (m.st == 0) && eqB m.re ⟨#[]⟩ && !m.ba) := by
  unfold reqQ methQ targQ
  rw [show decide (0 < (m.ta.size : Int)) = decide (1 ≤ (m.ta.size : Int)) from rfl]
  cases tokB m.me <;> cases decide ((m.me.size : Int) ≤ 20) <;> cases decide (1 ≤ (m.ta.size : Int)) <;> cases decide ((m.ta.size : Int) ≤ 200) <;> rfl
set_option maxHeartbeats 4000000 in
theorem l6request_any (me ta re bo : ByteArray) (st : Int) (ba : Bool) (fa : Option Addr) (fn fc : Nat) (fs : List Fd) (w : World) (hme : me.size ≤ maxLen) (hta : ta.size ≤ maxLen) :
    Calls Tryd.prog 23 #[.agg #[.string me, .string ta, .int .i64 st, .string re, .bool ba, .slice fa fn fc, .string bo]] w fun e w' => e = .returned (.bool (reqQ ⟨me, ta, st, re, ba, fs, bo⟩)) ∧ Below w.heap.size w w' := by
  have HB := hideB2 (below_a1 w (.cells #[.string me, .string ta, .int .i64 st, .string re, .bool ba, .slice fa fn fc, .string bo] 29))
  have hme' := hme
  have hta' := hta
  unfold maxLen at hme' hta'
  cases h1 : decide ((me.size : Int) ≤ 20)
  · skip
    rw [show reqQ ⟨me, ta, st, re, ba, fs, bo⟩ = false by rw [reqQ_spec]; simp only [h1, Bool.false_and]]
    go_enter Tryd.func23, Tryd.ntmps23
    go_wp2_with (first | (go_at_call 43; refine (sToken_any _ _ hme).mono ?_; rintro e w' ⟨rfl, rfl⟩; rw [h2]) | (go_at_call 44; refine (l6visible_any _ _ hta).mono ?_; rintro e w' ⟨rfl, rfl⟩; rw [h4]))
    go_ret
    exact ⟨rfl, HB.out⟩
  · cases h2 : tokB me
    · skip
      rw [show reqQ ⟨me, ta, st, re, ba, fs, bo⟩ = false by rw [reqQ_spec]; simp only [h2, Bool.false_and, Bool.and_false]]
      go_enter Tryd.func23, Tryd.ntmps23
      go_wp2_with (first | (go_at_call 43; refine (sToken_any _ _ hme).mono ?_; rintro e w' ⟨rfl, rfl⟩; rw [h2]) | (go_at_call 44; refine (l6visible_any _ _ hta).mono ?_; rintro e w' ⟨rfl, rfl⟩; rw [h4]))
      go_ret
      exact ⟨rfl, HB.out⟩
    · cases h3 : decide ((ta.size : Int) ≤ 200)
      · skip
        rw [show reqQ ⟨me, ta, st, re, ba, fs, bo⟩ = false by rw [reqQ_spec]; simp only [h3, Bool.false_and, Bool.and_false]]
        go_enter Tryd.func23, Tryd.ntmps23
        go_wp2_with (first | (go_at_call 43; refine (sToken_any _ _ hme).mono ?_; rintro e w' ⟨rfl, rfl⟩; rw [h2]) | (go_at_call 44; refine (l6visible_any _ _ hta).mono ?_; rintro e w' ⟨rfl, rfl⟩; rw [h4]))
        go_ret
        exact ⟨rfl, HB.out⟩
      · cases h4 : (decide (0 < (ta.size : Int)) && allB vis8 ta)
        · skip
          rw [show reqQ ⟨me, ta, st, re, ba, fs, bo⟩ = false by rw [reqQ_spec]; simp only [h4, Bool.false_and, Bool.and_false]]
          go_enter Tryd.func23, Tryd.ntmps23
          go_wp2_with (first | (go_at_call 43; refine (sToken_any _ _ hme).mono ?_; rintro e w' ⟨rfl, rfl⟩; rw [h2]) | (go_at_call 44; refine (l6visible_any _ _ hta).mono ?_; rintro e w' ⟨rfl, rfl⟩; rw [h4]))
          go_ret
          exact ⟨rfl, HB.out⟩
        · cases h5 : (st == 0)
          · skip
            rw [show reqQ ⟨me, ta, st, re, ba, fs, bo⟩ = false by rw [reqQ_spec]; simp only [h5, Bool.false_and, Bool.and_false]]
            go_enter Tryd.func23, Tryd.ntmps23
            go_wp2_with (first | (go_at_call 43; refine (sToken_any _ _ hme).mono ?_; rintro e w' ⟨rfl, rfl⟩; rw [h2]) | (go_at_call 44; refine (l6visible_any _ _ hta).mono ?_; rintro e w' ⟨rfl, rfl⟩; rw [h4]))
            go_ret
            exact ⟨rfl, HB.out⟩
          · cases h6 : eqB re ⟨#[]⟩
            · skip
              rw [show reqQ ⟨me, ta, st, re, ba, fs, bo⟩ = false by rw [reqQ_spec]; simp only [h6, Bool.false_and, Bool.and_false]]
              rw [eqB_nil] at h6
              go_enter Tryd.func23, Tryd.ntmps23
              go_wp2_with (first | (go_at_call 43; refine (sToken_any _ _ hme).mono ?_; rintro e w' ⟨rfl, rfl⟩; rw [h2]) | (go_at_call 44; refine (l6visible_any _ _ hta).mono ?_; rintro e w' ⟨rfl, rfl⟩; rw [h4]))
              go_ret
              exact ⟨rfl, HB.out⟩
            · skip
              rw [show reqQ ⟨me, ta, st, re, ba, fs, bo⟩ = !ba by rw [reqQ_spec]; simp only [h1, h2, h3, h4, h5, h6, Bool.true_and]]
              rw [eqB_nil] at h6
              go_enter Tryd.func23, Tryd.ntmps23
              go_wp2_with (first | (go_at_call 43; refine (sToken_any _ _ hme).mono ?_; rintro e w' ⟨rfl, rfl⟩; rw [h2]) | (go_at_call 44; refine (l6visible_any _ _ hta).mono ?_; rintro e w' ⟨rfl, rfl⟩; rw [h4]))
              go_ret
              exact ⟨rfl, HB.out⟩
theorem ansQ_spec (m : Mg) : ansQ m = (eqB m.ta ⟨#[]⟩ && decide (200 ≤ m.st) && decide (m.st ≤ 599) && decide ((m.re.size : Int) ≤ 40) && plnB m.re) := by
  unfold ansQ stQ
  cases eqB m.ta ⟨#[]⟩ <;> cases decide (200 ≤ m.st) <;> cases decide (m.st ≤ 599) <;> rfl
set_option maxHeartbeats 4000000 in
theorem l6answer_any (me ta re bo : ByteArray) (st : Int) (ba : Bool) (fa : Option Addr) (fn fc : Nat) (fs : List Fd) (w : World) (hre : re.size ≤ maxLen) :
    Calls Tryd.prog 24 #[.agg #[.string me, .string ta, .int .i64 st, .string re, .bool ba, .slice fa fn fc, .string bo]] w fun e w' => e = .returned (.bool (ansQ ⟨me, ta, st, re, ba, fs, bo⟩ && bareQ ⟨me, ta, st, re, ba, fs, bo⟩)) ∧ Below w.heap.size w w' := by
  have HB := hideB2 (below_a1 w (.cells #[.string me, .string ta, .int .i64 st, .string re, .bool ba, .slice fa fn fc, .string bo] 29))
  have hre' := hre
  unfold maxLen at hre'
  cases h1 : eqB ta ⟨#[]⟩
  · skip
    rw [show (ansQ ⟨me, ta, st, re, ba, fs, bo⟩ && bareQ ⟨me, ta, st, re, ba, fs, bo⟩) = false by rw [ansQ_spec]; simp only [h1, Bool.false_and, Bool.and_false]]
    rw [eqB_nil] at h1
    go_enter Tryd.func24, Tryd.ntmps24
    go_wp2_with (first | (go_at_call 45; refine (l5plain_any _ _ hre).mono ?_; rintro e w' ⟨rfl, rfl⟩; rw [h5]) | (go_at_call 46; refine (l6bare_any _ _).mono ?_; rintro e w' ⟨rfl, rfl⟩))
    go_ret
    exact ⟨rfl, HB.out⟩
  · by_cases g2 : st < 200
    · have h2 : decide (200 ≤ st) = false := decide_eq_false (by omega)
      rw [show (ansQ ⟨me, ta, st, re, ba, fs, bo⟩ && bareQ ⟨me, ta, st, re, ba, fs, bo⟩) = false by rw [ansQ_spec]; simp only [h2, Bool.false_and, Bool.and_false]]
      clear h2
      rw [eqB_nil] at h1
      go_enter Tryd.func24, Tryd.ntmps24
      go_wp2_with (first | (go_at_call 45; refine (l5plain_any _ _ hre).mono ?_; rintro e w' ⟨rfl, rfl⟩; rw [h5]) | (go_at_call 46; refine (l6bare_any _ _).mono ?_; rintro e w' ⟨rfl, rfl⟩))
      go_ret
      exact ⟨rfl, HB.out⟩
    · by_cases g3 : 599 < st
      · have h3 : decide (st ≤ 599) = false := decide_eq_false (by omega)
        rw [show (ansQ ⟨me, ta, st, re, ba, fs, bo⟩ && bareQ ⟨me, ta, st, re, ba, fs, bo⟩) = false by rw [ansQ_spec]; simp only [h3, Bool.false_and, Bool.and_false]]
        clear h3
        have d2 : decide (st < 200) = false := decide_eq_false g2
        rw [eqB_nil] at h1
        go_enter Tryd.func24, Tryd.ntmps24
        go_wp2_with (first | (go_at_call 45; refine (l5plain_any _ _ hre).mono ?_; rintro e w' ⟨rfl, rfl⟩; rw [h5]) | (go_at_call 46; refine (l6bare_any _ _).mono ?_; rintro e w' ⟨rfl, rfl⟩))
        go_ret
        exact ⟨rfl, HB.out⟩
      · by_cases g4 : (40 : Int) < (re.size : Int)
        · have h4 : decide ((re.size : Int) ≤ 40) = false := decide_eq_false (by omega)
          rw [show (ansQ ⟨me, ta, st, re, ba, fs, bo⟩ && bareQ ⟨me, ta, st, re, ba, fs, bo⟩) = false by rw [ansQ_spec]; simp only [h4, Bool.false_and, Bool.and_false]]
          clear h4
          have d2 : decide (st < 200) = false := decide_eq_false g2
          have d3 : decide (599 < st) = false := decide_eq_false g3
          rw [eqB_nil] at h1
          go_enter Tryd.func24, Tryd.ntmps24
          go_wp2_with (first | (go_at_call 45; refine (l5plain_any _ _ hre).mono ?_; rintro e w' ⟨rfl, rfl⟩; rw [h5]) | (go_at_call 46; refine (l6bare_any _ _).mono ?_; rintro e w' ⟨rfl, rfl⟩))
          go_ret
          exact ⟨rfl, HB.out⟩
        · cases h5 : plnB re
          · skip
            rw [show (ansQ ⟨me, ta, st, re, ba, fs, bo⟩ && bareQ ⟨me, ta, st, re, ba, fs, bo⟩) = false by rw [ansQ_spec]; simp only [h5, Bool.false_and, Bool.and_false]]
            have d2 : decide (st < 200) = false := decide_eq_false g2
            have d3 : decide (599 < st) = false := decide_eq_false g3
            have d4 : decide ((40 : Int) < (re.size : Int)) = false := decide_eq_false g4
            rw [eqB_nil] at h1
            go_enter Tryd.func24, Tryd.ntmps24
            go_wp2_with (first | (go_at_call 45; refine (l5plain_any _ _ hre).mono ?_; rintro e w' ⟨rfl, rfl⟩; rw [h5]) | (go_at_call 46; refine (l6bare_any _ _).mono ?_; rintro e w' ⟨rfl, rfl⟩))
            go_ret
            exact ⟨rfl, HB.out⟩
          · have hA : ansQ ⟨me, ta, st, re, ba, fs, bo⟩ = true := by rw [ansQ_spec]; simp only [h1, h5]; simp; omega
            cases ba
            · rw [hA, show bareQ ⟨me, ta, st, re, false, fs, bo⟩ = !bareSt st from rfl, Bool.true_and]
              clear hA
              have d2 : decide (st < 200) = false := decide_eq_false g2
              have d3 : decide (599 < st) = false := decide_eq_false g3
              have d4 : decide ((40 : Int) < (re.size : Int)) = false := decide_eq_false g4
              rw [eqB_nil] at h1
              go_enter Tryd.func24, Tryd.ntmps24
              go_wp2_with (first | (go_at_call 45; refine (l5plain_any _ _ hre).mono ?_; rintro e w' ⟨rfl, rfl⟩; rw [h5]) | (go_at_call 46; refine (l6bare_any _ _).mono ?_; rintro e w' ⟨rfl, rfl⟩))
              go_ret
              exact ⟨rfl, HB.out⟩
            · rw [hA, show bareQ ⟨me, ta, st, re, true, fs, bo⟩ = eqB bo ⟨#[]⟩ from rfl, Bool.true_and]
              clear hA
              have d2 : decide (st < 200) = false := decide_eq_false g2
              have d3 : decide (599 < st) = false := decide_eq_false g3
              have d4 : decide ((40 : Int) < (re.size : Int)) = false := decide_eq_false g4
              rw [eqB_nil] at h1
              cases h6 : eqB bo ⟨#[]⟩
              · rw [eqB_nil] at h6
                go_enter Tryd.func24, Tryd.ntmps24
                go_wp2_with (first | (go_at_call 45; refine (l5plain_any _ _ hre).mono ?_; rintro e w' ⟨rfl, rfl⟩; rw [h5]) | (go_at_call 46; refine (l6bare_any _ _).mono ?_; rintro e w' ⟨rfl, rfl⟩))
                go_ret
                exact ⟨rfl, HB.out⟩
              · rw [eqB_nil] at h6
                go_enter Tryd.func24, Tryd.ntmps24
                go_wp2_with (first | (go_at_call 45; refine (l5plain_any _ _ hre).mono ?_; rintro e w' ⟨rfl, rfl⟩; rw [h5]) | (go_at_call 46; refine (l6bare_any _ _).mono ?_; rintro e w' ⟨rfl, rfl⟩))
                go_ret
                exact ⟨rfl, HB.out⟩
end Go.Proofs.YtaelopjalfapgabDoor
