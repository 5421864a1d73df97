/-
  Chapter 6: of what kind a message is; the program's side.
-/
import Derived.Test.YtaelopjalfapgabDoorMM
import Derived.Test.YtaelopjalfapgabDoorF6
namespace Go.Proofs.YtaelopjalfapgabDoor
set_option linter.unusedVariables false
set_option linter.unusedSimpArgs false
open Go.RowKit
theorem Blk.c7 {w : World} {g : Nat} {a b c d e f h : Value} {t : TypeId} (H : Blk w g #[a, b, c, d, e, f, h] t) : w.cell? ⟨g, 0, none⟩ = some a ∧ w.cell? ⟨g, 1, none⟩ = some b ∧ w.cell? ⟨g, 2, none⟩ = some c ∧ w.cell? ⟨g, 3, none⟩ = some d ∧ w.cell? ⟨g, 4, none⟩ = some e ∧ w.cell? ⟨g, 5, none⟩ = some f ∧ w.cell? ⟨g, 6, none⟩ = some h :=
  ⟨H.cell 0, H.cell 1, H.cell 2, H.cell 3, H.cell 4, H.cell 5, H.cell 6⟩
theorem within_st (n : Int) : withinB n 200 599 = stQ n := rfl
set_option maxHeartbeats 400000 in
theorem statusOk_any (n : Int) (w : World) :
    Calls Tryd.prog 76 #[.int .i64 n] w fun e w' => e = .returned (.bool (stQ n)) ∧ w' = w := by
  go_enter Tryd.func76, Tryd.ntmps76
  go_wp2_with (go_at_call 90; refine (within_any _ _ _ _).mono ?_; rintro e w' ⟨rfl, rfl⟩)
  go_ret
  exact ⟨rfl, rfl⟩
set_option maxHeartbeats 400000 in
theorem bareStatus_any (n : Int) (w : World) :
    Calls Tryd.prog 78 #[.int .i64 n] w fun e w' => e = .returned (.bool (bareSt n)) ∧ w' = w := by
  cases h : (n == 204)
  · rw [show bareSt n = (n == 304) by simp [bareSt, h]]
    go_enter Tryd.func78, Tryd.ntmps78
    go_wp2
    go_ret
    exact ⟨rfl, rfl⟩
  · rw [show bareSt n = true by simp [bareSt, h]]
    go_enter Tryd.func78, Tryd.ntmps78
    go_wp2
    go_ret
    exact ⟨rfl, rfl⟩
theorem targQ_no1 {s : ByteArray} (h : withinB (s.size : Int) 1 200 = false) : targQ s = false := by
  unfold targQ; rw [show (decide (1 ≤ (s.size : Int)) && decide ((s.size : Int) ≤ 200)) = false from h]; rfl
theorem targQ_no2 {s : ByteArray} (h : allB vis8 s = false) : targQ s = false := by unfold targQ; rw [h]; simp
theorem targQ_yes {s : ByteArray} (h1 : withinB (s.size : Int) 1 200 = true) (h : allB vis8 s = true) : targQ s = true := by
  unfold targQ; rw [show (decide (1 ≤ (s.size : Int)) && decide ((s.size : Int) ≤ 200)) = true from h1, h]; rfl
set_option maxHeartbeats 1000000 in
theorem targetOk_any (s : ByteArray) (w : World) (hs : s.size ≤ maxLen) :
    Calls Tryd.prog 75 #[.string s] w fun e w' => e = .returned (.bool (targQ s)) ∧ w' = w := by
  unfold maxLen at hs
  cases h1 : withinB (s.size : Int) 1 200
  · have hf := hideB2 (targQ_no1 h1)
    go_enter Tryd.func75, Tryd.ntmps75
    go_wp2_with (go_at_call 90; refine (within_any _ _ _ _).mono ?_; rintro e w' ⟨rfl, rfl⟩; rw [h1])
    go_ret
    exact ⟨ret_bool hf.out, rfl⟩
  · have H1 := hideB2 h1
    clear h1
    go_enter Tryd.func75, Tryd.ntmps75
    go_wp2_with (go_at_call 90; refine (within_any _ _ _ _).mono ?_; rintro e w' ⟨rfl, rfl⟩; rw [H1.out])
    go_loop [10] (fun i => ∃ k : Nat, k ≤ s.size ∧ i = .int .i64 k ∧ ∀ j, j < k → vis8 (at8 s j) = true) (fun i => s.size - (intOf i).toNat)
    case atStart => exact ⟨0, Nat.zero_le _, rfl, fun j hj => by omega⟩
    case round =>
      obtain ⟨k, hk, rfl, hall⟩ := hrel
      have Hall : Hid (∀ j, j < k → vis8 (at8 s j) = true) := hall
      clear hall
      by_cases hlt : k < s.size
      · have e64 : wrap64 (s[k].toNat : Int) = (s[k].toNat : Int) := by
          have h1 := u8_hi s[k]
          have h2 := u8_lo s[k]
          unfold wrap64
          omega
        cases hg0 : vis8 (at8 s k)
        · have hg := hideB2 (show withinB (s[k].toNat : Int) 33 126 = false by rw [at8_eq s k hlt]; exact hg0)
          have hfin : Hid (targQ s = false) := targQ_no2 (allB_no hlt hg0)
          clear hg0
          go_wp2_with (go_at_call 90; refine (within_any _ _ _ _).mono ?_; rintro e w' ⟨rfl, rfl⟩; rw [e64, hg.out])
          go_ret
          exact ⟨ret_bool hfin.out, rfl⟩
        · have hg := hideB2 (show withinB (s[k].toNat : Int) 33 126 = true by rw [at8_eq s k hlt]; exact hg0)
          have Hg : Hid (vis8 (at8 s k) = true) := hg0
          clear hg0
          go_wp2_with (go_at_call 90; refine (within_any _ _ _ _).mono ?_; rintro e w' ⟨rfl, rfl⟩; rw [e64, hg.out])
          go_round
          case rel => exact ⟨k + 1, by omega, by go_num, all_succ Hall.out Hg.out⟩
          case measure => simp [intOf]; omega
      · have hfin : Hid (targQ s = true) := targQ_yes H1.out (allB_yes (fun j hj => Hall.out j (by omega)))
        go_wp2
        go_ret
        exact ⟨ret_bool hfin.out, rfl⟩
set_option maxHeartbeats 400000 in
theorem methodOk_any (s : ByteArray) (w : World) (hs : s.size ≤ maxLen) :
    Calls Tryd.prog 74 #[.string s] w fun e w' => e = .returned (.bool (methQ s)) ∧ w' = w := by
  have hs' := hs
  unfold maxLen at hs'
  cases h : tokB s
  · rw [show methQ s = false by unfold methQ; rw [h]; rfl]
    go_enter Tryd.func74, Tryd.ntmps74
    go_wp2_with (go_at_call 87; refine (Token_any _ _ hs).mono ?_; rintro e w' ⟨rfl, rfl⟩; rw [h])
    go_ret
    exact ⟨rfl, rfl⟩
  · rw [show methQ s = decide ((s.size : Int) ≤ 20) by unfold methQ; rw [h]; rfl]
    go_enter Tryd.func74, Tryd.ntmps74
    go_wp2_with (go_at_call 87; refine (Token_any _ _ hs).mono ?_; rintro e w' ⟨rfl, rfl⟩; rw [h])
    go_ret
    exact ⟨rfl, rfl⟩
theorem eqB_nil {s : ByteArray} : eqB s ⟨#[]⟩ = s.toList.isEmpty := by
  unfold eqB
  rw [ByteArray.toList_eq ⟨#[]⟩]
  cases s.toList <;> rfl
set_option maxHeartbeats 1000000 in
theorem requestOk_any (me ta re bo : ByteArray) (st : Int) (ba : Bool) (fa : Option Addr) (fn fc : Nat) (fs : List Fd) (w : World) (hme : me.size ≤ maxLen) (hta : ta.size ≤ maxLen) :
    Calls Tryd.prog 52 #[.agg #[.string me, .string ta, .int .i64 st, .string re, .bool ba, .slice fa fn fc, .string bo]] w fun e w' => e = .returned (.bool (reqQ ⟨me, ta, st, re, ba, fs, bo⟩)) ∧ Below w.heap.size w w' := by
  have HB := hideB2 (below_a1 w (.cells #[.string me, .string ta, .int .i64 st, .string re, .bool ba, .slice fa fn fc, .string bo] 29))
  cases h1 : methQ me
  · rw [show reqQ ⟨me, ta, st, re, ba, fs, bo⟩ = false by simp [reqQ, h1]]
    go_enter Tryd.func52, Tryd.ntmps52
    go_wp2_with (go_at_call 74; refine (methodOk_any _ _ hme).mono ?_; rintro e w' ⟨rfl, rfl⟩; rw [h1])
    go_ret
    exact ⟨rfl, HB.out⟩
  · cases h2 : targQ ta
    · rw [show reqQ ⟨me, ta, st, re, ba, fs, bo⟩ = false by simp [reqQ, h2]]
      go_enter Tryd.func52, Tryd.ntmps52
      go_wp2_with (first | (go_at_call 74; refine (methodOk_any _ _ hme).mono ?_; rintro e w' ⟨rfl, rfl⟩; rw [h1]) | (go_at_call 75; refine (targetOk_any _ _ hta).mono ?_; rintro e w' ⟨rfl, rfl⟩; rw [h2]))
      go_ret
      exact ⟨rfl, HB.out⟩
    · cases h3 : (st == 0)
      · rw [show reqQ ⟨me, ta, st, re, ba, fs, bo⟩ = false by simp [reqQ, h3]]
        go_enter Tryd.func52, Tryd.ntmps52
        go_wp2_with (first | (go_at_call 74; refine (methodOk_any _ _ hme).mono ?_; rintro e w' ⟨rfl, rfl⟩; rw [h1]) | (go_at_call 75; refine (targetOk_any _ _ hta).mono ?_; rintro e w' ⟨rfl, rfl⟩; rw [h2]))
        go_ret
        exact ⟨rfl, HB.out⟩
      · cases h4 : eqB re ⟨#[]⟩
        · rw [show reqQ ⟨me, ta, st, re, ba, fs, bo⟩ = false by simp [reqQ, h4]]
          rw [eqB_nil] at h4
          go_enter Tryd.func52, Tryd.ntmps52
          go_wp2_with (first | (go_at_call 74; refine (methodOk_any _ _ hme).mono ?_; rintro e w' ⟨rfl, rfl⟩; rw [h1]) | (go_at_call 75; refine (targetOk_any _ _ hta).mono ?_; rintro e w' ⟨rfl, rfl⟩; rw [h2]))
          go_ret
          exact ⟨rfl, HB.out⟩
        · rw [show reqQ ⟨me, ta, st, re, ba, fs, bo⟩ = !ba by simp only [reqQ, h1, h2, h3, h4, Bool.true_and]]
          rw [eqB_nil] at h4
          go_enter Tryd.func52, Tryd.ntmps52
          go_wp2_with (first | (go_at_call 74; refine (methodOk_any _ _ hme).mono ?_; rintro e w' ⟨rfl, rfl⟩; rw [h1]) | (go_at_call 75; refine (targetOk_any _ _ hta).mono ?_; rintro e w' ⟨rfl, rfl⟩; rw [h2]))
          go_ret
          exact ⟨rfl, HB.out⟩
set_option maxHeartbeats 1000000 in
theorem answerOk_any (me ta re bo : ByteArray) (st : Int) (ba : Bool) (fa : Option Addr) (fn fc : Nat) (fs : List Fd) (w : World) (hre : re.size ≤ maxLen) :
    Calls Tryd.prog 53 #[.agg #[.string me, .string ta, .int .i64 st, .string re, .bool ba, .slice fa fn fc, .string bo]] w fun e w' => e = .returned (.bool (ansQ ⟨me, ta, st, re, ba, fs, bo⟩)) ∧ Below w.heap.size w w' := by
  have HB := hideB2 (below_a1 w (.cells #[.string me, .string ta, .int .i64 st, .string re, .bool ba, .slice fa fn fc, .string bo] 29))
  have hre' := hre
  unfold maxLen at hre'
  cases h1 : eqB ta ⟨#[]⟩
  · rw [show ansQ ⟨me, ta, st, re, ba, fs, bo⟩ = false by simp [ansQ, h1]]
    rw [eqB_nil] at h1
    go_enter Tryd.func53, Tryd.ntmps53
    go_wp2
    go_ret
    exact ⟨rfl, HB.out⟩
  · cases h2 : stQ st
    · rw [show ansQ ⟨me, ta, st, re, ba, fs, bo⟩ = false by simp [ansQ, h2]]
      rw [eqB_nil] at h1
      go_enter Tryd.func53, Tryd.ntmps53
      go_wp2_with (go_at_call 76; refine (statusOk_any _ _).mono ?_; rintro e w' ⟨rfl, rfl⟩; rw [h2])
      go_ret
      exact ⟨rfl, HB.out⟩
    · by_cases h3 : (re.size : Int) ≤ 40
      · rw [show ansQ ⟨me, ta, st, re, ba, fs, bo⟩ = plnB re by simp [ansQ, h1, h2]; omega]
        rw [eqB_nil] at h1
        go_enter Tryd.func53, Tryd.ntmps53
        go_wp2_with (first | (go_at_call 76; refine (statusOk_any _ _).mono ?_; rintro e w' ⟨rfl, rfl⟩; rw [h2]) | (go_at_call 77; refine (plainText_any _ _ hre).mono ?_; rintro e w' ⟨rfl, rfl⟩))
        go_ret
        exact ⟨rfl, HB.out⟩
      · have h4 : decide ((re.size : Int) ≤ 40) = false := decide_eq_false h3
        rw [show ansQ ⟨me, ta, st, re, ba, fs, bo⟩ = false by simp only [ansQ, h4, Bool.and_false, Bool.false_and]]
        rw [eqB_nil] at h1
        go_enter Tryd.func53, Tryd.ntmps53
        go_wp2_with (first | (go_at_call 76; refine (statusOk_any _ _).mono ?_; rintro e w' ⟨rfl, rfl⟩; rw [h2]) | (go_at_call 77; refine (plainText_any _ _ hre).mono ?_; rintro e w' ⟨rfl, rfl⟩))
        go_ret
        exact ⟨rfl, HB.out⟩
set_option maxHeartbeats 400000 in
theorem barenessOk_any (me ta re bo : ByteArray) (st : Int) (ba : Bool) (fa : Option Addr) (fn fc : Nat) (fs : List Fd) (w : World) :
    Calls Tryd.prog 54 #[.agg #[.string me, .string ta, .int .i64 st, .string re, .bool ba, .slice fa fn fc, .string bo]] w fun e w' => e = .returned (.bool (bareQ ⟨me, ta, st, re, ba, fs, bo⟩)) ∧ Below w.heap.size w w' := by
  have HB := hideB2 (below_a1 w (.cells #[.string me, .string ta, .int .i64 st, .string re, .bool ba, .slice fa fn fc, .string bo] 29))
  cases ba
  · rw [show bareQ ⟨me, ta, st, re, false, fs, bo⟩ = !bareSt st from rfl]
    go_enter Tryd.func54, Tryd.ntmps54
    go_wp2_with (go_at_call 78; refine (bareStatus_any _ _).mono ?_; rintro e w' ⟨rfl, rfl⟩)
    go_ret
    exact ⟨rfl, HB.out⟩
  · rw [show bareQ ⟨me, ta, st, re, true, fs, bo⟩ = eqB bo ⟨#[]⟩ from rfl, eqB_nil]
    go_enter Tryd.func54, Tryd.ntmps54
    go_wp2
    go_ret
    exact ⟨rfl, HB.out⟩
set_option maxHeartbeats 1000000 in
theorem kindOk_any (me ta re bo : ByteArray) (st : Int) (ba : Bool) (fa : Option Addr) (fn fc : Nat) (fs : List Fd) (w : World) (hme : me.size ≤ maxLen) (hta : ta.size ≤ maxLen) (hre : re.size ≤ maxLen) :
    Calls Tryd.prog 28 #[.agg #[.string me, .string ta, .int .i64 st, .string re, .bool ba, .slice fa fn fc, .string bo]] w fun e w' => e = .returned (.bool (kindQ ⟨me, ta, st, re, ba, fs, bo⟩)) ∧ Below w.heap.size w w' := by
  have HB := hideB2 (below_a1 w (.cells #[.string me, .string ta, .int .i64 st, .string re, .bool ba, .slice fa fn fc, .string bo] 29))
  have A1 := hideB2 (Blk.new w #[.string me, .string ta, .int .i64 st, .string re, .bool ba, .slice fa fn fc, .string bo] 29)
  cases h1 : eqB me ⟨#[]⟩
  · have HQ := hideB2 (kindQ_req (m := ⟨me, ta, st, re, ba, fs, bo⟩) h1)
    rw [eqB_nil] at h1
    have HR := hideB2 (fun W => requestOk_any me ta re bo st ba fa fn fc fs W hme hta)
    generalize reqQ ⟨me, ta, st, re, ba, fs, bo⟩ = q at *
    go_enter Tryd.func28, Tryd.ntmps28
    go_wp2_with (go_at_call 52; refine (HR.out _).mono ?_; rintro e w' ⟨rfl, hb⟩)
    go_ret
    exact ⟨ret_bool HQ.out, below_then HB.out hb⟩
  · have HQ := hideB2 (kindQ_ans (m := ⟨me, ta, st, re, ba, fs, bo⟩) h1)
    rw [eqB_nil] at h1
    have HA := hideB2 (fun W => answerOk_any me ta re bo st ba fa fn fc fs W hre)
    have HE := hideB2 (fun W => barenessOk_any me ta re bo st ba fa fn fc fs W)
    generalize ansQ ⟨me, ta, st, re, ba, fs, bo⟩ = q at *
    generalize bareQ ⟨me, ta, st, re, ba, fs, bo⟩ = p at *
    cases q
    · go_enter Tryd.func28, Tryd.ntmps28
      go_wp2_with (go_at_call 53; refine (HA.out _).mono ?_; rintro e w' ⟨rfl, hb⟩)
      go_ret
      exact ⟨ret_bool HQ.out, below_then HB.out hb⟩
    · go_enter Tryd.func28, Tryd.ntmps28
      go_wp2_with (first | (go_at_call 53; refine (HA.out _).mono ?_; rintro e w' ⟨rfl, hb⟩; obtain ⟨p0, p1, p2, p3, p4, p5, p6⟩ := (A1.out.later hb).c7) | (go_at_call 54; refine (HE.out _).mono ?_; rintro e w2 ⟨rfl, hb2⟩))
      go_ret
      exact ⟨ret_bool HQ.out, below_then (below_then HB.out hb) hb2⟩
set_option maxHeartbeats 400000 in
theorem tellsLength_any (me ta re bo : ByteArray) (st : Int) (ba : Bool) (fa : Option Addr) (fn fc : Nat) (fs : List Fd) (w : World) :
    Calls Tryd.prog 57 #[.agg #[.string me, .string ta, .int .i64 st, .string re, .bool ba, .slice fa fn fc, .string bo]] w fun e w' => e = .returned (.bool (tellsQ ⟨me, ta, st, re, ba, fs, bo⟩)) ∧ Below w.heap.size w w' := by
  have HB := hideB2 (below_a1 w (.cells #[.string me, .string ta, .int .i64 st, .string re, .bool ba, .slice fa fn fc, .string bo] 29))
  cases h1 : eqB me ⟨#[]⟩
  · have HQ := hideB2 (show tellsQ ⟨me, ta, st, re, ba, fs, bo⟩ = !eqB bo ⟨#[]⟩ by unfold tellsQ; rw [h1]; rfl)
    rw [eqB_nil] at h1 HQ
    go_enter Tryd.func57, Tryd.ntmps57
    go_wp2
    go_ret
    exact ⟨ret_bool HQ.out, HB.out⟩
  · have HQ := hideB2 (show tellsQ ⟨me, ta, st, re, ba, fs, bo⟩ = !ba by unfold tellsQ; rw [if_pos h1])
    rw [eqB_nil] at h1
    go_enter Tryd.func57, Tryd.ntmps57
    go_wp2
    go_ret
    exact ⟨ret_bool HQ.out, HB.out⟩
end Go.Proofs.YtaelopjalfapgabDoor
