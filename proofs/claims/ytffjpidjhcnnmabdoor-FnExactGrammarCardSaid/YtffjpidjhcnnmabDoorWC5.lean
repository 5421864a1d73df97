/-
  The walks over chapter 2: spec's SecondsOf, CivilOf, Weekday.
-/
import Derived.Test.YtffjpidjhcnnmabDoorWC3
import Derived.Test.YtffjpidjhcnnmabDoorWC4
namespace Go.Proofs.YtffjpidjhcnnmabDoor
set_option linter.unusedVariables false
set_option linter.unusedSimpArgs false
open Go.RowKit

set_option maxHeartbeats 400000 in
theorem l2time_any (t : Int) (w : World) :
    Calls Tryd.prog 60 #[.int .i64 t] w fun e w' => e = .returned (.bool (timeB t)) ∧ w' = w := by
  by_cases h : 0 ≤ t
  · by_cases h' : t ≤ 253402300799
    · rw [show timeB t = true from timeB_iff.2 ⟨h, h'⟩]
      go_enter Tryd.func60, Tryd.ntmps60
      go_wp2
      go_ret
      exact ⟨rfl, rfl⟩
    · rw [show timeB t = false from timeB_no (by omega)]
      go_enter Tryd.func60, Tryd.ntmps60
      go_wp2
      go_ret
      exact ⟨rfl, rfl⟩
  · rw [show timeB t = false from timeB_no (by omega)]
    go_enter Tryd.func60, Tryd.ntmps60
    go_wp2
    go_ret
    exact ⟨rfl, rfl⟩
set_option maxHeartbeats 400000 in
theorem l2year_any (y : Int) (w : World) (h0 : 0 ≤ y) (h1 : y ≤ 10000) :
    Calls Tryd.prog 58 #[.int .i64 y] w fun e w' => e = .returned (.int .i64 (365 + lp y)) ∧ w' = w := by
  cases hl : leapB y
  · rw [lp_neg hl]
    go_enter Tryd.func58, Tryd.ntmps58
    go_wp2_with (go_at_call 72; refine (l2leap_any _ _ h0 h1).mono ?_; rintro e w' ⟨rfl, rfl⟩)
    go_ret
    exact ⟨rfl, rfl⟩
  · rw [lp_pos hl]
    go_enter Tryd.func58, Tryd.ntmps58
    go_wp2_with (go_at_call 72; refine (l2leap_any _ _ h0 h1).mono ?_; rintro e w' ⟨rfl, rfl⟩)
    go_ret
    exact ⟨rfl, rfl⟩
set_option maxHeartbeats 1000000 in
theorem sSecondsOf_no (y m d h i s : Int) (w : World) (hv : vldB y m d h i s = false) :
    Calls Tryd.prog 44 #[civ y m d h i s] w fun e w' => e = .returned (.tuple #[.int .i64 0, .bool false]) ∧ Below w.heap.size w w' := by
  go_enter Tryd.func44, Tryd.ntmps44
  go_wp2_with fail
  refine (sCivilOk_any y m d h i s _).mono ?_
  rintro e w1 ⟨rfl, hb1⟩
  have BW := below_then (below_a1 w _) hb1
  clear hb1
  go_wp2
  go_ret2
  exact ⟨rfl, BW⟩
set_option maxHeartbeats 2000000 in
theorem sSecondsOf_yes (y : Int) (m : Nat) (d h i s : Int) (w : World) (hv : vldB y m d h i s = true) :
    Calls Tryd.prog 44 #[civ y m d h i s] w fun e w' => e = .returned (.tuple #[.int .i64 (secs y m d h i s), .bool true]) ∧ Below w.heap.size w w' := by
  have hfin : Hid (secs y m d h i s = (((d - 1 + dby y + cum y m) * 24 + h) * 60 + i) * 60 + s) := by
    show _ = _
    unfold secs dnum; omega
  obtain ⟨v1, v2, v3, v4, v5, v6, v7, v8, v9, v10, v11, v12⟩ := vldB_iff.1 hv
  have hd := dby_bd v1 (by omega)
  have hdm := dim_bd y m
  go_enter Tryd.func44, Tryd.ntmps44
  go_wp2_with fail
  refine (sCivilOk_any y m d h i s _).mono ?_
  rintro e w1 ⟨rfl, hb1⟩
  have BW := below_then (below_a1 w _) hb1
  obtain ⟨hc1, hf1⟩ := bcell2 hb1
  have hc2 : ∀ o, w1.cell? ⟨w.heap.size, o, none⟩ = (w.alloc (.cells #[.int .i64 y, .int .i64 m, .int .i64 d, .int .i64 h, .int .i64 i, .int .i64 s] 62)).cell? ⟨w.heap.size, o, none⟩ := fun o => hc1 w.heap.size o (by simp)
  clear hb1 hf1 hc1
  go_wp2
  go_loop [4, 5] (fun dd kk => ∃ k : Int, 1970 ≤ k ∧ k ≤ y ∧ kk = .int .i64 k ∧ dd = .int .i64 (d - 1 + dby k)) (fun _ kk => (y - intOf kk).toNat)
  case atStart => exact ⟨1970, by omega, by omega, rfl, congrArg (Value.int .i64) (by rw [dby_1970]; omega)⟩
  case round =>
    obtain ⟨k, hk0, hk1, rfl, rfl⟩ := hrel
    have hkb := dby_bd hk0 (by omega)
    have hlp := lp_bd k
    by_cases hlt : k < y
    · have hs : Hid (dby (k + 1) = dby k + 365 + lp k) := dby_succ k
      go_wp2_with (go_at_call 58; refine (l2year_any _ _ (by omega) (by omega)).mono ?_; rintro e w' ⟨rfl, rfl⟩)
      go_round
      case rel => exact ⟨k + 1, by omega, by omega, rfl, congrArg (Value.int .i64) (by rw [hs.out]; omega)⟩
      case measure => simp [intOf]; omega
    · obtain rfl : k = y := by omega
      go_wp2
      go_loop [4, 6] (fun dd kk => ∃ j : Nat, 1 ≤ j ∧ j ≤ m ∧ kk = .int .i64 j ∧ dd = .int .i64 (d - 1 + dby k + cum k j)) (fun _ kk => m - (intOf kk).toNat)
      case atStart => exact ⟨1, by omega, by omega, rfl, congrArg (Value.int .i64) (by simp [cum])⟩
      case round =>
        obtain ⟨j, hj0, hj1, rfl, rfl⟩ := hrel
        have hcb := cum_bd k j
        have hdj := dim_bd k j
        by_cases hlt : j < m
        · have hs : Hid (cum k ((j : Int) + 1) = cum k j + dim k j) := cum_succ k j (by omega) (by omega)
          go_wp2_with (go_at_call 59; refine (l2days_any _ _ _ (by omega) (by omega)).mono ?_; rintro e w' ⟨rfl, rfl⟩)
          go_round
          case rel => exact ⟨j + 1, by omega, by omega, by go_num, congrArg (Value.int .i64) (by rw [show ((j + 1 : Nat) : Int) = (j : Int) + 1 by omega, hs.out]; omega)⟩
          case measure => simp [intOf]; omega
        · obtain rfl : j = m := by omega
          go_wp2
          go_ret2
          exact ⟨ret_ib2 (by rw [hfin.out]) rfl, BW⟩
set_option maxHeartbeats 1000000 in
theorem sCivilOf_no (t : Int) (w : World) (h : ¬ (0 ≤ t ∧ t ≤ 253402300799)) :
    Calls Tryd.prog 45 #[.int .i64 t] w fun e w' => e = .returned (.tuple #[civ 0 0 0 0 0 0, .bool false]) ∧ Below w.heap.size w w' := by
  have ht : timeB t = false := timeB_no h
  clear h
  go_enter Tryd.func45, Tryd.ntmps45
  go_wp2_with (go_at_call 60; refine (l2time_any _ _).mono ?_; rintro e w' ⟨rfl, rfl⟩)
  exact bodyPost_ret (v := .tuple #[civ 0 0 0 0 0 0, .bool false]) (by simp [results, Tryd.results45, go_sem]) rfl ⟨rfl, below_a1 _ _⟩
/-- The two blocks of spec.CivilOf, while it counts. -/
def cwd (w : World) (y m d h i s : Int) : World := (w.alloc (.cells #[.int .i64 0, .int .i64 0, .int .i64 0, .int .i64 0, .int .i64 0, .int .i64 0] 62)).alloc (.cells #[.int .i64 y, .int .i64 m, .int .i64 d, .int .i64 h, .int .i64 i, .int .i64 s] 62)
set_option maxHeartbeats 2000000 in
theorem sCivilOf_yes (t y : Int) (m : Nat) (d h i s : Int) (w : World) (hv : vld y m d h i s) (ht : t = secs y m d h i s) :
    Calls Tryd.prog 45 #[.int .i64 t] w fun e w' => e = .returned (.tuple #[civ y m d h i s, .bool true]) ∧ Below w.heap.size w w' := by
  have hb := secs_bd hv
  have hp := secs_parts hv
  rw [← ht] at hb hp
  have hT : timeB t = true := timeB_iff.2 hb
  have hy := fun k => year_iff hv k
  have hm := fun k => month_iff hv k
  obtain ⟨p1, p2, p3, p4, p5⟩ := hp
  have HC : Hid (t / 3600 % 24 = h ∧ t / 60 % 60 = i ∧ t % 60 = s) := ⟨p3, p4, p5⟩
  have HD : Hid (dnum y m d = dby y + cum y m + d - 1) := rfl
  have hlt := dnum_lt hv
  obtain ⟨v1, v2, v3, v4, v5, v6, _⟩ := hv
  rw [← p1] at hy hlt HD
  have hdb := dby_bd v1 (by omega)
  clear ht p2 p3 p4 p5
  have HY : Hid (∀ k, dby (k + 1) ≤ t / 86400 ↔ k < y) := hy
  have HM : Hid (∀ k, 1 ≤ k → k ≤ (m : Int) → (dim y k ≤ cum y m + d - 1 - cum y k ↔ k < m)) := hm
  clear hy hm p1
  go_enter Tryd.func45, Tryd.ntmps45
  go_wp2_with (go_at_call 60; refine (l2time_any _ _).mono ?_; rintro e w' ⟨rfl, rfl⟩)
  go_loopw [4] (fun dd wr => ∃ k : Int, 1970 ≤ k ∧ k ≤ y ∧ dd = .int .i64 (t / 86400 - dby k) ∧ wr = cwd w k 1 0 (t / 3600 % 24) (t / 60 % 60) (t % 60)) (fun _ wr => match wr.cell? ⟨w.heap.size + 1, 0, none⟩ with | some v => (y - intOf v).toNat | none => 0)
  case atStart => exact ⟨1970, by omega, by omega, congrArg (Value.int .i64) (by rw [dby_1970]; omega), rfl⟩
  case round =>
    obtain ⟨k, hk0, hk1, rfl, rfl⟩ := hrel
    have hkb := dby_bd hk0 (by omega)
    have hlp := lp_bd k
    have hs : Hid (dby (k + 1) = dby k + 365 + lp k) := dby_succ k
    unfold cwd
    by_cases hk : k < y
    · have hcond : 365 + lp k ≤ t / 86400 - dby k := by have := (HY.out k).2 hk; have := hs.out; omega
      go_wp2_with (go_at_call 58; refine (l2year_any _ _ (by omega) (by omega)).mono ?_; rintro e w' ⟨rfl, rfl⟩)
      go_roundw
      case rel => exact ⟨k + 1, by omega, by omega, congrArg (Value.int .i64) (by rw [hs.out]; omega), rfl⟩
      case measure => simp [intOf, cwd]; omega
    · obtain rfl : k = y := by omega
      have hcond : ¬ 365 + lp k ≤ t / 86400 - dby k := fun hh => absurd ((HY.out k).1 (by have := hs.out; omega)) (by omega)
      go_wp2_with (go_at_call 58; refine (l2year_any _ _ (by omega) (by omega)).mono ?_; rintro e w' ⟨rfl, rfl⟩)
      clear hcond
      go_loopw [4] (fun dd wr => ∃ j : Nat, 1 ≤ j ∧ j ≤ m ∧ dd = .int .i64 (t / 86400 - dby k - cum k j) ∧ wr = cwd w k j 0 (t / 3600 % 24) (t / 60 % 60) (t % 60)) (fun _ wr => match wr.cell? ⟨w.heap.size + 1, 1, none⟩ with | some v => m - (intOf v).toNat | none => 0)
      case atStart => exact ⟨1, by omega, by omega, congrArg (Value.int .i64) (by simp [cum]), rfl⟩
      case round =>
        obtain ⟨j, hj0, hj1, rfl, rfl⟩ := hrel
        have hcb := cum_bd k j
        have hdj := dim_bd k j
        have hiff : dim k j ≤ t / 86400 - dby k - cum k j ↔ j < m := by
          have := HM.out j (by omega) (by omega)
          have e := HD.out
          omega
        unfold cwd
        by_cases hj : j < m
        · have hs2 : Hid (cum k ((j : Int) + 1) = cum k j + dim k j) := cum_succ k j (by omega) (by omega)
          have hcond := hiff.2 hj
          clear hiff
          go_wp2_with (go_at_call 59; refine (l2days_any _ _ _ (by omega) (by omega)).mono ?_; rintro e w' ⟨rfl, rfl⟩)
          go_roundw
          case rel => exact ⟨j + 1, by omega, by omega, congrArg (Value.int .i64) (by rw [show ((j + 1 : Nat) : Int) = (j : Int) + 1 by omega, hs2.out]; omega), rfl⟩
          case measure => simp [intOf, cwd]; omega
        · obtain rfl : j = m := by omega
          have hcond : ¬ dim k j ≤ t / 86400 - dby k - cum k j := fun hh => hj (hiff.1 hh)
          clear hiff
          go_wp2_with (go_at_call 59; refine (l2days_any _ _ _ (by omega) (by omega)).mono ?_; rintro e w' ⟨rfl, rfl⟩)
          refine bodyPost_ret (v := .tuple #[civ k j (t / 86400 - dby k - cum k j + 1) (t / 3600 % 24) (t / 60 % 60) (t % 60), .bool true]) (by simp [results, Tryd.results45, go_sem]) rfl ⟨?_, below_a2 _ _ _⟩
          exact ret_civ rfl rfl (by have := HD.out; omega) HC.out.1 HC.out.2.1 HC.out.2.2 true
end Go.Proofs.YtffjpidjhcnnmabDoor
