/-
  The walks over chapter 2: impl's SecondsOf, CivilOf, Weekday.
-/
import Derived.Test.YtffjpidjhcnnmabDoorWC2
namespace Go.Proofs.YtffjpidjhcnnmabDoor
set_option linter.unusedVariables false
set_option linter.unusedSimpArgs false
open Go.RowKit

def timeB (t : Int) : Bool := withinB t 0 253402300799
theorem timeB_iff {t : Int} : timeB t = true ↔ 0 ≤ t ∧ t ≤ 253402300799 := within_iff
theorem timeB_no {t : Int} (h : ¬ (0 ≤ t ∧ t ≤ 253402300799)) : timeB t = false := Bool.eq_false_iff.2 fun hh => h (timeB_iff.1 hh)
def lya (y : Int) : Int := (y - 1) / 4 - (y - 1) / 100 + (y - 1) / 400
theorem lya_1970 : lya 1970 = 477 := by decide
theorem lya_bd (y : Int) (h0 : 1 ≤ y) (h1 : y ≤ 20000) : 0 ≤ lya y ∧ lya y ≤ 20000 := by unfold lya; omega
theorem dby_lya (y : Int) : dby y = 365 * (y - 1970) + lya y - 477 := by unfold dby lya; omega
theorem dby_le (y : Int) (h : 1970 ≤ y) : dby y ≤ 366 * (y - 1970) := by unfold dby; omega
theorem ret_civ {a b c d e f a' b' c' d' e' f' : Int} (h0 : a = a') (h1 : b = b') (h2 : c = c') (h3 : d = d') (h4 : e = e') (h5 : f = f') (r : Bool) :
    Ending.returned (.tuple #[civ a b c d e f, .bool r]) = .returned (.tuple #[civ a' b' c' d' e' f', .bool r]) := by rw [h0, h1, h2, h3, h4, h5]
theorem ret_ib2 {k : IntKind} {n m : Int} {a b : Bool} (h : m = n) (h' : b = a) : Ending.returned (.tuple #[.int k n, .bool a]) = .returned (.tuple #[.int k m, .bool b]) := by rw [h, h']
/-- The day of the week, 0 for Monday. -/
def wdN (t : Int) : Nat := ((3 + t / 86400) % 7).toNat
theorem wdN_lt (t : Int) : wdN t < 7 := by unfold wdN; omega
theorem wdN_eq (t : Int) : ((wdN t : Nat) : Int) = (3 + t / 86400) % 7 := by unfold wdN; omega

set_option maxHeartbeats 400000 in
theorem isTime_any (t : Int) (w : World) :
    Calls Tryd.prog 77 #[.int .i64 t] w fun e w' => e = .returned (.bool (timeB t)) ∧ w' = w := by
  unfold timeB
  go_enter Tryd.func77, Tryd.ntmps77
  go_wp2_with fail
  refine (within_any _ _ _ _).mono ?_
  rintro e w' ⟨rfl, rfl⟩
  go_wp2
  go_ret
  exact ⟨rfl, rfl⟩
set_option maxHeartbeats 400000 in
theorem leapYearsAhead_any (y : Int) (w : World) (h0 : 1 ≤ y) (h1 : y ≤ 20000) :
    Calls Tryd.prog 83 #[.int .i64 y] w fun e w' => e = .returned (.int .i64 (lya y)) ∧ w' = w := by
  unfold lya
  go_enter Tryd.func83, Tryd.ntmps83
  go_wp2
  go_ret
  exact ⟨rfl, rfl⟩
set_option maxHeartbeats 400000 in
theorem daysAhead_any (y : Int) (w : World) (h0 : 1970 ≤ y) (h1 : y ≤ 20000) :
    Calls Tryd.prog 75 #[.int .i64 y] w fun e w' => e = .returned (.int .i64 (dby y)) ∧ w' = w := by
  have hd : Hid (dby y = 365 * (y - 1970) + lya y - 477) := dby_lya y
  have hl := lya_bd y (by omega) h1
  have h7 := lya_1970
  go_enter Tryd.func75, Tryd.ntmps75
  go_wp2_with (go_at_call 83; refine (leapYearsAhead_any _ _ (by omega) (by omega)).mono ?_; rintro e w' ⟨rfl, rfl⟩)
  go_ret
  exact ⟨ret_int (by rw [hd.out]), rfl⟩
set_option maxHeartbeats 1000000 in
theorem SecondsOf_no (y m d h i s : Int) (w : World) (hM : MonTab w) (hv : vldB y m d h i s = false) :
    Calls Tryd.prog 65 #[civ y m d h i s] w fun e w' => e = .returned (.tuple #[.int .i64 0, .bool false]) ∧ Below w.heap.size w w' := by
  have hM' := fun o => hM.alloc o
  clear hM
  go_enter Tryd.func65, Tryd.ntmps65
  go_wp2_with fail
  refine (CivilOk_any y m d h i s _ (hM' _)).mono ?_
  rintro e w1 ⟨rfl, hb1⟩
  have BW := below_then (below_a1 w _) hb1
  clear hb1 hM'
  go_wp2
  go_ret2
  exact ⟨rfl, BW⟩
set_option maxHeartbeats 2000000 in
theorem SecondsOf_yes (y : Int) (m : Nat) (d h i s : Int) (w : World) (hM : MonTab w) (hv : vldB y m d h i s = true) :
    Calls Tryd.prog 65 #[civ y m d h i s] w fun e w' => e = .returned (.tuple #[.int .i64 (secs y m d h i s), .bool true]) ∧ Below w.heap.size w w' := by
  have hM' := fun o => hM.alloc o
  have hfin : Hid (secs y m d h i s = (dby y + d - 1 + cum y m) * 86400 + h * 3600 + i * 60 + s) := by
    show _ = _
    unfold secs dnum; congr 3; congr 1; omega
  obtain ⟨v1, v2, v3, v4, v5, v6, v7, v8, v9, v10, v11, v12⟩ := vldB_iff.1 hv
  have hd := dby_bd v1 (by omega)
  have hdm := dim_bd y m
  clear hM
  go_enter Tryd.func65, Tryd.ntmps65
  go_wp2_with fail
  refine (CivilOk_any y m d h i s _ (hM' _)).mono ?_
  rintro e w1 ⟨rfl, hb1⟩
  have BW := below_then (below_a1 w _) hb1
  have hM1 := (hM' _).below hb1
  obtain ⟨hc1, hf1⟩ := bcell2 hb1
  clear hb1 hM' hf1
  go_wp2_with fail
  refine wp_region_quiet_lit ?_ ?_ ?_
  · kernel_rfl
  · kernel_rfl
  · repeat (go_big_quiet_step ((go_at_call 75; exact Calls.quiet_of_same (daysAhead_any _ _ (by omega) (by omega)))))
    refine wpQuiet_nil ?_
    rintro _ ⟨nq, rfl⟩
    have BW2 := below_drewN BW nq
    have hM2 : MonTab (w1.drewN nq) := hM1.drewN nq
    have hc2 : ∀ o, (w1.drewN nq).cell? ⟨w.heap.size, o, none⟩ = (w.alloc (.cells #[.int .i64 y, .int .i64 m, .int .i64 d, .int .i64 h, .int .i64 i, .int .i64 s] 62)).cell? ⟨w.heap.size, o, none⟩ := fun o => hc1 w.heap.size o (by simp)
    clear BW hM1 hc1
    generalize w1.drewN nq = W at *
    go_wp2
    go_loop [4, 5] (fun dd kk => ∃ k : Nat, 1 ≤ k ∧ k ≤ m ∧ kk = .int .i64 k ∧ dd = .int .i64 (dby y + d - 1 + cum y k)) (fun _ kk => m - (intOf kk).toNat)
    case atStart => exact ⟨1, by omega, by omega, rfl, congrArg (Value.int .i64) (by simp [cum])⟩
    case round =>
      obtain ⟨k, hk0, hk1, rfl, rfl⟩ := hrel
      have hcb := cum_bd y k
      have hdk := dim_bd y k
      by_cases hlt : k < m
      · have hs : Hid (cum y ((k : Int) + 1) = cum y k + dim y k) := cum_succ y k (by omega) (by omega)
        go_wp2_with (go_at_call 76; refine (monthDays_any _ _ _ (by omega) (by omega) (by omega) (by omega) hM2).mono ?_; rintro e w' ⟨rfl, rfl⟩)
        go_round
        case rel => exact ⟨k + 1, by omega, by omega, by go_num, congrArg (Value.int .i64) (by rw [show ((k + 1 : Nat) : Int) = (k : Int) + 1 by omega, hs.out]; omega)⟩
        case measure => simp [intOf]; omega
      · obtain rfl : k = m := by omega
        go_wp2
        go_ret2
        exact ⟨ret_ib2 (by rw [hfin.out]) rfl, BW2⟩
set_option maxHeartbeats 1000000 in
theorem CivilOf_no (t : Int) (w : World) (h : ¬ (0 ≤ t ∧ t ≤ 253402300799)) :
    Calls Tryd.prog 66 #[.int .i64 t] w fun e w' => e = .returned (.tuple #[civ 0 0 0 0 0 0, .bool false]) ∧ Below w.heap.size w w' := by
  have ht : timeB t = false := timeB_no h
  clear h
  go_enter Tryd.func66, Tryd.ntmps66
  go_wp2_with (go_at_call 77; refine (isTime_any _ _).mono ?_; rintro e w' ⟨rfl, rfl⟩)
  exact bodyPost_ret (v := .tuple #[civ 0 0 0 0 0 0, .bool false]) (by simp [results, Tryd.results66, go_sem]) rfl ⟨rfl, below_a1 _ _⟩
set_option maxHeartbeats 2000000 in
theorem CivilOf_yes (t y : Int) (m : Nat) (d h i s : Int) (w : World) (hM : MonTab w) (hv : vld y m d h i s) (ht : t = secs y m d h i s) :
    Calls Tryd.prog 66 #[.int .i64 t] w fun e w' => e = .returned (.tuple #[civ y m d h i s, .bool true]) ∧ Below w.heap.size w w' := by
  have hb := secs_bd hv
  have hp := secs_parts hv
  rw [← ht] at hb hp
  have hT : timeB t = true := timeB_iff.2 hb
  have hy := fun k => year_iff hv k
  have hm := fun k => month_iff hv k
  have hlt := dnum_lt hv
  have hle := dby_le (y + 1) (by have := hv.1; omega)
  obtain ⟨p1, p2, p3, p4, p5⟩ := hp
  have cl := clock_parts hv.2.2.2.2.2.2.1 hv.2.2.2.2.2.2.2.1 hv.2.2.2.2.2.2.2.2.1 hv.2.2.2.2.2.2.2.2.2.1 hv.2.2.2.2.2.2.2.2.2.2.1 hv.2.2.2.2.2.2.2.2.2.2.2
  rw [← p2] at cl
  have HC : Hid (t % 86400 / 3600 = h ∧ t % 86400 / 60 % 60 = i ∧ t % 86400 % 60 = s) := cl
  have HD : Hid (dnum y m d = dby y + cum y m + d - 1) := rfl
  obtain ⟨v1, v2, v3, v4, v5, v6, _⟩ := hv
  rw [← p1] at hy hlt HD
  have hM1 := fun o => hM.alloc o
  have hdb := dby_bd v1 (by omega)
  clear ht p2 p3 p4 p5 cl hM
  have HY : Hid (∀ k, dby (k + 1) ≤ t / 86400 ↔ k < y) := hy
  have HM : Hid (∀ k, 1 ≤ k → k ≤ (m : Int) → (dim y k ≤ cum y m + d - 1 - cum y k ↔ k < m)) := hm
  clear hy hm p1
  go_enter Tryd.func66, Tryd.ntmps66
  go_wp2_with (go_at_call 77; refine (isTime_any _ _).mono ?_; rintro e w' ⟨rfl, rfl⟩)
  go_loop [5] (fun yr => ∃ k : Int, 1970 ≤ k ∧ k ≤ y ∧ yr = .int .i64 k) (fun yr => (y - intOf yr).toNat)
  case atStart => exact ⟨_, by omega, by omega, rfl⟩
  case round =>
    obtain ⟨k, hk0, hk1, rfl⟩ := hrel
    have hkb := dby_bd (y := k + 1) (by omega) (by omega)
    by_cases hk : k < y
    · have hcond : dby (k + 1) ≤ t / 86400 := (HY.out k).2 hk
      go_wp2_with (go_at_call 75; refine (daysAhead_any _ _ (by omega) (by omega)).mono ?_; rintro e w' ⟨rfl, rfl⟩)
      go_round
      case rel => exact ⟨k + 1, by omega, by omega, rfl⟩
      case measure => simp [intOf]; omega
    · obtain rfl : k = y := by omega
      have hcond : ¬ dby (k + 1) ≤ t / 86400 := fun hh => absurd ((HY.out k).1 hh) (by omega)
      go_wp2_with (go_at_call 75; refine (daysAhead_any _ _ (by omega) (by omega)).mono ?_; rintro e w' ⟨rfl, rfl⟩)
      clear hcond
      go_loop [4, 6] (fun dd mm => ∃ j : Nat, 1 ≤ j ∧ j ≤ m ∧ mm = .int .i64 j ∧ dd = .int .i64 (t / 86400 - dby k - cum k j)) (fun _ mm => m - (intOf mm).toNat)
      case atStart => exact ⟨1, by omega, by omega, rfl, congrArg (Value.int .i64) (by simp [cum])⟩
      case round =>
        obtain ⟨j, hj0, hj1, rfl, rfl⟩ := hrel
        have hcb := cum_bd k j
        have hdj := dim_bd k j
        have hiff : dim k j ≤ t / 86400 - dby k - cum k j ↔ j < m := by
          have := HM.out j (by omega) (by omega)
          have e := HD.out
          omega
        by_cases hj : j < m
        · have hs : Hid (cum k ((j : Int) + 1) = cum k j + dim k j) := cum_succ k j (by omega) (by omega)
          have hcond := hiff.2 hj
          clear hiff
          go_wp2_with (go_at_call 76; refine (monthDays_any _ _ _ (by omega) (by omega) (by omega) (by omega) (hM1 _)).mono ?_; rintro e w' ⟨rfl, rfl⟩)
          go_round
          case rel => exact ⟨j + 1, by omega, by omega, by go_num, congrArg (Value.int .i64) (by rw [show ((j + 1 : Nat) : Int) = (j : Int) + 1 by omega, hs.out]; omega)⟩
          case measure => simp [intOf]; omega
        · obtain rfl : j = m := by omega
          have hcond : ¬ dim k j ≤ t / 86400 - dby k - cum k j := fun hh => hj (hiff.1 hh)
          clear hiff
          go_wp2_with (go_at_call 76; refine (monthDays_any _ _ _ (by omega) (by omega) (by omega) (by omega) (hM1 _)).mono ?_; rintro e w' ⟨rfl, rfl⟩)
          refine bodyPost_ret (v := .tuple #[civ k j (t / 86400 - dby k - cum k j + 1) (t % 86400 / 3600) (t % 86400 / 60 % 60) (t % 86400 % 60), .bool true]) (by simp [results, Tryd.results66, go_sem]) rfl ⟨?_, below_a1 _ _⟩
          exact ret_civ rfl rfl (by have := HD.out; omega) HC.out.1 HC.out.2.1 HC.out.2.2 true
end Go.Proofs.YtffjpidjhcnnmabDoor
