/-
  The walks over chapter 2: spec's SecondsOf, CivilOf, Weekday. · The walks over chapter 2: the texts of spec. · The walks over chapter 2: spec.LineDate. · The walks over chapter 2: what spec reads of a text. · The walks over chapter 2: spec.ReadWarcDate, ReadStamp. · Plain functions of chapter 1: numbers in sixteens. No Go in sight. · The walks over chapter 1: ReadHex.
-/
import Derived.Test.YtffjpidjhcnnmabDoorJ4
import Derived.Test.YtffjpidjhcnnmabDoorJ3
import Derived.Test.YtffjpidjhcnnmabDoorJ0
import Derived.Test.YtffjpidjhcnnmabDoorJ1
namespace Go.Proofs.YtffjpidjhcnnmabDoor
set_option linter.unusedVariables false
set_option linter.unusedSimpArgs false
open Go.RowKit

set_option maxHeartbeats 400000 in
theorem l2time_any (t : Int) (w : World) :
    Calls Tryd.prog 60 #[.int .i64 t] w fun e w' => e = .returned (.bool (timeB t)) ∧ w' = w := by
  by_cases h : 0 ≤ t
  · by_cases h' : t ≤ 253402300799
    · rw [show timeB t = true from timeB_iff.2 ⟨h, h'⟩]
      go_enter Tryd.func60, Tryd.ntmps60
      go_wp2
      go_ret
      exact ⟨rfl, rfl⟩
    · rw [show timeB t = false from timeB_no (by omega)]
      go_enter Tryd.func60, Tryd.ntmps60
      go_wp2
      go_ret
      exact ⟨rfl, rfl⟩
  · rw [show timeB t = false from timeB_no (by omega)]
    go_enter Tryd.func60, Tryd.ntmps60
    go_wp2
    go_ret
    exact ⟨rfl, rfl⟩
set_option maxHeartbeats 400000 in
theorem l2year_any (y : Int) (w : World) (h0 : 0 ≤ y) (h1 : y ≤ 10000) :
    Calls Tryd.prog 58 #[.int .i64 y] w fun e w' => e = .returned (.int .i64 (365 + lp y)) ∧ w' = w := by
  cases hl : leapB y
  · rw [lp_neg hl]
    go_enter Tryd.func58, Tryd.ntmps58
    go_wp2_with (go_at_call 72; refine (l2leap_any _ _ h0 h1).mono ?_; rintro e w' ⟨rfl, rfl⟩)
    go_ret
    exact ⟨rfl, rfl⟩
  · rw [lp_pos hl]
    go_enter Tryd.func58, Tryd.ntmps58
    go_wp2_with (go_at_call 72; refine (l2leap_any _ _ h0 h1).mono ?_; rintro e w' ⟨rfl, rfl⟩)
    go_ret
    exact ⟨rfl, rfl⟩
set_option maxHeartbeats 1000000 in
theorem sSecondsOf_no (y m d h i s : Int) (w : World) (hv : vldB y m d h i s = false) :
    Calls Tryd.prog 44 #[civ y m d h i s] w fun e w' => e = .returned (.tuple #[.int .i64 0, .bool false]) ∧ Below w.heap.size w w' := by
  go_enter Tryd.func44, Tryd.ntmps44
  go_wp2_with fail
  refine (sCivilOk_any y m d h i s _).mono ?_
  rintro e w1 ⟨rfl, hb1⟩
  have BW := below_then (below_a1 w _) hb1
  clear hb1
  go_wp2
  go_ret2
  exact ⟨rfl, BW⟩
set_option maxHeartbeats 2000000 in
theorem sSecondsOf_yes (y : Int) (m : Nat) (d h i s : Int) (w : World) (hv : vldB y m d h i s = true) :
    Calls Tryd.prog 44 #[civ y m d h i s] w fun e w' => e = .returned (.tuple #[.int .i64 (secs y m d h i s), .bool true]) ∧ Below w.heap.size w w' := by
  have hfin : Hid (secs y m d h i s = (((d - 1 + dby y + cum y m) * 24 + h) * 60 + i) * 60 + s) := by
    show _ = _
    unfold secs dnum; omega
  obtain ⟨v1, v2, v3, v4, v5, v6, v7, v8, v9, v10, v11, v12⟩ := vldB_iff.1 hv
  have hd := dby_bd v1 (by omega)
  have hdm := dim_bd y m
  go_enter Tryd.func44, Tryd.ntmps44
  go_wp2_with fail
  refine (sCivilOk_any y m d h i s _).mono ?_
  rintro e w1 ⟨rfl, hb1⟩
  have BW := below_then (below_a1 w _) hb1
  obtain ⟨hc1, hf1⟩ := bcell2 hb1
  have hc2 : ∀ o, w1.cell? ⟨w.heap.size, o, none⟩ = (w.alloc (.cells #[.int .i64 y, .int .i64 m, .int .i64 d, .int .i64 h, .int .i64 i, .int .i64 s] 62)).cell? ⟨w.heap.size, o, none⟩ := fun o => hc1 w.heap.size o (by simp)
  clear hb1 hf1 hc1
  go_wp2
  go_loop [4, 5] (fun dd kk => ∃ k : Int, 1970 ≤ k ∧ k ≤ y ∧ kk = .int .i64 k ∧ dd = .int .i64 (d - 1 + dby k)) (fun _ kk => (y - intOf kk).toNat)
  case atStart => exact ⟨1970, by omega, by omega, rfl, congrArg (Value.int .i64) (by rw [dby_1970]; omega)⟩
  case round =>
    obtain ⟨k, hk0, hk1, rfl, rfl⟩ := hrel
    have hkb := dby_bd hk0 (by omega)
    have hlp := lp_bd k
    by_cases hlt : k < y
    · have hs : Hid (dby (k + 1) = dby k + 365 + lp k) := dby_succ k
      go_wp2_with (go_at_call 58; refine (l2year_any _ _ (by omega) (by omega)).mono ?_; rintro e w' ⟨rfl, rfl⟩)
      go_round
      case rel => exact ⟨k + 1, by omega, by omega, rfl, congrArg (Value.int .i64) (by rw [hs.out]; omega)⟩
      case measure => simp [intOf]; omega
    · obtain rfl : k = y := by omega
      go_wp2
      go_loop [4, 6] (fun dd kk => ∃ j : Nat, 1 ≤ j ∧ j ≤ m ∧ kk = .int .i64 j ∧ dd = .int .i64 (d - 1 + dby k + cum k j)) (fun _ kk => m - (intOf kk).toNat)
      case atStart => exact ⟨1, by omega, by omega, rfl, congrArg (Value.int .i64) (by simp [cum])⟩
      case round =>
        obtain ⟨j, hj0, hj1, rfl, rfl⟩ := hrel
        have hcb := cum_bd k j
        have hdj := dim_bd k j
        by_cases hlt : j < m
        · have hs : Hid (cum k ((j : Int) + 1) = cum k j + dim k j) := cum_succ k j (by omega) (by omega)
          go_wp2_with (go_at_call 59; refine (l2days_any _ _ _ (by omega) (by omega)).mono ?_; rintro e w' ⟨rfl, rfl⟩)
          go_round
          case rel => exact ⟨j + 1, by omega, by omega, by go_num, congrArg (Value.int .i64) (by rw [show ((j + 1 : Nat) : Int) = (j : Int) + 1 by omega, hs.out]; omega)⟩
          case measure => simp [intOf]; omega
        · obtain rfl : j = m := by omega
          go_wp2
          go_ret2
          exact ⟨ret_ib2 (by rw [hfin.out]) rfl, BW⟩
set_option maxHeartbeats 1000000 in
theorem sCivilOf_no (t : Int) (w : World) (h : ¬ (0 ≤ t ∧ t ≤ 253402300799)) :
    Calls Tryd.prog 45 #[.int .i64 t] w fun e w' => e = .returned (.tuple #[civ 0 0 0 0 0 0, .bool false]) ∧ Below w.heap.size w w' := by
  have ht : timeB t = false := timeB_no h
  clear h
  go_enter Tryd.func45, Tryd.ntmps45
  go_wp2_with (go_at_call 60; refine (l2time_any _ _).mono ?_; rintro e w' ⟨rfl, rfl⟩)
  exact bodyPost_ret (v := .tuple #[civ 0 0 0 0 0 0, .bool false]) (by simp [results, Tryd.results45, go_sem]) rfl ⟨rfl, below_a1 _ _⟩
/-- The two blocks of spec.CivilOf, while it counts. -/
def cwd (w : World) (y m d h i s : Int) : World := (w.alloc (.cells #[.int .i64 0, .int .i64 0, .int .i64 0, .int .i64 0, .int .i64 0, .int .i64 0] 62)).alloc (.cells #[.int .i64 y, .int .i64 m, .int .i64 d, .int .i64 h, .int .i64 i, .int .i64 s] 62)
set_option maxHeartbeats 2000000 in
theorem sCivilOf_yes (t y : Int) (m : Nat) (d h i s : Int) (w : World) (hv : vld y m d h i s) (ht : t = secs y m d h i s) :
    Calls Tryd.prog 45 #[.int .i64 t] w fun e w' => e = .returned (.tuple #[civ y m d h i s, .bool true]) ∧ Below w.heap.size w w' := by
  have hb := secs_bd hv
  have hp := secs_parts hv
  rw [← ht] at hb hp
  have hT : timeB t = true := timeB_iff.2 hb
  have hy := fun k => year_iff hv k
  have hm := fun k => month_iff hv k
  obtain ⟨p1, p2, p3, p4, p5⟩ := hp
  have HC : Hid (t / 3600 % 24 = h ∧ t / 60 % 60 = i ∧ t % 60 = s) := ⟨p3, p4, p5⟩
  have HD : Hid (dnum y m d = dby y + cum y m + d - 1) := rfl
  have hlt := dnum_lt hv
  obtain ⟨v1, v2, v3, v4, v5, v6, _⟩ := hv
  rw [← p1] at hy hlt HD
  have hdb := dby_bd v1 (by omega)
  clear ht p2 p3 p4 p5
  have HY : Hid (∀ k, dby (k + 1) ≤ t / 86400 ↔ k < y) := hy
  have HM : Hid (∀ k, 1 ≤ k → k ≤ (m : Int) → (dim y k ≤ cum y m + d - 1 - cum y k ↔ k < m)) := hm
  clear hy hm p1
  go_enter Tryd.func45, Tryd.ntmps45
  go_wp2_with (go_at_call 60; refine (l2time_any _ _).mono ?_; rintro e w' ⟨rfl, rfl⟩)
  go_loopw [4] (fun dd wr => ∃ k : Int, 1970 ≤ k ∧ k ≤ y ∧ dd = .int .i64 (t / 86400 - dby k) ∧ wr = cwd w k 1 0 (t / 3600 % 24) (t / 60 % 60) (t % 60)) (fun _ wr => match wr.cell? ⟨w.heap.size + 1, 0, none⟩ with | some v => (y - intOf v).toNat | none => 0)
  case atStart => exact ⟨1970, by omega, by omega, congrArg (Value.int .i64) (by rw [dby_1970]; omega), rfl⟩
  case round =>
    obtain ⟨k, hk0, hk1, rfl, rfl⟩ := hrel
    have hkb := dby_bd hk0 (by omega)
    have hlp := lp_bd k
    have hs : Hid (dby (k + 1) = dby k + 365 + lp k) := dby_succ k
    unfold cwd
    by_cases hk : k < y
    · have hcond : 365 + lp k ≤ t / 86400 - dby k := by have := (HY.out k).2 hk; have := hs.out; omega
      go_wp2_with (go_at_call 58; refine (l2year_any _ _ (by omega) (by omega)).mono ?_; rintro e w' ⟨rfl, rfl⟩)
      go_roundw
      case rel => exact ⟨k + 1, by omega, by omega, congrArg (Value.int .i64) (by rw [hs.out]; omega), rfl⟩
      case measure => simp [intOf, cwd]; omega
    · obtain rfl : k = y := by omega
      have hcond : ¬ 365 + lp k ≤ t / 86400 - dby k := fun hh => absurd ((HY.out k).1 (by have := hs.out; omega)) (by omega)
      go_wp2_with (go_at_call 58; refine (l2year_any _ _ (by omega) (by omega)).mono ?_; rintro e w' ⟨rfl, rfl⟩)
      clear hcond
      go_loopw [4] (fun dd wr => ∃ j : Nat, 1 ≤ j ∧ j ≤ m ∧ dd = .int .i64 (t / 86400 - dby k - cum k j) ∧ wr = cwd w k j 0 (t / 3600 % 24) (t / 60 % 60) (t % 60)) (fun _ wr => match wr.cell? ⟨w.heap.size + 1, 1, none⟩ with | some v => m - (intOf v).toNat | none => 0)
      case atStart => exact ⟨1, by omega, by omega, congrArg (Value.int .i64) (by simp [cum]), rfl⟩
      case round =>
        obtain ⟨j, hj0, hj1, rfl, rfl⟩ := hrel
        have hcb := cum_bd k j
        have hdj := dim_bd k j
        have hiff : dim k j ≤ t / 86400 - dby k - cum k j ↔ j < m := by
          have := HM.out j (by omega) (by omega)
          have e := HD.out
          omega
        unfold cwd
        by_cases hj : j < m
        · have hs2 : Hid (cum k ((j : Int) + 1) = cum k j + dim k j) := cum_succ k j (by omega) (by omega)
          have hcond := hiff.2 hj
          clear hiff
          go_wp2_with (go_at_call 59; refine (l2days_any _ _ _ (by omega) (by omega)).mono ?_; rintro e w' ⟨rfl, rfl⟩)
          go_roundw
          case rel => exact ⟨j + 1, by omega, by omega, congrArg (Value.int .i64) (by rw [show ((j + 1 : Nat) : Int) = (j : Int) + 1 by omega, hs2.out]; omega), rfl⟩
          case measure => simp [intOf, cwd]; omega
        · obtain rfl : j = m := by omega
          have hcond : ¬ dim k j ≤ t / 86400 - dby k - cum k j := fun hh => hj (hiff.1 hh)
          clear hiff
          go_wp2_with (go_at_call 59; refine (l2days_any _ _ _ (by omega) (by omega)).mono ?_; rintro e w' ⟨rfl, rfl⟩)
          refine bodyPost_ret (v := .tuple #[civ k j (t / 86400 - dby k - cum k j + 1) (t / 3600 % 24) (t / 60 % 60) (t % 60), .bool true]) (by simp [results, Tryd.results45, go_sem]) rfl ⟨?_, below_a2 _ _ _⟩
          exact ret_civ rfl rfl (by have := HD.out; omega) HC.out.1 HC.out.2.1 HC.out.2.2 true
end Go.Proofs.YtffjpidjhcnnmabDoor
namespace Go.Proofs.YtffjpidjhcnnmabDoor
set_option linter.unusedVariables false
set_option linter.unusedSimpArgs false
open Go.RowKit

/-- What spec's l2pad has made, after j rounds. -/
def padB (n j : Nat) : ByteArray := ⟨(List.replicate j 48 ++ Lib.decDigits n).toArray⟩
theorem padB_zero (n : Nat) : padB n 0 = decB n := rfl
theorem padB_succ (n j : Nat) : padB n (j + 1) = ⟨#[48]⟩ ++ padB n j := by
  apply bytes_ext
  show _ = ((⟨#[48]⟩ : ByteArray) ++ padB n j).data.toList
  rw [ByteArray.data_append]
  simp [padB, List.replicate_succ]
theorem padB_size (n j : Nat) : (padB n j).size = j + (Lib.decDigits n).length := by
  show (List.replicate j 48 ++ Lib.decDigits n).toArray.size = _
  simp
theorem padB_end (n p j : Nat) (hp : 1 ≤ p) (hn : n < 10 ^ p) (hj : j = p - (Lib.decDigits n).length) : padB n j = digB n p := by
  obtain ⟨q, rfl⟩ : ∃ q, p = q + 1 := ⟨p - 1, by omega⟩
  have := padL_dec q n hn
  unfold padB digB
  rw [← this, hj]
  rfl
theorem digB_mod (y : Nat) : digB (y % 100) 2 = digB y 2 := by
  unfold digB
  congr 2
  simp only [digL]
  have e1 : y % 100 / 10 ^ 1 % 10 = y / 10 ^ 1 % 10 := by omega
  have e2 : y % 100 / 10 ^ 0 % 10 = y / 10 ^ 0 % 10 := by omega
  rw [e1, e2]
theorem bday_dec (d : Nat) (h : d < 10) : bday d = ⟨#[32]⟩ ++ decB d := by
  unfold bday
  rw [if_pos h, ← padB_zero, padB_end d 1 0 (by omega) (by omega) (by have := dec_len_le 0 d (by omega); have := List.length_pos_iff.2 (decDigits_ne_nil d); omega)]
theorem bday_two (d : Nat) (h : ¬ d < 10) : bday d = digB d 2 := by unfold bday; rw [if_neg h]
set_option maxHeartbeats 1000000 in
theorem l2pad_nat (n p : Nat) (w : World) (hp0 : 1 ≤ p) (hp : p ≤ 4) (hn : n < 10 ^ p) :
    Calls Tryd.prog 46 #[.int .i64 (n : Int), .int .i64 (p : Int)] w fun e w' => e = .returned (.string (digB n p)) ∧ Below w.heap.size w w' := by
  have hn' : n < 10000 := Nat.lt_of_lt_of_le hn (by have : 10 ^ p ≤ 10 ^ 4 := Nat.pow_le_pow_right (by decide) hp
                                                    simpa using this)
  have hlen : (Lib.decDigits n).length ≤ p := by
    obtain ⟨q, rfl⟩ : ∃ q, p = q + 1 := ⟨p - 1, by omega⟩
    exact dec_len_le q n hn
  have hfin := hideB2 (fun j => padB_end n p j hp0 hn)
  have HD := hideB2 (sDecText_nat n w (by omega))
  clear hn
  go_enter Tryd.func46, Tryd.ntmps46
  go_wp2_with fail
  refine HD.out.mono ?_
  rintro e w1 ⟨rfl, hb1⟩
  clear HD
  rw [← padB_zero]
  go_wp2
  go_loop [5] (fun ss => ∃ j : Nat, j + (Lib.decDigits n).length ≤ p ∧ ss = .string (padB n j)) (fun ss => match ss with | .string b => p - b.size | _ => 0)
  case atStart => exact ⟨0, by omega, rfl⟩
  case round =>
    obtain ⟨j, hj, rfl⟩ := hrel
    have hsz := padB_size n j
    by_cases hlt : j + (Lib.decDigits n).length < p
    · have hlt' : ((padB n j).size : Int) < (p : Int) := by omega
      have hup := hideB2 (padB_succ n j)
      have hsz2 := hideB2 (padB_size n (j + 1))
      have HS := hideB2 hsz
      have hb4 : (padB n j).size ≤ 4 := by omega
      clear hsz
      go_wp2
      go_round
      case rel => exact ⟨j + 1, by omega, by rw [hup.out]⟩
      case measure => rw [← hup.out]; show p - (padB n (j + 1)).size < p - (padB n j).size; rw [hsz2.out, HS.out]; omega
    · have hlt' : ¬ ((padB n j).size : Int) < (p : Int) := by omega
      clear hsz
      go_wp2
      go_ret
      exact ⟨ret_str (hfin.out j (by omega)).symm, hb1⟩
theorem l2pad_at (n : Nat) (p : Int) (w : World) (h0 : 1 ≤ p) (h1 : p ≤ 4) (hn : n < 10 ^ p.toNat) :
    Calls Tryd.prog 46 #[.int .i64 (n : Int), .int .i64 p] w fun e w' => e = .returned (.string (digB n p.toNat)) ∧ Below w.heap.size w w' := by
  obtain ⟨q, rfl⟩ := Int.eq_ofNat_of_zero_le (a := p) (by omega)
  exact l2pad_nat n q w (by omega) (by omega) (by simpa using hn)
set_option maxHeartbeats 2000000 in
theorem l2clock_any (y m d : Int) (h i s : Nat) (w : World) (hh : h < 100) (hi : i < 100) (hs : s < 100) :
    Calls Tryd.prog 47 #[civ y m d h i s] w fun e w' => e = .returned (.string (clockB h i s)) ∧ Below w.heap.size w w' := by
  unfold clockB
  have hsz := digB_size
  have hA := below_a1 w (.cells #[.int .i64 y, .int .i64 m, .int .i64 d, .int .i64 h, .int .i64 i, .int .i64 s] 62)
  have gc := civAt_new w y m d h i s 62
  go_enter Tryd.func47, Tryd.ntmps47
  go_wp2
  generalize w.alloc (.cells #[.int .i64 y, .int .i64 m, .int .i64 d, .int .i64 h, .int .i64 i, .int .i64 s] 62) = W at *
  obtain ⟨g0, g1, g2, g3, g4, g5⟩ := gc.grw
  clear gc
  refine wp_region_grow ?_ ?_ ?_
  · kernel_rfl
  · kernel_rfl
  · intro hne
    repeat (go_big_quiet_step ((go_at_call 46; exact grow_call (l2pad_at _ 2 _ (by omega) (by omega) (by first | exact hh | exact hi | exact hs)))))
    refine wpQuiet_nil ?_
    rintro _ ⟨V, rfl⟩
    have hb := below_then hA (grw_below W V)
    go_wp2
    go_ret
    exact ⟨rfl, hb⟩
set_option maxHeartbeats 1000000 in
theorem sWarcDate_no (t : Int) (w : World) (h : ¬ (0 ≤ t ∧ t ≤ 253402300799)) :
    Calls Tryd.prog 29 #[.int .i64 t] w fun e w' => e = .returned (.string ⟨#[]⟩) ∧ Below w.heap.size w w' := by
  go_enter Tryd.func29, Tryd.ntmps29
  go_wp2_with fail
  refine (sCivilOf_no t _ h).mono ?_
  rintro e w1 ⟨rfl, hb1⟩
  have BW := below_then hb1 (below_a1 w1 (.cells #[.int .i64 0, .int .i64 0, .int .i64 0, .int .i64 0, .int .i64 0, .int .i64 0] 62))
  clear hb1 h
  go_wp2
  go_ret
  exact ⟨rfl, BW⟩
set_option maxHeartbeats 4000000 in
theorem sWarcDate_yes (t : Int) (y m d h i s : Nat) (w : World) (hv : vld y m d h i s) (ht : t = secs y m d h i s) :
    Calls Tryd.prog 29 #[.int .i64 t] w fun e w' => e = .returned (.string (warcB y m d h i s)) ∧ Below w.heap.size w w' := by
  have HH := hideB2 (sCivilOf_yes t y m d h i s w hv ht)
  have hb := secs_bd hv
  rw [← ht] at hb
  obtain ⟨ht0, ht1⟩ := hb
  have hdm := dim_bd y m
  obtain ⟨v1, v2, v3, v4, v5, v6, v7, v8, v9, v10, v11, v12⟩ := hv
  have hsz := digB_size
  have hcz := clockB_size h i s
  have hmz := monB_size (k := m) (by omega) (by omega)
  have hwd := wdN_lt t
  have hdz : ((dayB (wdN t)).extract 0 3).size = 3 := dayS_size hwd
  have hbz := bday_size d
  have hDz := dayB_size hwd
  have hD1 : ((dayB (wdN t)).size : Int) ≤ 9 := by omega
  have hD2 : (6 : Int) ≤ ((dayB (wdN t)).size : Int) := by omega
  clear ht hDz
  go_enter Tryd.func29, Tryd.ntmps29
  go_wp2_with fail
  refine HH.out.mono ?_
  rintro e w1 ⟨rfl, hb1⟩
  have BW := below_then hb1 (below_a1 w1 (.cells #[.int .i64 y, .int .i64 m, .int .i64 d, .int .i64 h, .int .i64 i, .int .i64 s] 62))
  have gc := civAt_new w1 y m d h i s 62
  clear hb1 HH
  go_wp2_with fail
  generalize w1.alloc (.cells #[.int .i64 y, .int .i64 m, .int .i64 d, .int .i64 h, .int .i64 i, .int .i64 s] 62) = W at *
  obtain ⟨g0, g1, g2, g3, g4, g5⟩ := gc.grw
  clear gc
  refine wp_region_grow ?_ ?_ ?_
  · kernel_rfl
  · kernel_rfl
  · intro hne
    repeat (go_big_quiet_step (first
      | (go_at_call 46; exact grow_call (l2pad_at _ _ _ (by omega) (by omega) (by simp; omega)))
      | (go_at_call 47; exact grow_call (l2clock_any _ _ _ h i s _ (by omega) (by omega) (by omega)))))
    refine wpQuiet_nil ?_
    rintro _ ⟨V, rfl⟩
    have hb := below_then BW (grw_below W V)
    clear g0 g1 g2 g3 g4 g5
    go_wp2
    go_ret
    exact ⟨rfl, hb⟩
end Go.Proofs.YtffjpidjhcnnmabDoor
namespace Go.Proofs.YtffjpidjhcnnmabDoor
set_option linter.unusedVariables false
set_option linter.unusedSimpArgs false
open Go.RowKit
end Go.Proofs.YtffjpidjhcnnmabDoor
namespace Go.Proofs.YtffjpidjhcnnmabDoor
set_option linter.unusedVariables false
set_option linter.unusedSimpArgs false
open Go.RowKit

theorem wd_eq : wdN' = wdN := rfl
theorem all_snoc (p : UInt8 → Bool) (l : List UInt8) (b : UInt8) : (l ++ [b]).all p = (l.all p && p b) := by rw [List.all_append]; simp
theorem nS_no {s : ByteArray} {k : Nat} (hk : k < s.size) (h : numb (at8 s k) = false) : nS s = -1 := by
  unfold nS numS
  rw [if_neg]
  intro hh
  rw [List.all_eq_true] at hh
  have hl : k < s.data.toList.length := by rw [len_data]; exact hk
  have := hh (s.data.toList[k]) (List.getElem_mem hl)
  have e : at8 s k = s.data.toList[k] := by simp [at8, List.getD, List.getElem?_eq_getElem hl]
  rw [e, this] at h
  cases h
theorem nS_yes {s : ByteArray} (h : s.data.toList.all numb = true) : nS s = ((valN s.data.toList : Nat) : Int) := by unfold nS numS; rw [if_pos h]
set_option maxHeartbeats 1000000 in
theorem l2num_any (s : ByteArray) (w : World) (hs : s.size ≤ 8) :
    Calls Tryd.prog 28 #[.string s] w fun e w' => e = .returned (.int .i64 (nS s)) ∧ w' = w := by
  go_enter Tryd.func28, Tryd.ntmps28
  go_wp2
  go_loop [3, 4] (fun n i => ∃ k : Nat, k ≤ s.size ∧ i = .int .i64 k ∧ n = .int .i64 ((valN (s.data.toList.take k) : Nat) : Int) ∧ (s.data.toList.take k).all numb = true) (fun _ i => s.size - (intOf i).toNat)
  case atStart => exact ⟨0, Nat.zero_le _, rfl, rfl, rfl⟩
  case round =>
    obtain ⟨k, hk, rfl, rfl, hall⟩ := hrel
    have Hall := hideB2 hall
    clear hall
    have hvl : valN (s.data.toList.take k) < 100000000 := by
      have h1 := valN_lt (s.data.toList.take k)
      have h3 : 10 ^ (s.data.toList.take k).length ≤ 10 ^ 8 := Nat.pow_le_pow_right (by decide) (by simp; omega)
      have h4 : (10 : Nat) ^ 8 = 100000000 := by decide
      omega
    by_cases hlt : k < s.size
    · have hval : Hid (valN (s.data.toList.take (k + 1)) = valN (s.data.toList.take k) * 10 + dv (at8 s k)) := by
        show _ = _
        rw [allDig_take_succ s k hlt, valN_snoc]
      have hal2 : Hid ((s.data.toList.take (k + 1)).all numb = numb (at8 s k)) := by
        show _ = _
        rw [allDig_take_succ s k hlt, all_snoc, Hall.out]; rfl
      by_cases hbl : at8 s k = 32
      · have hq : ((s[k].toNat : Int) == 32) = true := by rw [beq_iff_eq, at8_eq s k hlt, hbl]; rfl
        have hdv : Hid (dv (at8 s k) = 0) := by show _ = _; rw [hbl]; decide
        have hnb : Hid (numb (at8 s k) = true) := by show _ = _; rw [hbl]; decide
        clear hbl
        generalize valN (s.data.toList.take k) = v at *
        go_wp2
        go_round
        case rel => exact ⟨k + 1, by omega, by go_num, congrArg (Value.int .i64) (by rw [hval.out, hdv.out]; omega), by rw [hal2.out]; exact hnb.out⟩
        case measure => simp [intOf]; omega
      · have hq : ((s[k].toNat : Int) == 32) = false := by
          rw [beq_eq_false_iff_ne, at8_eq s k hlt]
          intro hh
          apply hbl
          apply UInt8.toNat_inj.1
          show (at8 s k).toNat = 32
          omega
        cases hg0 : dig8 (at8 s k)
        · have hg : digP (s[k].toNat : Int) = false := by rw [at8_eq s k hlt]; exact hg0
          have hfin : Hid (nS s = -1) := nS_no hlt (by unfold numb; rw [hg0]; simp [hbl])
          clear hg0 hbl
          generalize valN (s.data.toList.take k) = v at *
          go_wp2_with (go_at_call 30; refine (l1digit_any _ _).mono ?_; rintro e w' ⟨rfl, rfl⟩)
          go_ret
          exact ⟨ret_int hfin.out, rfl⟩
        · have hg : digP (s[k].toNat : Int) = true := by rw [at8_eq s k hlt]; exact hg0
          have hb := (dig8_iff _).1 hg0
          have hdv : Hid (dv (at8 s k) = s[k].toNat - 48) := by show _ = _; unfold dv; rw [if_pos hg0, at8_eq s k hlt]
          have hnb : Hid (numb (at8 s k) = true) := by show _ = _; unfold numb; rw [hg0]; simp
          have hb1 : 48 ≤ s[k].toNat := by rw [at8_eq s k hlt]; exact hb.1
          have hb2 : s[k].toNat ≤ 57 := by rw [at8_eq s k hlt]; exact hb.2
          clear hg0 hb hbl
          generalize valN (s.data.toList.take k) = v at *
          go_wp2_with (go_at_call 30; refine (l1digit_any _ _).mono ?_; rintro e w' ⟨rfl, rfl⟩)
          go_round
          case rel => exact ⟨k + 1, by omega, by go_num, congrArg (Value.int .i64) (by rw [hval.out, hdv.out]; omega), by rw [hal2.out]; exact hnb.out⟩
          case measure => simp [intOf]; omega
    · obtain rfl : k = s.size := by omega
      have ht : s.data.toList.take s.size = s.data.toList := List.take_of_length_le (by rw [len_data]; exact Nat.le_refl _)
      rw [ht] at Hall ⊢
      have hfin := hideB2 (nS_yes Hall.out)
      clear ht hvl
      generalize valN s.data.toList = v at *
      go_wp2
      go_ret
      exact ⟨ret_int hfin.out, rfl⟩
set_option maxHeartbeats 4000000 in
theorem l2at_no (y m d : Int) (c : ByteArray) (w : World) (hc : c.size = 8) (hv : vldB y m d (nS (c.extract 0 2)) (nS (c.extract 3 5)) (nS (c.extract 6 8)) = false) :
    Calls Tryd.prog 27 #[.int .i64 y, .int .i64 m, .int .i64 d, .string c] w fun e w' => e = .returned (.int .i64 (-1)) ∧ Below w.heap.size w w' := by
  have e0 : (c.extract 0 2).size ≤ 8 := by rw [ext_size c 0 2 (by omega) (by omega)]; omega
  have e1 : (c.extract 3 5).size ≤ 8 := by rw [ext_size c 3 5 (by omega) (by omega)]; omega
  have e2 : (c.extract 6 8).size ≤ 8 := by rw [ext_size c 6 8 (by omega) (by omega)]; omega
  have HS := hideB2 (fun w => sSecondsOf_no y m d (nS (c.extract 0 2)) (nS (c.extract 3 5)) (nS (c.extract 6 8)) w hv)
  clear hv
  go_enter Tryd.func27, Tryd.ntmps27
  go_wp2
  refine wp_region_grow ?_ ?_ ?_
  · kernel_rfl
  · kernel_rfl
  · intro hne
    repeat (go_big_quiet_step (first
      | (go_at_call 28; exact grow_same (l2num_any _ _ (by assumption)))
      | (go_at_call 44; exact grow_call (HS.out _))))
    refine wpQuiet_nil ?_
    rintro _ ⟨V, rfl⟩
    have hb := grw_below w V
    clear HS
    go_wp2
    go_ret
    exact ⟨rfl, hb⟩
set_option maxHeartbeats 4000000 in
theorem l2at_yes (y : Int) (m : Nat) (d h i s : Int) (c : ByteArray) (w : World) (hc : c.size = 8) (h0 : nS (c.extract 0 2) = h) (h1 : nS (c.extract 3 5) = i) (h2 : nS (c.extract 6 8) = s) (hv : vldB y m d h i s = true) :
    Calls Tryd.prog 27 #[.int .i64 y, .int .i64 (m : Int), .int .i64 d, .string c] w fun e w' => e = .returned (.int .i64 (secs y m d h i s)) ∧ Below w.heap.size w w' := by
  subst h0 h1 h2
  have e0 : (c.extract 0 2).size ≤ 8 := by rw [ext_size c 0 2 (by omega) (by omega)]; omega
  have e1 : (c.extract 3 5).size ≤ 8 := by rw [ext_size c 3 5 (by omega) (by omega)]; omega
  have e2 : (c.extract 6 8).size ≤ 8 := by rw [ext_size c 6 8 (by omega) (by omega)]; omega
  have HS := hideB2 (fun w => sSecondsOf_yes y m d (nS (c.extract 0 2)) (nS (c.extract 3 5)) (nS (c.extract 6 8)) w hv)
  clear hv
  go_enter Tryd.func27, Tryd.ntmps27
  go_wp2
  refine wp_region_grow ?_ ?_ ?_
  · kernel_rfl
  · kernel_rfl
  · intro hne
    repeat (go_big_quiet_step (first
      | (go_at_call 28; exact grow_same (l2num_any _ _ (by assumption)))
      | (go_at_call 44; exact grow_call (HS.out _))))
    refine wpQuiet_nil ?_
    rintro _ ⟨V, rfl⟩
    have hb := grw_below w V
    clear HS
    go_wp2
    go_ret
    exact ⟨rfl, hb⟩
end Go.Proofs.YtffjpidjhcnnmabDoor
namespace Go.Proofs.YtffjpidjhcnnmabDoor
set_option linter.unusedVariables false
set_option linter.unusedSimpArgs false
open Go.RowKit
/-- The walk of spec.ReadWarcDate, once it is known what its parts make. -/
theorem sReadWarcDate_at (a x : ByteArray) (t : Int) (w : World) (hsz : a.size = 20) (hxs : x.size ≤ 100)
    (hat : ∀ w, Calls Tryd.prog 27 #[.int .i64 (nS (a.extract 0 4)), .int .i64 (nS (a.extract 5 7)), .int .i64 (nS (a.extract 8 10)), .string (a.extract 11 19)] w fun e w' => e = .returned (.int .i64 t) ∧ Below w.heap.size w w')
    (hwr : ∀ w, Calls Tryd.prog 29 #[.int .i64 t] w fun e w' => e = .returned (.string x) ∧ Below w.heap.size w w') :
    Calls Tryd.prog 15 #[.string a] w fun e w' => e = .returned (.tuple #[.int .i64 (rdT x a t), .bool (eqB x a)]) ∧ Below w.heap.size w w' := by
  have e0 : ((a.extract 0 4)).size ≤ 8 := by rw [ext_size a 0 4 (by omega) (by omega)]; omega
  have e1 : ((a.extract 5 7)).size ≤ 8 := by rw [ext_size a 5 7 (by omega) (by omega)]; omega
  have e2 : ((a.extract 8 10)).size ≤ 8 := by rw [ext_size a 8 10 (by omega) (by omega)]; omega
  have hcs : (a.extract 11 19).size = 8 := by rw [ext_size a 11 19 (by omega) (by omega)]
  have HA := hideB2 hat
  have HW := hideB2 hwr
  clear hat hwr
  have hb : ((a.size : Int) != 20) = false := by rw [bne_eq_false_iff_eq]; omega
  go_enter Tryd.func15, Tryd.ntmps15
  go_wp2
  refine wp_region_grow ?_ ?_ ?_
  · kernel_rfl
  · kernel_rfl
  · intro hne
    repeat (go_big_quiet_step (first
      | (go_at_call 28; exact grow_same (l2num_any _ _ (by assumption)))
      | (go_at_call 27; exact grow_call (HA.out _))))
    refine wpQuiet_nil ?_
    rintro _ ⟨V, rfl⟩
    have hb2 := grw_below w V
    generalize grw w V = W at *
    clear HA
    go_wp2_with fail
    refine (HW.out _).mono ?_
    rintro e w2 ⟨rfl, hb3⟩
    have hb4 := below_then hb2 hb3
    clear hb2 hb3 HW
    cases he : eqB x a
    · have HE : Hid (rdT x a t = 0 ∧ eqB x a = false) := ⟨by unfold rdT; rw [he]; rfl, he⟩
      unfold eqB at he
      go_wp2
      go_ret2
      exact ⟨ret_ib2 HE.out.1 HE.out.2, hb4⟩
    · have HE : Hid (rdT x a t = t ∧ eqB x a = true) := ⟨by unfold rdT; rw [he]; rfl, he⟩
      unfold eqB at he
      go_wp2
      go_ret2
      exact ⟨ret_ib2 HE.out.1 HE.out.2, hb4⟩
set_option maxHeartbeats 1000000 in
theorem sReadWarcDate_size (a : ByteArray) (w : World) (hsz : a.size ≠ 20) :
    Calls Tryd.prog 15 #[.string a] w fun e w' => e = .returned (.tuple #[.int .i64 0, .bool false]) ∧ Below w.heap.size w w' := by
  have hb : ((a.size : Int) != 20) = true := by rw [bne_iff_ne]; omega
  clear hsz
  go_enter Tryd.func15, Tryd.ntmps15
  go_wp2
  go_ret2
  exact ⟨rfl, Below.refl _ _⟩
theorem sReadWarcDate_ex (a : ByteArray) : ∃ t b, Res (IsF 9999 warcF a) t b ∧ ∀ w, Calls Tryd.prog 15 #[.string a] w fun e w' => e = .returned (.tuple #[.int .i64 t, .bool b]) ∧ Below w.heap.size w w' := by
  by_cases hsz : a.size = 20
  · have hr := warc_readsS a
    have e0 : ((a.extract 0 4)).size ≤ 8 := by rw [ext_size a 0 4 (by omega) (by omega)]; omega
    have e1 : ((a.extract 5 7)).size ≤ 8 := by rw [ext_size a 5 7 (by omega) (by omega)]; omega
    have e2 : ((a.extract 8 10)).size ≤ 8 := by rw [ext_size a 8 10 (by omega) (by omega)]; omega
    have hcs : (a.extract 11 19).size = 8 := by rw [ext_size a 11 19 (by omega) (by omega)]
    cases hv : vldB (nS (a.extract 0 4)) (nS (a.extract 5 7)) (nS (a.extract 8 10)) (nS ((a.extract 11 19).extract 0 2)) (nS ((a.extract 11 19).extract 3 5)) (nS ((a.extract 11 19).extract 6 8))
    · have hC := fun w => sReadWarcDate_at a ⟨#[]⟩ (-1) w hsz (by decide) (fun w => l2at_no _ _ _ _ w hcs (by exact hv)) (fun w => sWarcDate_no (-1) w (by omega))
      have hne : eqB ⟨#[]⟩ a = false := Bool.eq_false_iff.2 fun hh => by
        have := congrArg ByteArray.size (eqB_iff.1 hh)
        rw [hsz] at this
        cases this
      refine ⟨0, false, .inr ⟨rfl, rfl, hr.none_of hv⟩, fun w => ?_⟩
      have h' := hC w
      rw [hne, show rdT ⟨#[]⟩ a (-1) = 0 by unfold rdT; rw [hne]; rfl] at h'
      exact h'
    · obtain ⟨y, m, d, h, i, s, e1, e2, e3, e4, e5, e6, v⟩ := nats_of hv
      have hat : ∀ w, Calls Tryd.prog 27 #[.int .i64 (nS (a.extract 0 4)), .int .i64 (nS (a.extract 5 7)), .int .i64 (nS (a.extract 8 10)), .string (a.extract 11 19)] w fun e w' => e = .returned (.int .i64 (secs y m d h i s)) ∧ Below w.heap.size w w' := by
        intro w
        rw [e1, e2, e3]
        exact l2at_yes y m d h i s _ w hcs (by exact e4) (by exact e5) (by exact e6) (vldB_iff.2 v)
      have hC := fun w => sReadWarcDate_at a (warcB y m d h i s) (secs y m d h i s) w hsz (by rw [warc_size]; omega) hat (fun w => sWarcDate_yes _ y m d h i s w v rfl)
      rw [e1, e2, e3, e4, e5, e6] at hr
      cases he : eqB (warcB y m d h i s) a
      · refine ⟨0, false, .inr ⟨rfl, rfl, hr.none_ne fun hh => ?_⟩, fun w => ?_⟩
        · rw [hh] at he
          have := eqB_self (warcB y m d h i s)
          unfold warcF at he
          rw [this] at he
          cases he
        · have h' := hC w
          rw [he, show rdT (warcB y m d h i s) a (secs y m d h i s) = 0 by unfold rdT; rw [he]; rfl] at h'
          exact h'
      · refine ⟨secs y m d h i s, true, .inl ⟨rfl, y, m, d, h, i, s, v, by have := (vbd v).2.1; omega, rfl, (eqB_iff.1 he).symm⟩, fun w => ?_⟩
        have h' := hC w
        rw [he, show rdT (warcB y m d h i s) a (secs y m d h i s) = secs y m d h i s by unfold rdT; rw [he]; rfl] at h'
        exact h'
  · exact ⟨0, false, .inr ⟨rfl, rfl, fun t ⟨y, m, d, h, i, s, _, _, _, ea⟩ => hsz (by rw [ea]; exact warc_size _ _ _ _ _ _)⟩, fun w => sReadWarcDate_size a w hsz⟩
end Go.Proofs.YtffjpidjhcnnmabDoor
namespace Go.Proofs.YtffjpidjhcnnmabDoor
set_option linter.unusedVariables false
set_option linter.unusedSimpArgs false
open Go.RowKit

/-- The value of a digit of sixteen, -1 for any other byte. -/
def hexV (n : Int) : Int := if digP n = true then n - 48 else if 97 ≤ lowI n ∧ lowI n ≤ 102 then lowI n - 87 else -1
def hex8 (b : UInt8) : Int := hexV (b.toNat : Int)
def hval (l : List UInt8) : Int := l.foldl (fun n b => n * 16 + hex8 b) 0
def allHex (l : List UInt8) : Bool := l.all fun b => decide (0 ≤ hex8 b)
def rhexOk (s : ByteArray) : Bool := decide (0 < s.size) && decide (s.size ≤ 7) && allHex s.data.toList
def rhexN (s : ByteArray) : Int := if rhexOk s = true then hval s.data.toList else 0

theorem digP_iff {n : Int} : digP n = true ↔ 48 ≤ n ∧ n ≤ 57 := by unfold digP; simp
theorem hexV_dig {n : Int} (h : digP n = true) : hexV n = n - 48 := by unfold hexV; rw [if_pos h]
theorem hexV_let {n : Int} (h : digP n = false) (h1 : 97 ≤ lowI n) (h2 : lowI n ≤ 102) : hexV n = lowI n - 87 := by
  unfold hexV; rw [if_neg (by simp [h]), if_pos ⟨h1, h2⟩]
theorem hexV_no {n : Int} (h : digP n = false) (h1 : lowI n < 97 ∨ 102 < lowI n) : hexV n = -1 := by
  unfold hexV; rw [if_neg (by simp [h]), if_neg (by omega)]
theorem hexV_bd (n : Int) : -1 ≤ hexV n ∧ hexV n ≤ 15 := by
  unfold hexV
  split
  · rename_i h; rw [digP_iff] at h; omega
  · split <;> omega
theorem digP_low (n : Int) (h0 : 0 ≤ n) : digP (lowI n) = digP n := by
  unfold digP lowI
  by_cases h : 65 ≤ n ∧ n ≤ 90
  · rw [if_pos h]
    have h1 : ¬ n ≤ 57 := by omega
    have h2 : ¬ n + 32 ≤ 57 := by omega
    simp [h1, h2]
  · rw [if_neg h]
theorem lowI_dig {n : Int} (h : digP n = true) : lowI n = n := by
  rw [digP_iff] at h; unfold lowI; rw [if_neg (by omega)]
theorem hval_snoc (l : List UInt8) (b : UInt8) : hval (l ++ [b]) = hval l * 16 + hex8 b := by simp [hval]
theorem hval_bd (l : List UInt8) (h : allHex l = true) : 0 ≤ hval l ∧ hval l < 16 ^ l.length := by
  revert h
  refine snoc_ind (p := fun l => allHex l = true → 0 ≤ hval l ∧ hval l < 16 ^ l.length) ?_ ?_ l
  · intro _; simp [hval]
  · intro q b ih h
    have hq : allHex q = true := by unfold allHex at h ⊢; rw [List.all_append] at h; simp at h; simpa using h.1
    have hb : 0 ≤ hex8 b := by unfold allHex at h; rw [List.all_append] at h; simp at h; exact h.2
    have hb2 := (hexV_bd (b.toNat : Int)).2
    have := ih hq
    have hb3 : hex8 b ≤ 15 := hb2
    rw [hval_snoc, List.length_append, List.length_singleton, Int.pow_succ]
    omega
theorem allHex_snoc (l : List UInt8) (b : UInt8) (h : allHex l = true) (hb : 0 ≤ hex8 b) : allHex (l ++ [b]) = true := by
  unfold allHex at *
  rw [List.all_append, h]
  simp [hb]
theorem allHex_no (s : ByteArray) (k : Nat) (hk : k < s.size) (h : hex8 (at8 s k) < 0) : allHex s.data.toList = false := by
  have hl : k < s.data.toList.length := by rw [len_data]; exact hk
  unfold allHex
  rw [List.all_eq_false]
  refine ⟨s.data.toList[k], List.getElem_mem hl, ?_⟩
  simp [at8, List.getD, List.getElem?_eq_getElem hl] at h
  simpa using h
theorem rhex_size {s : ByteArray} (h : s.size = 0 ∨ 7 < s.size) : rhexN s = 0 ∧ rhexOk s = false := by
  have : rhexOk s = false := by
    unfold rhexOk
    rcases h with h | h
    · simp [h]
    · simp [show ¬ s.size ≤ 7 by omega]
  exact ⟨by simp [rhexN, this], this⟩
theorem rhex_no {s : ByteArray} {k : Nat} (hk : k < s.size) (h : hex8 (at8 s k) < 0) : rhexN s = 0 ∧ rhexOk s = false := by
  have : rhexOk s = false := by unfold rhexOk; simp [allHex_no s k hk h]
  exact ⟨by simp [rhexN, this], this⟩
theorem rhex_yes {s : ByteArray} (h0 : 0 < s.size) (h1 : s.size ≤ 7) (h : allHex s.data.toList = true) : rhexN s = hval s.data.toList ∧ rhexOk s = true := by
  have : rhexOk s = true := by unfold rhexOk; simp [h0, h1, h]
  exact ⟨by simp [rhexN, this], this⟩
theorem hval_small (s : ByteArray) (k : Nat) (hk : k ≤ 7) (h : allHex (s.data.toList.take k) = true) : 0 ≤ hval (s.data.toList.take k) ∧ hval (s.data.toList.take k) < 268435456 := by
  have h1 := hval_bd _ h
  have h2 : (s.data.toList.take k).length ≤ 7 := by simp; omega
  have h3' : (16 : Nat) ^ (s.data.toList.take k).length ≤ 16 ^ 7 := Nat.pow_le_pow_right (by decide) h2
  have h3 : (16 : Int) ^ (s.data.toList.take k).length ≤ 16 ^ 7 := by exact_mod_cast h3'
  have h4 : (16 : Int) ^ 7 = 268435456 := by decide
  omega
end Go.Proofs.YtffjpidjhcnnmabDoor
namespace Go.Proofs.YtffjpidjhcnnmabDoor
set_option linter.unusedVariables false
set_option linter.unusedSimpArgs false
open Go.RowKit

theorem ret_ib6 {k : IntKind} {n m : Int} {a b : Bool} (h : m = n) (h' : b = a) : Ending.returned (.tuple #[.int k n, .bool a]) = .returned (.tuple #[.int k m, .bool b]) := by rw [h, h']
theorem hexV_neg {n : Int} (h : hexV n < 0) : digP n = false ∧ (lowI n < 97 ∨ 102 < lowI n) := by
  unfold hexV at h
  split at h
  · rename_i hd; rw [digP_iff] at hd; omega
  · rename_i hd
    split at h
    · omega
    · exact ⟨by simpa using hd, by omega⟩
theorem hexV_pos {n : Int} (h : 0 ≤ hexV n) : (digP n = true ∧ hexV n = n - 48) ∨ (digP n = false ∧ 97 ≤ lowI n ∧ lowI n ≤ 102 ∧ hexV n = lowI n - 87) := by
  cases hd : digP n
  · right
    by_cases hl : 97 ≤ lowI n ∧ lowI n ≤ 102
    · exact ⟨rfl, hl.1, hl.2, hexV_let hd hl.1 hl.2⟩
    · rw [hexV_no hd (by omega)] at h; omega
  · left; exact ⟨rfl, hexV_dig hd⟩
end Go.Proofs.YtffjpidjhcnnmabDoor
