/-
  The walks over chapter 2: the five texts of impl.
-/
import Derived.Test.YtohaghlhdkfkbaaDoorWT2
namespace Go.Proofs.YtohaghlhdkfkbaaDoor
set_option linter.unusedVariables false
set_option linter.unusedSimpArgs false
open Go.RowKit

set_option maxHeartbeats 1000000 in
theorem blankedDay_any (d : Nat) (w : World) (hd : d ≤ 1000) :
    Calls Tryd.prog 53 #[.int .i64 (d : Int)] w fun e w' => e = .returned (.string (bday d)) ∧ Below w.heap.size w w' := by
  have hsz := digB_size
  by_cases h : d < 10
  · have hb : Hid (bday d = ⟨#[32]⟩ ++ digB d 1) := by show _ = _; unfold bday; rw [if_pos h]
    go_enter Tryd.func53, Tryd.ntmps53
    go_wp2_with fail
    refine (digits_any d 1 _ (by omega) (by omega) (by omega)).mono ?_
    rintro e w1 ⟨rfl, hb1⟩
    go_wp2
    go_ret
    exact ⟨ret_str hb.out, hb1⟩
  · have hb : Hid (bday d = digB d 2) := by show _ = _; unfold bday; rw [if_neg h]
    go_enter Tryd.func53, Tryd.ntmps53
    go_wp2_with fail
    refine (digits_any d 2 _ (by omega) (by omega) (by omega)).mono ?_
    rintro e w1 ⟨rfl, hb1⟩
    go_wp2
    go_ret
    exact ⟨ret_str hb.out, hb1⟩
set_option maxHeartbeats 1000000 in
theorem shortDay_any (t : Int) (w : World) (h0 : 0 ≤ t) (h1 : t ≤ 253402300799) (hD : DayTab w) :
    Calls Tryd.prog 46 #[.int .i64 t] w fun e w' => e = .returned (.string (dayS (wdN t))) ∧ w' = w := by
  have hk := wdN_lt t
  have hc := hD (wdN t) hk
  have hs := dayB_size hk
  have hfin : Hid (dayS (wdN t) = (dayB (wdN t)).extract 0 3) := rfl
  clear hD
  go_enter Tryd.func46, Tryd.ntmps46
  go_wp2_with fail
  refine (Weekday_yes t _ h0 h1).mono ?_
  rintro e w1 ⟨rfl, rfl⟩
  go_wp2
  go_ret
  exact ⟨ret_str hfin.out, rfl⟩
set_option maxHeartbeats 1000000 in
theorem HttpDate_no (t : Int) (w : World) (h : ¬ (0 ≤ t ∧ t ≤ 253402300799)) :
    Calls Tryd.prog 14 #[.int .i64 t] w fun e w' => e = .returned (.string ⟨#[]⟩) ∧ Below w.heap.size w w' := by
  go_enter Tryd.func14, Tryd.ntmps14
  go_wp2_with fail
  refine (CivilOf_no t _ h).mono ?_
  rintro e w1 ⟨rfl, hb1⟩
  have BW := below_then hb1 (below_a1 w1 (.cells #[.int .i64 0, .int .i64 0, .int .i64 0, .int .i64 0, .int .i64 0, .int .i64 0] 30))
  clear hb1 h
  go_wp2
  go_ret
  exact ⟨rfl, BW⟩
set_option maxHeartbeats 4000000 in
theorem HttpDate_yes (t : Int) (y m d h i s : Nat) (w : World) (hT : Tabs w) (hv : vld y m d h i s) (ht : t = secs y m d h i s) :
    Calls Tryd.prog 14 #[.int .i64 t] w fun e w' => e = .returned (.string (httpB (wdN t) y m d h i s)) ∧ Below w.heap.size w w' := by
  have HH := hideB2 (CivilOf_yes t y m d h i s w hT.mon hv ht)
  have hb := secs_bd hv
  rw [← ht] at hb
  obtain ⟨ht0, ht1⟩ := hb
  have hdm := dim_bd y m
  obtain ⟨v1, v2, v3, v4, v5, v6, v7, v8, v9, v10, v11, v12⟩ := hv
  have hsz := digB_size
  have hcz := clockB_size h i s
  have hmz := monB_size (k := m) (by omega) (by omega)
  have hwd := wdN_lt t
  have hdz := dayS_size hwd
  have hbz := bday_size d
  have hDz := dayB_size hwd
  have hD1 : ((dayB (wdN t)).size : Int) ≤ 9 := by omega
  clear ht hDz
  go_enter Tryd.func14, Tryd.ntmps14
  go_wp2_with fail
  refine HH.out.mono ?_
  rintro e w1 ⟨rfl, hb1⟩
  have BW := below_then hb1 (below_a1 w1 (.cells #[.int .i64 y, .int .i64 m, .int .i64 d, .int .i64 h, .int .i64 i, .int .i64 s] 30))
  have hT1 := hT.below BW
  have gc := civAt_new w1 y m d h i s 30
  clear hb1 hT HH
  go_wp2_with fail
  generalize w1.alloc (.cells #[.int .i64 y, .int .i64 m, .int .i64 d, .int .i64 h, .int .i64 i, .int .i64 s] 30) = W at *
  have hT := hT1
  obtain ⟨g0, g1, g2, g3, g4, g5⟩ := gc.grw
  have gn := grw_some (hT.nam m (by omega))
  have gd := grw_some (hT.day (wdN t) hwd)
  clear gc hT1
  refine wp_region_grow ?_ ?_ ?_
  · kernel_rfl
  · kernel_rfl
  · intro hne
    repeat (go_big_quiet_step (first
      | (go_at_call 47; exact grow_call (digits_at _ _ _ (by omega) (by omega) (by omega)))
      | (go_at_call 48; exact grow_call (clockText_any _ _ _ h i s _ (by omega) (by omega) (by omega)))
      | (go_at_call 46; exact grow_same (shortDay_any t _ ht0 ht1 (hT.grw _).day))))
    refine wpQuiet_nil ?_
    rintro _ ⟨V, rfl⟩
    have hb := below_then BW (grw_below W V)
    clear gn gd g0 g1 g2 g3 g4 g5 hT
    go_wp2
    go_ret
    exact ⟨rfl, hb⟩
set_option maxHeartbeats 1000000 in
theorem LongDate_no (t : Int) (w : World) (h : ¬ (0 ≤ t ∧ t ≤ 253402300799)) :
    Calls Tryd.prog 22 #[.int .i64 t] w fun e w' => e = .returned (.string ⟨#[]⟩) ∧ Below w.heap.size w w' := by
  go_enter Tryd.func22, Tryd.ntmps22
  go_wp2_with fail
  refine (CivilOf_no t _ h).mono ?_
  rintro e w1 ⟨rfl, hb1⟩
  have BW := below_then hb1 (below_a1 w1 (.cells #[.int .i64 0, .int .i64 0, .int .i64 0, .int .i64 0, .int .i64 0, .int .i64 0] 30))
  clear hb1 h
  go_wp2
  go_ret
  exact ⟨rfl, BW⟩
set_option maxHeartbeats 4000000 in
theorem LongDate_yes (t : Int) (y m d h i s : Nat) (w : World) (hT : Tabs w) (hv : vld y m d h i s) (ht : t = secs y m d h i s) (hy : y ≤ 2069) :
    Calls Tryd.prog 22 #[.int .i64 t] w fun e w' => e = .returned (.string (longB (wdN t) y m d h i s)) ∧ Below w.heap.size w w' := by
  have HH := hideB2 (CivilOf_yes t y m d h i s w hT.mon hv ht)
  have hb := secs_bd hv
  rw [← ht] at hb
  obtain ⟨ht0, ht1⟩ := hb
  have hdm := dim_bd y m
  obtain ⟨v1, v2, v3, v4, v5, v6, v7, v8, v9, v10, v11, v12⟩ := hv
  have hsz := digB_size
  have hcz := clockB_size h i s
  have hmz := monB_size (k := m) (by omega) (by omega)
  have hwd := wdN_lt t
  have hdz := dayS_size hwd
  have hbz := bday_size d
  have hDz := dayB_size hwd
  have hD1 : ((dayB (wdN t)).size : Int) ≤ 9 := by omega
  clear ht hDz
  go_enter Tryd.func22, Tryd.ntmps22
  go_wp2_with fail
  refine HH.out.mono ?_
  rintro e w1 ⟨rfl, hb1⟩
  have BW := below_then hb1 (below_a1 w1 (.cells #[.int .i64 y, .int .i64 m, .int .i64 d, .int .i64 h, .int .i64 i, .int .i64 s] 30))
  have hT1 := hT.below BW
  have gc := civAt_new w1 y m d h i s 30
  clear hb1 hT HH
  go_wp2_with fail
  generalize w1.alloc (.cells #[.int .i64 y, .int .i64 m, .int .i64 d, .int .i64 h, .int .i64 i, .int .i64 s] 30) = W at *
  have hT := hT1
  obtain ⟨g0, g1, g2, g3, g4, g5⟩ := gc.grw
  have gn := grw_some (hT.nam m (by omega))
  have gd := grw_some (hT.day (wdN t) hwd)
  clear gc hT1
  refine wp_region_grow ?_ ?_ ?_
  · kernel_rfl
  · kernel_rfl
  · intro hne
    repeat (go_big_quiet_step (first
      | (go_at_call 47; exact grow_call (digits_at _ _ _ (by omega) (by omega) (by omega)))
      | (go_at_call 48; exact grow_call (clockText_any _ _ _ h i s _ (by omega) (by omega) (by omega)))
      | (go_at_call 25; exact grow_same (Weekday_yes t _ ht0 ht1))))
    refine wpQuiet_nil ?_
    rintro _ ⟨V, rfl⟩
    have hb := below_then BW (grw_below W V)
    clear gn gd g0 g1 g2 g3 g4 g5 hT
    go_wp2
    go_ret
    exact ⟨rfl, hb⟩
set_option maxHeartbeats 1000000 in
theorem LineDate_no (t : Int) (w : World) (h : ¬ (0 ≤ t ∧ t ≤ 253402300799)) :
    Calls Tryd.prog 19 #[.int .i64 t] w fun e w' => e = .returned (.string ⟨#[]⟩) ∧ Below w.heap.size w w' := by
  go_enter Tryd.func19, Tryd.ntmps19
  go_wp2_with fail
  refine (CivilOf_no t _ h).mono ?_
  rintro e w1 ⟨rfl, hb1⟩
  have BW := below_then hb1 (below_a1 w1 (.cells #[.int .i64 0, .int .i64 0, .int .i64 0, .int .i64 0, .int .i64 0, .int .i64 0] 30))
  clear hb1 h
  go_wp2
  go_ret
  exact ⟨rfl, BW⟩
set_option maxHeartbeats 4000000 in
theorem LineDate_yes (t : Int) (y m d h i s : Nat) (w : World) (hT : Tabs w) (hv : vld y m d h i s) (ht : t = secs y m d h i s) :
    Calls Tryd.prog 19 #[.int .i64 t] w fun e w' => e = .returned (.string (lineB (wdN t) y m d h i s)) ∧ Below w.heap.size w w' := by
  have HH := hideB2 (CivilOf_yes t y m d h i s w hT.mon hv ht)
  have hb := secs_bd hv
  rw [← ht] at hb
  obtain ⟨ht0, ht1⟩ := hb
  have hdm := dim_bd y m
  obtain ⟨v1, v2, v3, v4, v5, v6, v7, v8, v9, v10, v11, v12⟩ := hv
  have hsz := digB_size
  have hcz := clockB_size h i s
  have hmz := monB_size (k := m) (by omega) (by omega)
  have hwd := wdN_lt t
  have hdz := dayS_size hwd
  have hbz := bday_size d
  have hDz := dayB_size hwd
  have hD1 : ((dayB (wdN t)).size : Int) ≤ 9 := by omega
  clear ht hDz
  go_enter Tryd.func19, Tryd.ntmps19
  go_wp2_with fail
  refine HH.out.mono ?_
  rintro e w1 ⟨rfl, hb1⟩
  have BW := below_then hb1 (below_a1 w1 (.cells #[.int .i64 y, .int .i64 m, .int .i64 d, .int .i64 h, .int .i64 i, .int .i64 s] 30))
  have hT1 := hT.below BW
  have gc := civAt_new w1 y m d h i s 30
  clear hb1 hT HH
  go_wp2_with fail
  generalize w1.alloc (.cells #[.int .i64 y, .int .i64 m, .int .i64 d, .int .i64 h, .int .i64 i, .int .i64 s] 30) = W at *
  have hT := hT1
  obtain ⟨g0, g1, g2, g3, g4, g5⟩ := gc.grw
  have gn := grw_some (hT.nam m (by omega))
  have gd := grw_some (hT.day (wdN t) hwd)
  clear gc hT1
  refine wp_region_grow ?_ ?_ ?_
  · kernel_rfl
  · kernel_rfl
  · intro hne
    repeat (go_big_quiet_step (first
      | (go_at_call 47; exact grow_call (digits_at _ _ _ (by omega) (by omega) (by omega)))
      | (go_at_call 48; exact grow_call (clockText_any _ _ _ h i s _ (by omega) (by omega) (by omega)))
      | (go_at_call 46; exact grow_same (shortDay_any t _ ht0 ht1 (hT.grw _).day))
      | (go_at_call 53; exact grow_call (blankedDay_any _ _ (by omega)))))
    refine wpQuiet_nil ?_
    rintro _ ⟨V, rfl⟩
    have hb := below_then BW (grw_below W V)
    clear gn gd g0 g1 g2 g3 g4 g5 hT
    go_wp2
    go_ret
    exact ⟨rfl, hb⟩
set_option maxHeartbeats 1000000 in
theorem WarcDate_no (t : Int) (w : World) (h : ¬ (0 ≤ t ∧ t ≤ 253402300799)) :
    Calls Tryd.prog 15 #[.int .i64 t] w fun e w' => e = .returned (.string ⟨#[]⟩) ∧ Below w.heap.size w w' := by
  go_enter Tryd.func15, Tryd.ntmps15
  go_wp2_with fail
  refine (CivilOf_no t _ h).mono ?_
  rintro e w1 ⟨rfl, hb1⟩
  have BW := below_then hb1 (below_a1 w1 (.cells #[.int .i64 0, .int .i64 0, .int .i64 0, .int .i64 0, .int .i64 0, .int .i64 0] 30))
  clear hb1 h
  go_wp2
  go_ret
  exact ⟨rfl, BW⟩
set_option maxHeartbeats 4000000 in
theorem WarcDate_yes (t : Int) (y m d h i s : Nat) (w : World) (hT : MonTab w) (hv : vld y m d h i s) (ht : t = secs y m d h i s) :
    Calls Tryd.prog 15 #[.int .i64 t] w fun e w' => e = .returned (.string (warcB y m d h i s)) ∧ Below w.heap.size w w' := by
  have HH := hideB2 (CivilOf_yes t y m d h i s w hT hv ht)
  have hb := secs_bd hv
  rw [← ht] at hb
  obtain ⟨ht0, ht1⟩ := hb
  have hdm := dim_bd y m
  obtain ⟨v1, v2, v3, v4, v5, v6, v7, v8, v9, v10, v11, v12⟩ := hv
  have hsz := digB_size
  have hcz := clockB_size h i s
  have hmz := monB_size (k := m) (by omega) (by omega)
  have hwd := wdN_lt t
  have hdz := dayS_size hwd
  have hbz := bday_size d
  have hDz := dayB_size hwd
  have hD1 : ((dayB (wdN t)).size : Int) ≤ 9 := by omega
  clear ht hDz
  go_enter Tryd.func15, Tryd.ntmps15
  go_wp2_with fail
  refine HH.out.mono ?_
  rintro e w1 ⟨rfl, hb1⟩
  have BW := below_then hb1 (below_a1 w1 (.cells #[.int .i64 y, .int .i64 m, .int .i64 d, .int .i64 h, .int .i64 i, .int .i64 s] 30))
  have hT1 := hT.below BW
  have gc := civAt_new w1 y m d h i s 30
  clear hb1 hT HH
  go_wp2_with fail
  generalize w1.alloc (.cells #[.int .i64 y, .int .i64 m, .int .i64 d, .int .i64 h, .int .i64 i, .int .i64 s] 30) = W at *
  have hT := hT1
  obtain ⟨g0, g1, g2, g3, g4, g5⟩ := gc.grw
  clear gc hT1
  refine wp_region_grow ?_ ?_ ?_
  · kernel_rfl
  · kernel_rfl
  · intro hne
    repeat (go_big_quiet_step (first
      | (go_at_call 47; exact grow_call (digits_at _ _ _ (by omega) (by omega) (by omega)))
      | (go_at_call 48; exact grow_call (clockText_any _ _ _ h i s _ (by omega) (by omega) (by omega)))))
    refine wpQuiet_nil ?_
    rintro _ ⟨V, rfl⟩
    have hb := below_then BW (grw_below W V)
    clear g0 g1 g2 g3 g4 g5 hT
    go_wp2
    go_ret
    exact ⟨rfl, hb⟩
set_option maxHeartbeats 1000000 in
theorem Stamp_no (t : Int) (w : World) (h : ¬ (0 ≤ t ∧ t ≤ 253402300799)) :
    Calls Tryd.prog 16 #[.int .i64 t] w fun e w' => e = .returned (.string ⟨#[]⟩) ∧ Below w.heap.size w w' := by
  go_enter Tryd.func16, Tryd.ntmps16
  go_wp2_with fail
  refine (CivilOf_no t _ h).mono ?_
  rintro e w1 ⟨rfl, hb1⟩
  have BW := below_then hb1 (below_a1 w1 (.cells #[.int .i64 0, .int .i64 0, .int .i64 0, .int .i64 0, .int .i64 0, .int .i64 0] 30))
  clear hb1 h
  go_wp2
  go_ret
  exact ⟨rfl, BW⟩
set_option maxHeartbeats 4000000 in
theorem Stamp_yes (t : Int) (y m d h i s : Nat) (w : World) (hT : MonTab w) (hv : vld y m d h i s) (ht : t = secs y m d h i s) :
    Calls Tryd.prog 16 #[.int .i64 t] w fun e w' => e = .returned (.string (stampB y m d h i s)) ∧ Below w.heap.size w w' := by
  have HH := hideB2 (CivilOf_yes t y m d h i s w hT hv ht)
  have hb := secs_bd hv
  rw [← ht] at hb
  obtain ⟨ht0, ht1⟩ := hb
  have hdm := dim_bd y m
  obtain ⟨v1, v2, v3, v4, v5, v6, v7, v8, v9, v10, v11, v12⟩ := hv
  have hsz := digB_size
  have hcz := clockB_size h i s
  have hmz := monB_size (k := m) (by omega) (by omega)
  have hwd := wdN_lt t
  have hdz := dayS_size hwd
  have hbz := bday_size d
  have hDz := dayB_size hwd
  have hD1 : ((dayB (wdN t)).size : Int) ≤ 9 := by omega
  clear ht hDz
  go_enter Tryd.func16, Tryd.ntmps16
  go_wp2_with fail
  refine HH.out.mono ?_
  rintro e w1 ⟨rfl, hb1⟩
  have BW := below_then hb1 (below_a1 w1 (.cells #[.int .i64 y, .int .i64 m, .int .i64 d, .int .i64 h, .int .i64 i, .int .i64 s] 30))
  have hT1 := hT.below BW
  have gc := civAt_new w1 y m d h i s 30
  clear hb1 hT HH
  go_wp2_with fail
  generalize w1.alloc (.cells #[.int .i64 y, .int .i64 m, .int .i64 d, .int .i64 h, .int .i64 i, .int .i64 s] 30) = W at *
  have hT := hT1
  obtain ⟨g0, g1, g2, g3, g4, g5⟩ := gc.grw
  clear gc hT1
  refine wp_region_grow ?_ ?_ ?_
  · kernel_rfl
  · kernel_rfl
  · intro hne
    repeat (go_big_quiet_step (first
      | (go_at_call 47; exact grow_call (digits_at _ _ _ (by omega) (by omega) (by omega)))
      | (go_at_call 48; exact grow_call (clockText_any _ _ _ h i s _ (by omega) (by omega) (by omega)))))
    refine wpQuiet_nil ?_
    rintro _ ⟨V, rfl⟩
    have hb := below_then BW (grw_below W V)
    clear g0 g1 g2 g3 g4 g5 hT
    go_wp2
    go_ret
    exact ⟨rfl, hb⟩
set_option maxHeartbeats 4000000 in
theorem LongDate_late (t : Int) (y m d h i s : Nat) (w : World) (hM : MonTab w) (hv : vld y m d h i s) (ht : t = secs y m d h i s) (hy : 2069 < y) :
    Calls Tryd.prog 22 #[.int .i64 t] w fun e w' => e = .returned (.string ⟨#[]⟩) ∧ Below w.heap.size w w' := by
  have HH := hideB2 (CivilOf_yes t y m d h i s w hM hv ht)
  clear hv ht hM
  go_enter Tryd.func22, Tryd.ntmps22
  go_wp2_with fail
  refine HH.out.mono ?_
  rintro e w1 ⟨rfl, hb1⟩
  have BW := below_then hb1 (below_a1 w1 (.cells #[.int .i64 y, .int .i64 m, .int .i64 d, .int .i64 h, .int .i64 i, .int .i64 s] 30))
  clear hb1
  go_wp2
  go_ret
  exact ⟨rfl, BW⟩
end Go.Proofs.YtohaghlhdkfkbaaDoor
