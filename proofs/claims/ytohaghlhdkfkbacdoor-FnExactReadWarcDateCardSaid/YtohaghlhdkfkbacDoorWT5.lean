/-
  The walks over chapter 2: spec.LineDate.
-/
import Derived.Test.YtohaghlhdkfkbacDoorWT4
namespace Go.Proofs.YtohaghlhdkfkbacDoor
set_option linter.unusedVariables false
set_option linter.unusedSimpArgs false
open Go.RowKit
set_option maxHeartbeats 1000000 in
theorem sLineDate_no (t : Int) (w : World) (h : ¬ (0 ≤ t ∧ t ≤ 253402300799)) :
    Calls Tryd.prog 22 #[.int .i64 t] w fun e w' => e = .returned (.string ⟨#[]⟩) ∧ Below w.heap.size w w' := by
  go_enter Tryd.func22, Tryd.ntmps22
  go_wp2_with fail
  refine (sCivilOf_no t _ h).mono ?_
  rintro e w1 ⟨rfl, hb1⟩
  have BW := below_then hb1 (below_a1 w1 (.cells #[.int .i64 0, .int .i64 0, .int .i64 0, .int .i64 0, .int .i64 0, .int .i64 0] 31))
  clear hb1 h
  go_wp2
  go_ret
  exact ⟨rfl, BW⟩
set_option maxHeartbeats 4000000 in
theorem sLineDate_yes (t : Int) (y m d h i s : Nat) (w : World) (hv : vld y m d h i s) (ht : t = secs y m d h i s) :
    Calls Tryd.prog 22 #[.int .i64 t] w fun e w' => e = .returned (.string (lineB (wdN t) y m d h i s)) ∧ Below w.heap.size w w' := by
  have HH := hideB2 (sCivilOf_yes t y m d h i s w hv ht)
  have hb := secs_bd hv
  rw [← ht] at hb
  obtain ⟨ht0, ht1⟩ := hb
  have hdm := dim_bd y m
  obtain ⟨v1, v2, v3, v4, v5, v6, v7, v8, v9, v10, v11, v12⟩ := hv
  have hsz := digB_size
  have hcz := clockB_size h i s
  have hmz := monB_size (k := m) (by omega) (by omega)
  have hwd := wdN_lt t
  have hdz : ((dayB (wdN t)).extract 0 3).size = 3 := dayS_size hwd
  have hbz := bday_size d
  have hDz := dayB_size hwd
  have hD1 : ((dayB (wdN t)).size : Int) ≤ 9 := by omega
  have hD2 : (6 : Int) ≤ ((dayB (wdN t)).size : Int) := by omega
  clear ht hDz
  go_enter Tryd.func22, Tryd.ntmps22
  go_wp2_with fail
  refine HH.out.mono ?_
  rintro e w1 ⟨rfl, hb1⟩
  have BW := below_then hb1 (below_a1 w1 (.cells #[.int .i64 y, .int .i64 m, .int .i64 d, .int .i64 h, .int .i64 i, .int .i64 s] 31))
  have gc := civAt_new w1 y m d h i s 31
  clear hb1 HH
  go_wp2_with fail
  generalize w1.alloc (.cells #[.int .i64 y, .int .i64 m, .int .i64 d, .int .i64 h, .int .i64 i, .int .i64 s] 31) = W at *
  refine (l2pad_at d 2 _ (by omega) (by omega) (by simp; omega)).mono ?_
  rintro e w2 ⟨rfl, hb2⟩
  have gc2 := gc.below hb2
  have BW2 := below_then BW hb2
  clear gc BW hb2
  by_cases hd : d < 10
  · have HB := hideB2 (bday_dec d hd)
    have hdl : (decB d).size ≤ 15 := decDigits_len d (by omega)
    obtain ⟨c0, c1, c2, c3, c4, c5⟩ := gc2
    have gc3 := hideB2 (show CivAt w2 w1.heap.size y m d h i s from ⟨c0, c1, c2, c3, c4, c5⟩)
    go_wp2_with fail
    refine (sDecText_nat d _ (by omega)).mono ?_
    rintro e w3 ⟨rfl, hb3⟩
    have gc4 := gc3.out.below hb3
    have BW3 := below_then BW2 hb3
    clear hb3 BW2 gc3 c0 c1 c2 c3 c4 c5
    go_wp2_with fail
    rw [← HB.out]
    obtain ⟨g0, g1, g2, g3, g4, g5⟩ := gc4.grw
    clear gc4
    refine wp_region_grow ?_ ?_ ?_
    · kernel_rfl
    · kernel_rfl
    · intro hne
      repeat (go_big_quiet_step (first
        | (go_at_call 32; exact grow_call (l2pad_at _ _ _ (by omega) (by omega) (by simp; omega)))
        | (go_at_call 33; exact grow_call (l2clock_any _ _ _ h i s _ (by omega) (by omega) (by omega)))
        | (go_at_call 43; exact grow_same (sWeekday_yes t _ ht0 ht1))
        | (go_at_call 42; exact grow_same (l2dayName_any _ _ hwd))
        | (go_at_call 41; exact grow_same (l2monthName_any _ _ (by omega) (by omega)))))
      refine wpQuiet_nil ?_
      rintro _ ⟨V, rfl⟩
      have hb := below_then BW3 (grw_below w3 V)
      clear g0 g1 g2 g3 g4 g5
      go_wp2
      go_ret
      exact ⟨rfl, hb⟩
  · have HB := hideB2 (bday_two d hd)
    obtain ⟨c0, c1, c2, c3, c4, c5⟩ := gc2
    have gc3 := hideB2 (show CivAt w2 w1.heap.size y m d h i s from ⟨c0, c1, c2, c3, c4, c5⟩)
    go_wp2_with fail
    have gc4 := gc3.out
    clear c0 c1 c2 c3 c4 c5 gc3
    obtain ⟨g0, g1, g2, g3, g4, g5⟩ := gc4.grw
    clear gc4
    refine wp_region_grow ?_ ?_ ?_
    · kernel_rfl
    · kernel_rfl
    · intro hne
      repeat (go_big_quiet_step (first
        | (go_at_call 32; exact grow_call (l2pad_at _ _ _ (by omega) (by omega) (by simp; omega)))
        | (go_at_call 33; exact grow_call (l2clock_any _ _ _ h i s _ (by omega) (by omega) (by omega)))
        | (go_at_call 43; exact grow_same (sWeekday_yes t _ ht0 ht1))
        | (go_at_call 42; exact grow_same (l2dayName_any _ _ hwd))
        | (go_at_call 41; exact grow_same (l2monthName_any _ _ (by omega) (by omega)))))
      refine wpQuiet_nil ?_
      rintro _ ⟨V, rfl⟩
      have hb := below_then BW2 (grw_below w2 V)
      clear g0 g1 g2 g3 g4 g5
      go_wp2
      go_ret
      exact ⟨ret_str (by unfold lineB; rw [HB.out]; rfl), hb⟩
end Go.Proofs.YtohaghlhdkfkbacDoor
