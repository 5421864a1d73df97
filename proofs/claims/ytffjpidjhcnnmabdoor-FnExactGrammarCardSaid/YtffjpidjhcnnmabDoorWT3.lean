/-
  The walks over chapter 2: the five texts of impl.
-/
import Derived.Test.YtffjpidjhcnnmabDoorWT2
namespace Go.Proofs.YtffjpidjhcnnmabDoor
set_option linter.unusedVariables false
set_option linter.unusedSimpArgs false
open Go.RowKit

set_option maxHeartbeats 1000000 in
theorem WarcDate_no (t : Int) (w : World) (h : ¬ (0 ≤ t ∧ t ≤ 253402300799)) :
    Calls Tryd.prog 54 #[.int .i64 t] w fun e w' => e = .returned (.string ⟨#[]⟩) ∧ Below w.heap.size w w' := by
  go_enter Tryd.func54, Tryd.ntmps54
  go_wp2_with fail
  refine (CivilOf_no t _ h).mono ?_
  rintro e w1 ⟨rfl, hb1⟩
  have BW := below_then hb1 (below_a1 w1 (.cells #[.int .i64 0, .int .i64 0, .int .i64 0, .int .i64 0, .int .i64 0, .int .i64 0] 62))
  clear hb1 h
  go_wp2
  go_ret
  exact ⟨rfl, BW⟩
set_option maxHeartbeats 4000000 in
theorem WarcDate_yes (t : Int) (y m d h i s : Nat) (w : World) (hT : MonTab w) (hv : vld y m d h i s) (ht : t = secs y m d h i s) :
    Calls Tryd.prog 54 #[.int .i64 t] w fun e w' => e = .returned (.string (warcB y m d h i s)) ∧ Below w.heap.size w w' := by
  have HH := hideB2 (CivilOf_yes t y m d h i s w hT hv ht)
  have hb := secs_bd hv
  rw [← ht] at hb
  obtain ⟨ht0, ht1⟩ := hb
  have hdm := dim_bd y m
  obtain ⟨v1, v2, v3, v4, v5, v6, v7, v8, v9, v10, v11, v12⟩ := hv
  have hsz := digB_size
  have hcz := clockB_size h i s
  have hmz := monB_size (k := m) (by omega) (by omega)
  have hwd := wdN_lt t
  have hdz := dayS_size hwd
  have hbz := bday_size d
  have hDz := dayB_size hwd
  have hD1 : ((dayB (wdN t)).size : Int) ≤ 9 := by omega
  clear ht hDz
  go_enter Tryd.func54, Tryd.ntmps54
  go_wp2_with fail
  refine HH.out.mono ?_
  rintro e w1 ⟨rfl, hb1⟩
  have BW := below_then hb1 (below_a1 w1 (.cells #[.int .i64 y, .int .i64 m, .int .i64 d, .int .i64 h, .int .i64 i, .int .i64 s] 62))
  have hT1 := hT.below BW
  have gc := civAt_new w1 y m d h i s 62
  clear hb1 hT HH
  go_wp2_with fail
  generalize w1.alloc (.cells #[.int .i64 y, .int .i64 m, .int .i64 d, .int .i64 h, .int .i64 i, .int .i64 s] 62) = W at *
  have hT := hT1
  obtain ⟨g0, g1, g2, g3, g4, g5⟩ := gc.grw
  clear gc hT1
  refine wp_region_grow ?_ ?_ ?_
  · kernel_rfl
  · kernel_rfl
  · intro hne
    repeat (go_big_quiet_step (first
      | (go_at_call 69; exact grow_call (digits_at _ _ _ (by omega) (by omega) (by omega)))
      | (go_at_call 70; exact grow_call (clockText_any _ _ _ h i s _ (by omega) (by omega) (by omega)))))
    refine wpQuiet_nil ?_
    rintro _ ⟨V, rfl⟩
    have hb := below_then BW (grw_below W V)
    clear g0 g1 g2 g3 g4 g5 hT
    go_wp2
    go_ret
    exact ⟨rfl, hb⟩
end Go.Proofs.YtffjpidjhcnnmabDoor
