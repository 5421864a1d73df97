/-
  The walks over chapter 2: CivilOk.
-/
import Derived.Test.YtffjpidjhcnnmabDoorWC1
namespace Go.Proofs.YtffjpidjhcnnmabDoor
set_option linter.unusedVariables false
set_option linter.unusedSimpArgs false
open Go.RowKit

/-- A day and hour as the program holds it. -/
abbrev civ (y m d h i s : Int) : Value := .agg #[.int .i64 y, .int .i64 m, .int .i64 d, .int .i64 h, .int .i64 i, .int .i64 s]
theorem MonTab.below {w w' : World} (h : MonTab w) (hb : Below w.heap.size w w') : MonTab w' := by
  intro k hk
  have hc := h k hk
  have hlt : 1 < w.heap.size := World.block_lt_of_cell? _ _ hc
  rw [hb.cell (p := ⟨1, k, none⟩) hlt]
  exact hc
theorem MonTab.alloc {w : World} (h : MonTab w) (o : Obj) : MonTab (w.alloc o) := h.below ((Below.refl _ w).alloc (Nat.le_refl _) o)
theorem MonTab.drewN {w : World} (h : MonTab w) (n : Nat) : MonTab (w.drewN n) := fun k hk => h k hk
theorem vldB_eq (y m d h i s : Int) : vldB y m d h i s = (withinB y 1970 9999 && withinB m 1 12 && withinB h 0 23 && withinB i 0 59 && withinB s 0 59 && withinB d 1 (dim y m)) := by
  unfold vldB withinB
  rw [Bool.eq_iff_iff]
  simp only [decide_eq_true_eq, Bool.and_eq_true]
  omega

set_option maxHeartbeats 4000000 in
theorem CivilOk_any (y m d h i s : Int) (w : World) (hM : MonTab w) :
    Calls Tryd.prog 74 #[civ y m d h i s] w fun e w' => e = .returned (.bool (vldB y m d h i s)) ∧ Below w.heap.size w w' := by
  have hM' := fun o n => (hM.alloc o).drewN n
  have HB := fun o n => below_drewN ((Below.refl w.heap.size w).alloc (Nat.le_refl _) o) n
  have hv : Hid (vldB y m d h i s = (withinB y 1970 9999 && withinB m 1 12 && withinB h 0 23 && withinB i 0 59 && withinB s 0 59 && withinB d 1 (dim y m))) := vldB_eq y m d h i s
  clear hM
  go_enter Tryd.func74, Tryd.ntmps74
  go_wp2
  refine wp_region_quiet_lit ?_ ?_ ?_
  · kernel_rfl
  · kernel_rfl
  · repeat (go_big_quiet_step ((go_at_call 82; exact Calls.quiet_of_same (within_any _ _ _ _))))
    cases hy : withinB y 1970 9999
    · repeat (go_big_quiet_step (fail))
      refine wpQuiet_nil ?_
      rintro _ ⟨nq, rfl⟩
      go_wp2
      go_ret
      exact ⟨ret_bool (by rw [hv.out, hy]; rfl), HB _ _⟩
    · repeat (go_big_quiet_step ((go_at_call 82; exact Calls.quiet_of_same (within_any _ _ _ _))))
      cases hm : withinB m 1 12
      · repeat (go_big_quiet_step (fail))
        refine wpQuiet_nil ?_
        rintro _ ⟨nq, rfl⟩
        go_wp2
        go_ret
        exact ⟨ret_bool (by rw [hv.out, hy, hm]; rfl), HB _ _⟩
      · repeat (go_big_quiet_step ((go_at_call 82; exact Calls.quiet_of_same (within_any _ _ _ _))))
        cases hh : withinB h 0 23
        · repeat (go_big_quiet_step (fail))
          refine wpQuiet_nil ?_
          rintro _ ⟨nq, rfl⟩
          go_wp2
          go_ret
          exact ⟨ret_bool (by rw [hv.out, hy, hm, hh]; rfl), HB _ _⟩
        · repeat (go_big_quiet_step ((go_at_call 82; exact Calls.quiet_of_same (within_any _ _ _ _))))
          cases hi : withinB i 0 59
          · repeat (go_big_quiet_step (fail))
            refine wpQuiet_nil ?_
            rintro _ ⟨nq, rfl⟩
            go_wp2
            go_ret
            exact ⟨ret_bool (by rw [hv.out, hy, hm, hh, hi]; rfl), HB _ _⟩
          · repeat (go_big_quiet_step ((go_at_call 82; exact Calls.quiet_of_same (within_any _ _ _ _))))
            cases hs : withinB s 0 59
            · repeat (go_big_quiet_step (fail))
              refine wpQuiet_nil ?_
              rintro _ ⟨nq, rfl⟩
              go_wp2
              go_ret
              exact ⟨ret_bool (by rw [hv.out, hy, hm, hh, hi, hs]; rfl), HB _ _⟩
            · have hy' := within_iff.1 hy
              have hm' := within_iff.1 hm
              obtain ⟨k, rfl⟩ := Int.eq_ofNat_of_zero_le (a := m) (by omega)
              have HV : Hid (vldB y k d h i s = withinB d 1 (dim y k)) := by
                show _ = _
                rw [hv.out, hy, hm, hh, hi, hs]; rfl
              clear hv
              repeat (go_big_quiet_step (first
                | (go_at_call 82; exact Calls.quiet_of_same (within_any _ _ _ _))
                | (go_at_call 76; exact Calls.quiet_of_same (monthDays_any _ _ _ (by omega) (by omega) (by omega) (by omega) (hM' _ _)))))
              refine wpQuiet_nil ?_
              rintro _ ⟨nq, rfl⟩
              go_wp2
              go_ret
              exact ⟨ret_bool HV.out, HB _ _⟩
set_option maxHeartbeats 400000 in
theorem l2leap_any (y : Int) (w : World) (h0 : 0 ≤ y) (h1 : y ≤ 10000) :
    Calls Tryd.prog 72 #[.int .i64 y] w fun e w' => e = .returned (.bool (leapB y)) ∧ w' = w := by
  by_cases h4 : y % 4 = 0
  · have b4 : (y % 4 == 0) = true := by rw [beq_iff_eq]; exact h4
    by_cases h100 : y % 100 = 0
    · have b100 : (y % 100 != 0) = false := by rw [bne_eq_false_iff_eq]; exact h100
      by_cases h400 : y % 400 = 0
      · have b400 : (y % 400 == 0) = true := by rw [beq_iff_eq]; exact h400
        rw [(leapB_iff y).2 ⟨h4, Or.inr h400⟩]
        clear h4 h100 h400
        go_enter Tryd.func72, Tryd.ntmps72
        go_wp2
        go_ret
        exact ⟨rfl, rfl⟩
      · have b400 : (y % 400 == 0) = false := by rw [beq_eq_false_iff_ne]; exact h400
        rw [show leapB y = false from Bool.eq_false_iff.2 fun h => by have := (leapB_iff y).1 h; omega]
        clear h4 h100 h400
        go_enter Tryd.func72, Tryd.ntmps72
        go_wp2
        go_ret
        exact ⟨rfl, rfl⟩
    · have b100 : (y % 100 != 0) = true := by rw [bne_iff_ne]; exact h100
      rw [(leapB_iff y).2 ⟨h4, Or.inl h100⟩]
      clear h4 h100
      go_enter Tryd.func72, Tryd.ntmps72
      go_wp2
      go_ret
      exact ⟨rfl, rfl⟩
  · have b4 : (y % 4 == 0) = false := by rw [beq_eq_false_iff_ne]; exact h4
    rw [show leapB y = false from Bool.eq_false_iff.2 fun h => by have := (leapB_iff y).1 h; omega]
    clear h4
    go_enter Tryd.func72, Tryd.ntmps72
    go_wp2
    go_ret
    exact ⟨rfl, rfl⟩
theorem dim_30 (y m : Int) (h : m = 4 ∨ m = 6 ∨ m = 9 ∨ m = 11) : dim y m = 30 := by
  unfold dim; rw [if_neg (by omega), if_pos h]
theorem dim_31 (y m : Int) (h2 : m ≠ 2) (h : ¬ (m = 4 ∨ m = 6 ∨ m = 9 ∨ m = 11)) : dim y m = 31 := by
  unfold dim; rw [if_neg h2, if_neg h]
set_option maxHeartbeats 1000000 in
theorem l2days_any (y m : Int) (w : World) (h0 : 0 ≤ y) (h1 : y ≤ 10000) :
    Calls Tryd.prog 59 #[.int .i64 y, .int .i64 m] w fun e w' => e = .returned (.int .i64 (dim y m)) ∧ w' = w := by
  by_cases h2 : m = 2
  · subst h2
    cases hl : leapB y
    · rw [show dim y 2 = 28 by simp [dim, lp_neg hl]]
      go_enter Tryd.func59, Tryd.ntmps59
      go_wp2_with (go_at_call 72; refine (l2leap_any _ _ h0 h1).mono ?_; rintro e w' ⟨rfl, rfl⟩)
      go_ret
      exact ⟨rfl, rfl⟩
    · rw [dim_feb hl]
      go_enter Tryd.func59, Tryd.ntmps59
      go_wp2_with (go_at_call 72; refine (l2leap_any _ _ h0 h1).mono ?_; rintro e w' ⟨rfl, rfl⟩)
      go_ret
      exact ⟨rfl, rfl⟩
  · have hb2 : (m == 2) = false := by rw [beq_eq_false_iff_ne]; exact h2
    by_cases h4 : m = 4
    · subst h4
      rw [dim_30 y 4 (by omega)]
      go_enter Tryd.func59, Tryd.ntmps59
      go_wp2
      go_ret
      exact ⟨rfl, rfl⟩
    · by_cases h6 : m = 6
      · subst h6
        rw [dim_30 y 6 (by omega)]
        go_enter Tryd.func59, Tryd.ntmps59
        go_wp2
        go_ret
        exact ⟨rfl, rfl⟩
      · by_cases h9 : m = 9
        · subst h9
          rw [dim_30 y 9 (by omega)]
          go_enter Tryd.func59, Tryd.ntmps59
          go_wp2
          go_ret
          exact ⟨rfl, rfl⟩
        · by_cases h11 : m = 11
          · subst h11
            rw [dim_30 y 11 (by omega)]
            go_enter Tryd.func59, Tryd.ntmps59
            go_wp2
            go_ret
            exact ⟨rfl, rfl⟩
          · have hd : dim y m = 31 := dim_31 y m h2 (by omega)
            have hb4 : (m == 4) = false := by rw [beq_eq_false_iff_ne]; exact h4
            have hb6 : (m == 6) = false := by rw [beq_eq_false_iff_ne]; exact h6
            have hb9 : (m == 9) = false := by rw [beq_eq_false_iff_ne]; exact h9
            have hb11 : (m == 11) = false := by rw [beq_eq_false_iff_ne]; exact h11
            rw [hd]
            clear hd h2 h4 h6 h9 h11
            go_enter Tryd.func59, Tryd.ntmps59
            go_wp2
            go_ret
            exact ⟨rfl, rfl⟩
end Go.Proofs.YtffjpidjhcnnmabDoor
