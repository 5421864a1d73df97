/-
  The walks over chapter 2: spec.CivilOk.
-/
import Derived.Test.YtffjpidjhcnnmabDoorWC2
namespace Go.Proofs.YtffjpidjhcnnmabDoor
set_option linter.unusedVariables false
set_option linter.unusedSimpArgs false
open Go.RowKit

theorem vldB_no {y m d h i s : Int} (hn : ¬ vld y m d h i s) : vldB y m d h i s = false := Bool.eq_false_iff.2 fun hh => hn (vldB_iff.1 hh)
set_option maxHeartbeats 8000000 in
theorem sCivilOk_any (y m d h i s : Int) (w : World) :
    Calls Tryd.prog 57 #[civ y m d h i s] w fun e w' => e = .returned (.bool (vldB y m d h i s)) ∧ Below w.heap.size w w' := by
  have HB := fun o n => below_drewN ((Below.refl w.heap.size w).alloc (Nat.le_refl _) o) n
  go_enter Tryd.func57, Tryd.ntmps57
  go_wp2
  refine wp_region_quiet_lit ?_ ?_ ?_
  · kernel_rfl
  · kernel_rfl
  · repeat (go_big_quiet_step (fail))
    cases c0 : decide (1970 ≤ y)
    · repeat (go_big_quiet_step (fail))
      refine wpQuiet_nil ?_
      rintro _ ⟨nq, rfl⟩
      go_wp2
      go_ret
      exact ⟨ret_bool (vldB_no fun hv => by have := of_decide_eq_false c0; unfold vld at hv; omega), HB _ _⟩
    · repeat (go_big_quiet_step (fail))
      cases c1 : decide (y ≤ 9999)
      · repeat (go_big_quiet_step (fail))
        refine wpQuiet_nil ?_
        rintro _ ⟨nq, rfl⟩
        go_wp2
        go_ret
        exact ⟨ret_bool (vldB_no fun hv => by have := of_decide_eq_false c1; unfold vld at hv; omega), HB _ _⟩
      · repeat (go_big_quiet_step (fail))
        cases c2 : decide (1 ≤ m)
        · repeat (go_big_quiet_step (fail))
          refine wpQuiet_nil ?_
          rintro _ ⟨nq, rfl⟩
          go_wp2
          go_ret
          exact ⟨ret_bool (vldB_no fun hv => by have := of_decide_eq_false c2; unfold vld at hv; omega), HB _ _⟩
        · repeat (go_big_quiet_step (fail))
          cases c3 : decide (m ≤ 12)
          · repeat (go_big_quiet_step (fail))
            refine wpQuiet_nil ?_
            rintro _ ⟨nq, rfl⟩
            go_wp2
            go_ret
            exact ⟨ret_bool (vldB_no fun hv => by have := of_decide_eq_false c3; unfold vld at hv; omega), HB _ _⟩
          · repeat (go_big_quiet_step (fail))
            cases c4 : decide (1 ≤ d)
            · repeat (go_big_quiet_step (fail))
              refine wpQuiet_nil ?_
              rintro _ ⟨nq, rfl⟩
              go_wp2
              go_ret
              exact ⟨ret_bool (vldB_no fun hv => by have := of_decide_eq_false c4; unfold vld at hv; omega), HB _ _⟩
            · repeat (go_big_quiet_step ((go_at_call 59; exact Calls.quiet_of_same (l2days_any _ _ _ (by have := of_decide_eq_true c0; omega) (by have := of_decide_eq_true c1; omega)))))
              cases c5 : decide (d ≤ dim y m)
              · repeat (go_big_quiet_step (fail))
                refine wpQuiet_nil ?_
                rintro _ ⟨nq, rfl⟩
                go_wp2
                go_ret
                exact ⟨ret_bool (vldB_no fun hv => by have := of_decide_eq_false c5; unfold vld at hv; omega), HB _ _⟩
              · repeat (go_big_quiet_step (fail))
                cases c6 : decide (0 ≤ h)
                · repeat (go_big_quiet_step (fail))
                  refine wpQuiet_nil ?_
                  rintro _ ⟨nq, rfl⟩
                  go_wp2
                  go_ret
                  exact ⟨ret_bool (vldB_no fun hv => by have := of_decide_eq_false c6; unfold vld at hv; omega), HB _ _⟩
                · repeat (go_big_quiet_step (fail))
                  cases c7 : decide (h ≤ 23)
                  · repeat (go_big_quiet_step (fail))
                    refine wpQuiet_nil ?_
                    rintro _ ⟨nq, rfl⟩
                    go_wp2
                    go_ret
                    exact ⟨ret_bool (vldB_no fun hv => by have := of_decide_eq_false c7; unfold vld at hv; omega), HB _ _⟩
                  · repeat (go_big_quiet_step (fail))
                    cases c8 : decide (0 ≤ i)
                    · repeat (go_big_quiet_step (fail))
                      refine wpQuiet_nil ?_
                      rintro _ ⟨nq, rfl⟩
                      go_wp2
                      go_ret
                      exact ⟨ret_bool (vldB_no fun hv => by have := of_decide_eq_false c8; unfold vld at hv; omega), HB _ _⟩
                    · repeat (go_big_quiet_step (fail))
                      cases c9 : decide (i ≤ 59)
                      · repeat (go_big_quiet_step (fail))
                        refine wpQuiet_nil ?_
                        rintro _ ⟨nq, rfl⟩
                        go_wp2
                        go_ret
                        exact ⟨ret_bool (vldB_no fun hv => by have := of_decide_eq_false c9; unfold vld at hv; omega), HB _ _⟩
                      · repeat (go_big_quiet_step (fail))
                        cases c10 : decide (0 ≤ s)
                        · repeat (go_big_quiet_step (fail))
                          refine wpQuiet_nil ?_
                          rintro _ ⟨nq, rfl⟩
                          go_wp2
                          go_ret
                          exact ⟨ret_bool (vldB_no fun hv => by have := of_decide_eq_false c10; unfold vld at hv; omega), HB _ _⟩
                        · repeat (go_big_quiet_step (fail))
                          cases c11 : decide (s ≤ 59)
                          · repeat (go_big_quiet_step (fail))
                            refine wpQuiet_nil ?_
                            rintro _ ⟨nq, rfl⟩
                            go_wp2
                            go_ret
                            exact ⟨ret_bool (vldB_no fun hv => by have := of_decide_eq_false c11; unfold vld at hv; omega), HB _ _⟩
                          · repeat (go_big_quiet_step (fail))
                            refine wpQuiet_nil ?_
                            rintro _ ⟨nq, rfl⟩
                            go_wp2
                            go_ret
                            exact ⟨ret_bool (vldB_iff.2 ⟨of_decide_eq_true c0, of_decide_eq_true c1, of_decide_eq_true c2, of_decide_eq_true c3, of_decide_eq_true c4, of_decide_eq_true c5, of_decide_eq_true c6, of_decide_eq_true c7, of_decide_eq_true c8, of_decide_eq_true c9, of_decide_eq_true c10, of_decide_eq_true c11⟩), HB _ _⟩
end Go.Proofs.YtffjpidjhcnnmabDoor
