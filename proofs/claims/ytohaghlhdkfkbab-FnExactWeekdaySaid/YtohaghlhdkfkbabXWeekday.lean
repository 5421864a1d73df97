/-
  FnExactWeekday: at every argument impl.Weekday answers as spec.Weekday. No condition.
-/
import Derived.Test.YtohaghlhdkfkbabWC5
import Derived.Test.YtohaghlhdkfkbabOpen
namespace Go.Proofs.Ytohaghlhdkfkbab
set_option linter.unusedVariables false
set_option linter.unusedSimpArgs false
open Go.ChangeShapes Go.WideShapes Go.ChangeAt Go.RowKit
open Go.ChangeMaps (open_string shut_string)
set_option maxHeartbeats 1000000 in
theorem fnExactWeekday_walk (t : Int) (w : World) (_ : (Lit.int .i64 t).wf = true) :
    Calls Try.prog 3 #[.int .i64 t] w fun e w' => e = .returned (.bool true) ∧ Below w.heap.size w w' := by
  have key : ∃ n : Int, (∀ w, Calls Try.prog 4 #[.int .i64 t] w fun e w' => e = .returned (.int .i64 n) ∧ w' = w) ∧ (∀ w, Calls Try.prog 5 #[.int .i64 t] w fun e w' => e = .returned (.int .i64 n) ∧ w' = w) := by
    by_cases ht : 0 ≤ t ∧ t ≤ 253402300799
    · exact ⟨_, fun w => sWeekday_yes t w ht.1 ht.2, fun w => Weekday_yes t w ht.1 ht.2⟩
    · exact ⟨-1, fun w => sWeekday_no t w ht, fun w => Weekday_no t w ht⟩
  obtain ⟨n, hs, hi⟩ := key
  have HS : Hid (∀ w, Calls Try.prog 4 #[.int .i64 t] w fun e w' => e = .returned (.int .i64 n) ∧ w' = w) := hs
  have HI : Hid (∀ w, Calls Try.prog 5 #[.int .i64 t] w fun e w' => e = .returned (.int .i64 n) ∧ w' = w) := hi
  clear hs hi
  go_enter Try.func3, Try.ntmps3
  go_wp2_with fail
  refine (HS.out _).mono ?_
  rintro e w1 ⟨rfl, rfl⟩
  go_wp2_with fail
  refine (HI.out _).mono ?_
  rintro e w2 ⟨rfl, rfl⟩
  go_wp2
  go_ret
  exact ⟨rfl, Below.refl _ _⟩

set_option maxRecDepth 100000 in
theorem fnExactWeekday_lifted (os : Os) (started : os.Started) (H : Type) (enc : TypeId × Value → H) :
    ReturnsInHanded {} Try.checked os 3 .any (Rows.fnExactWeekdaySpec.pre6 enc Try.prog Try.f3 Rows.fnExactWeekdayRow.domain false) (Rows.fnExactWeekdaySpec.post enc Try.prog Try.f3 false true false false) := by
  refine returnsInHanded_of_change (C := Try.checked) Try.own started (by kernel_rfl) Try.func3
    (ChangeSpec.witness6 (enc := enc) (C := Try.checked) false ⟨#[], #[.int .i64 0], []⟩ 8 (by kernel_rfl) (by kernel_rfl) (by kernel_rfl) (by kernel_rfl)) ?_
  intro W base args ds gs before hval0 hW hcnd _
  have hval : ∀ (j : Nat) t v, Try.f3.params[j]? = some t → args[j]? = some v → Value.okWide Try.prog W .any base t v := hval0
  have hW' := hW
  obtain ⟨p, q, hA0, hV, rfl, hfz, hnd⟩ := hW
  have hA : DataW.TrodAll enc Try.prog W 0 (fun _ => true) true Try.f3.params.toList args.toList ds p := hA0
  rw [Try.params3] at hA hval
  obtain ⟨v0, vs0, d0, ds0, p0, q0, hargs, rfl, rfl, h0, r0⟩ := trodAll_cons hA
  obtain ⟨rfl, rfl, rfl⟩ := trodAll_nil r0
  obtain rfl : args = #[v0] := by cases args; simp_all
  obtain ⟨rfl, rfl⟩ := trodVars_none hV
  obtain ⟨a0, rfl, rfl, rfl, w0⟩ := open_int Try.underlying3 (hval 0 3 v0 rfl rfl) h0
  clear hA0 hval0
  simp only [List.append_nil] at hW'
  refine (fnExactWeekday_walk a0 W w0).mono fun e W' ⟨he, bel⟩ => ?_
  subst he
  exact ⟨_, rfl, _, _, _, [], [], [], hW', trodAll_mk1 (shut_bool Try.underlying4 _), (trodAll_cons_mk (shut_int Try.underlying3 w0) trodAll_mk0), rfl, bel.frame _, fun h => by cases h⟩

/-- THE STATEMENT -/
theorem fnExactWeekday_holds : Rows.FnExactWeekdaySaid :=
  OpenClaim.holds_of_wide 3 Try.f3 rfl rfl rfl rfl rfl rfl rfl ⟨rfl, rfl, rfl, rfl, rfl⟩ rfl rfl rfl rfl rfl (by kernel_rfl) Try.func3 (by kernel_rfl)
    (of_decide_eq_true (by kernel_rfl)) (by unfold Func.isWrapper; first | (rw [if_pos (by decide +kernel)]; kernel_rfl) | (rw [if_neg (by decide +kernel)]; exact ⟨rfl, rfl⟩))
    (fun os started H enc _ => fnExactWeekday_lifted os started H enc)
#print axioms fnExactWeekday_holds
end Go.Proofs.Ytohaghlhdkfkbab
