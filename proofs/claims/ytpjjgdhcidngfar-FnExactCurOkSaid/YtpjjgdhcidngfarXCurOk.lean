/-
  FnExactCurOk: at every cursor impl.CurOk answers as spec.CurOk. No condition.
-/
import Derived.Test.YtpjjgdhcidngfarW9
import Derived.Test.YtpjjgdhcidngfarOpen
namespace Go.Proofs.Ytpjjgdhcidngfar
set_option linter.unusedVariables false
set_option linter.unusedSimpArgs false
open Go.ChangeShapes Go.WideShapes Go.ChangeAt Go.RowKit
open Go.ChangeMaps (open_string shut_string)
set_option maxHeartbeats 1000000 in
theorem fnExactCurOk_walk (s0 : ByteArray) (n0 : Int) (w : World) (w0 : s0.size ≤ maxLen) (x0 : (Lit.int .i64 n0).wf = true) :
    Calls Try.prog 3 #[.agg #[.string s0, .int .i64 n0]] w fun e w' => e = .returned (.bool true) ∧ Below w.heap.size w w' := by
  go_enter Try.func3, Try.ntmps3
  go_wp2_with fail
  refine (szCur_any s0 n0 _ w0).mono ?_
  rintro e w1 ⟨rfl, hb1⟩
  obtain ⟨q0, q1, qz⟩ := keep2 (b := w.heap.size) (x := .string s0) (y := .int .i64 n0) hb1 (by simp) (by simp)
  by_cases hbig : (1048576 : Int) < (s0.size : Int)
  · rw [if_pos hbig]
    go_wp2
    go_ret
    exact ⟨rfl, ((Below.refl _ _).alloc (Nat.le_refl _) _).trans (hb1.mono (by simp))⟩
  · rw [if_neg hbig]
    go_wp2_with fail
    refine (toCur_any s0 n0 _).mono ?_
    rintro e w2 ⟨rfl, hb2⟩
    obtain ⟨p0, p1, pz⟩ := keep2 hb2 q0 q1
    clear q0 q1 qz
    go_wp2_with fail
    refine (sCurOk_any s0 n0 _).mono ?_
    rintro e w3 ⟨rfl, rfl⟩
    go_wp2_with fail
    refine (toCur_any s0 n0 _).mono ?_
    rintro e w4 ⟨rfl, hb4⟩
    go_wp2_with fail
    refine (CurOk_any s0 n0 _).mono ?_
    rintro e w5 ⟨rfl, hb5⟩
    generalize curOk s0 n0 = r
    have hbel : Below w.heap.size w w5 := by
      have h1 : Below w.heap.size w w1 := ((Below.refl _ _).alloc (Nat.le_refl _) _).trans (hb1.mono (by simp))
      have h2 := h1.trans (hb2.mono h1.size)
      have h3 := h2.alloc h2.size (.cells #[.string s0, .int .i64 n0] 26)
      have h4 := h3.trans (hb4.mono h3.size)
      exact h4.trans (hb5.mono h4.size)
    cases r
    all_goals
      go_wp2
      go_ret
      exact ⟨rfl, hbel⟩

set_option maxRecDepth 100000 in
theorem fnExactCurOk_lifted (os : Os) (started : os.Started) (H : Type) (enc : TypeId × Value → H) :
    ReturnsInHanded {} Try.checked os 3 .any (Rows.fnExactCurOkSpec.pre6 enc Try.prog Try.f3 Rows.fnExactCurOkRow.domain false) (Rows.fnExactCurOkSpec.post enc Try.prog Try.f3 false true false false) := by
  refine returnsInHanded_of_change (C := Try.checked) Try.own started (by kernel_rfl) Try.func3
    (ChangeSpec.witness6 (enc := enc) (C := Try.checked) false ⟨#[], #[.agg #[.string ByteArray.empty, .int .i64 0]], []⟩ 8 (by kernel_rfl) (by kernel_rfl) (by kernel_rfl) (by kernel_rfl)) ?_
  intro W base args ds gs before hval0 hW hcnd _
  have hval : ∀ (j : Nat) t v, Try.f3.params[j]? = some t → args[j]? = some v → Value.okWide Try.prog W .any base t v := hval0
  have hW' := hW
  obtain ⟨p, q, hA0, hV, rfl, hfz, hnd⟩ := hW
  have hA : DataW.TrodAll enc Try.prog W 0 (fun _ => true) true Try.f3.params.toList args.toList ds p := hA0
  rw [Try.params3] at hA hval
  obtain ⟨v0, vs0, d0, ds0, p0, q0, hargs, rfl, rfl, h0, r0⟩ := trodAll_cons hA
  obtain ⟨rfl, rfl, rfl⟩ := trodAll_nil r0
  obtain rfl : args = #[v0] := by cases args; simp_all
  obtain ⟨rfl, rfl⟩ := trodVars_none hV
  have k0 := h0
  have lt0 : ∀ x ∈ p0, x.block < W.heap.size := by obtain ⟨m, hm⟩ := k0; exact DataW.trod_lt m _ _ _ hm
  obtain ⟨c0, e0, y0, z0, m0, hv0, _, _, hy0, hz0⟩ := Joins.open_agg2 Try.underlying23 (by kernel_rfl) (by kernel_rfl) (hval 0 23 v0 rfl rfl) h0
  obtain ⟨s0, es0, _, w0⟩ := DataW.trod_string Try.underlying9 hy0
  obtain ⟨n0, en0, _, x0⟩ := DataW.trod_int Try.underlying3 hz0
  simp at es0 en0
  subst es0 en0
  subst hv0
  clear hA0 hval0
  refine (fnExactCurOk_walk s0 n0 W w0 x0).mono fun e W' ⟨he, bel⟩ => ?_
  subst he
  exact ⟨_, rfl, _, _, _, [], _, [], hW', trodAll_mk1 (shut_bool Try.underlying4 _), (trodAll_cons_mk (Below.trod Try.laidOut (by kernel_rfl) (of_decide_eq_true (by kernel_rfl)) k0 bel lt0) trodAll_mk0), rfl, bel.frame _, fun h => by cases h⟩

/-- THE STATEMENT -/
theorem fnExactCurOk_holds : Rows.FnExactCurOkSaid :=
  OpenClaim.holds_of_wide 3 Try.f3 rfl rfl rfl rfl rfl rfl rfl ⟨rfl, rfl, rfl, rfl, rfl⟩ rfl rfl rfl rfl rfl (by kernel_rfl) Try.func3 (by kernel_rfl)
    (of_decide_eq_true (by kernel_rfl)) (by unfold Func.isWrapper; first | (rw [if_pos (by decide +kernel)]; kernel_rfl) | (rw [if_neg (by decide +kernel)]; exact ⟨rfl, rfl⟩))
    (fun os started H enc _ => fnExactCurOk_lifted os started H enc)
#print axioms fnExactCurOk_holds
end Go.Proofs.Ytpjjgdhcidngfar
