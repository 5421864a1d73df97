/-
  FnExactFieldOk: at every argument impl.FieldOk answers as spec.FieldOk. No condition (what is greater than 2^20 is passed by the law itself).
-/
import Derived.Test.YtbdggopdhnlbfabRows
import Derived.Test.YtbdggopdhnlbfabF2
import Derived.Test.YtbdggopdhnlbfabOpenF
namespace Go.Proofs.Ytbdggopdhnlbfab
set_option linter.unusedVariables false
set_option linter.unusedSimpArgs false
open Go.ChangeShapes Go.WideShapes Go.ChangeAt Go.RowKit
open Go.ChangeMaps (open_string shut_string)
set_option maxHeartbeats 1000000 in
theorem fnExactFieldOk_walk (d s : ByteArray) (w : World) (wd : d.size ≤ maxLen) (ws : s.size ≤ maxLen) :
    Calls Try.prog 3 #[.agg #[.string d, .string s]] w fun e w' => e = .returned (.bool true) ∧ Below w.heap.size w w' := by
  have ha1 := below_a1 w (.cells #[.string d, .string s] 23)
  have A0 := Blk.new w #[.string d, .string s] 23
  go_enter Try.func3, Try.ntmps3
  go_wp2_with fail
  refine (szField_any d s _ _ wd ws (by omega) (by omega)).mono ?_
  rintro e w1 ⟨rfl, hb1⟩
  have A1 := A0.later hb1
  have hbw1 := below_then ha1 hb1
  by_cases hs : (szF (d, s) : Int) ≤ 1048576
  · rw [if_pos hs]
    have hge : ¬ (1048576 : Int) - (szF (d, s) : Int) < 0 := by omega
    have HS := hideB2 (fun W => sFieldOk_any d s W wd ws)
    have HI := hideB2 (fun W => FieldOk_any d s W wd ws)
    generalize fieldQ (d, s) = R at *
    generalize szF (d, s) = z at *
    obtain ⟨p0, p1⟩ := A1.c2
    clear A0 ha1 hb1 hs wd ws
    go_wp2_with fail
    refine (toField_any d s _).mono ?_
    rintro e w2 ⟨rfl, hb2⟩
    go_wp2_with fail
    refine (HS.out _).mono ?_
    rintro e w3 ⟨rfl, hb3⟩
    have A3 := (A1.later hb2).later hb3
    have hbw3 := below_then (below_then hbw1 hb2) hb3
    clear p0 p1
    obtain ⟨p0, p1⟩ := A3.c2
    go_wp2_with fail
    refine (toField_any d s _).mono ?_
    rintro e w4 ⟨rfl, hb4⟩
    go_wp2_with fail
    refine (HI.out _).mono ?_
    rintro e w5 ⟨rfl, hb5⟩
    have HB := hideB2 (below_then (below_then hbw3 hb4) hb5)
    clear A1 A3 p0 p1 hbw1 hbw3 hb2 hb3 hb4 hb5
    cases R
    all_goals
      go_wp2
      go_ret
      exact ⟨rfl, HB.out⟩
  · rw [if_neg hs]
    go_wp2
    go_ret
    exact ⟨rfl, hbw1⟩

set_option maxRecDepth 100000 in
theorem fnExactFieldOk_lifted (os : Os) (started : os.Started) (H : Type) (enc : TypeId × Value → H) :
    ReturnsInHanded {} Try.checked os 3 .any (Rows.fnExactFieldOkSpec.pre6 enc Try.prog Try.f3 Rows.fnExactFieldOkRow.domain false) (Rows.fnExactFieldOkSpec.post enc Try.prog Try.f3 false true false false) := by
  refine returnsInHanded_of_change (C := Try.checked) Try.own started (by kernel_rfl) Try.func3
    (ChangeSpec.witness6 (enc := enc) (C := Try.checked) false ⟨#[], #[.agg #[.string ByteArray.empty, .string ByteArray.empty]], []⟩ 8 (by kernel_rfl) (by kernel_rfl) (by kernel_rfl) (by kernel_rfl)) ?_
  intro W base args ds gs before hval0 hW hcnd _
  have hval : ∀ (j : Nat) t v, Try.f3.params[j]? = some t → args[j]? = some v → Value.okWide Try.prog W .any base t v := hval0
  have hW' := hW
  obtain ⟨p, q, hA0, hV, rfl, hfz, hnd⟩ := hW
  have hA : DataW.TrodAll enc Try.prog W 0 (fun _ => true) true Try.f3.params.toList args.toList ds p := hA0
  rw [Try.params3] at hA hval
  obtain ⟨v0, vs0, d0, ds0, p0, q0, hargs, rfl, rfl, h0, r0⟩ := trodAll_cons hA
  obtain ⟨rfl, rfl, rfl⟩ := trodAll_nil r0
  obtain rfl : args = #[v0] := by cases args; simp_all
  obtain ⟨rfl, rfl⟩ := trodVars_none hV
  have k0 := h0
  have lt0 : ∀ x ∈ p0, x.block < W.heap.size := by obtain ⟨m, hm⟩ := k0; exact DataW.trod_lt m _ _ _ hm
  obtain ⟨c0, e0, y0, z0, m0, hv0, _, _, hy0, hz0⟩ := Joins.open_agg2 Try.underlying23 (by kernel_rfl) (by kernel_rfl) (hval 0 23 v0 rfl rfl) h0
  obtain ⟨s0, es0, _, w0⟩ := DataW.trod_string Try.underlying9 hy0
  obtain ⟨n0, en0, _, x0⟩ := DataW.trod_string Try.underlying9 hz0
  simp at es0 en0
  subst es0 en0
  subst hv0
  clear hA0 hval0
  refine (fnExactFieldOk_walk s0 n0 W w0 x0).mono fun e W' ⟨he, bel⟩ => ?_
  subst he
  exact ⟨_, rfl, _, _, _, [], _, [], hW', trodAll_mk1 (shut_bool Try.underlying4 _), (trodAll_cons_mk (Below.trod Try.laidOut (by kernel_rfl) (of_decide_eq_true (by kernel_rfl)) k0 bel lt0) trodAll_mk0), rfl, bel.frame _, fun h => by cases h⟩

/-- THE STATEMENT -/
theorem fnExactFieldOk_holds : Rows.FnExactFieldOkSaid :=
  OpenClaim.holds_of_wide 3 Try.f3 rfl rfl rfl rfl rfl rfl rfl ⟨rfl, rfl, rfl, rfl, rfl⟩ rfl rfl rfl rfl rfl (by kernel_rfl) Try.func3 (by kernel_rfl)
    (of_decide_eq_true (by kernel_rfl)) (by unfold Func.isWrapper; first | (rw [if_pos (by decide +kernel)]; kernel_rfl) | (rw [if_neg (by decide +kernel)]; exact ⟨rfl, rfl⟩))
    (fun os started H enc _ => fnExactFieldOk_lifted os started H enc)
#print axioms fnExactFieldOk_holds
end Go.Proofs.Ytbdggopdhnlbfab
