/-
  FnExactReadField: at every argument impl.ReadField answers as spec.ReadField. No condition (what is greater than 2^20 is passed by the law itself).
-/
import Derived.Test.YtbdggopdhnlbfabRows
import Derived.Test.YtbdggopdhnlbfabF5
import Derived.Test.YtbdggopdhnlbfabOpenF
namespace Go.Proofs.Ytbdggopdhnlbfab
set_option linter.unusedVariables false
set_option linter.unusedSimpArgs false
open Go.ChangeShapes Go.WideShapes Go.ChangeAt Go.RowKit
open Go.ChangeMaps (open_string shut_string)
set_option maxHeartbeats 1000000 in
theorem fnExactReadField_walk (a0 : ByteArray) (w : World) (w0 : a0.size ≤ maxLen) :
    Calls Try.prog 6 #[.string a0] w fun e w' => e = .returned (.bool true) ∧ Below w.heap.size w w' := by
  have w0' := w0
  unfold maxLen at w0'
  by_cases hbig0 : (1048576 : Int) < (a0.size : Int)
  · go_enter Try.func6, Try.ntmps6
    go_wp2
    go_ret
    exact ⟨rfl, Below.refl _ _⟩
  · have HS := hideB2 (fun W => sReadField_any a0 W w0)
    have HI := hideB2 (fun W => ReadField_any a0 W w0)
    generalize readF a0 = R at *
    generalize readO a0 = O at *
    obtain ⟨d, s⟩ := R
    clear w0
    go_enter Try.func6, Try.ntmps6
    go_wp2_with fail
    refine (HS.out _).mono ?_
    rintro e w1 ⟨rfl, hb1⟩
    have N1 := Blk.new w1 #[.string d, .string s] 26
    have ha1 := below_a1 w1 (.cells #[.string d, .string s] 26)
    go_wp2_with fail
    refine (HI.out _).mono ?_
    rintro e w2 ⟨rfl, hb2⟩
    have N2 := N1.later hb2
    have ha2 := below_a1 w2 (.cells #[.string d, .string s] 26)
    obtain ⟨p0, p1⟩ := (N2.later ha2).c2
    have HBW := hideB2 (below_then (below_then (below_then hb1 ha1) hb2) ha2)
    have hlt := N2.lt
    clear N1 N2 hb1 ha1 hb2 ha2
    go_wp2_with fail
    refine (eqField_same d s _).mono ?_
    rintro e w3 ⟨rfl, hb3⟩
    have HB := hideB2 (below_then HBW.out hb3)
    clear hb3 p0 p1
    cases O
    all_goals
      go_wp2
      go_ret
      exact ⟨rfl, HB.out⟩

set_option maxRecDepth 100000 in
theorem fnExactReadField_lifted (os : Os) (started : os.Started) (H : Type) (enc : TypeId × Value → H) :
    ReturnsInHanded {} Try.checked os 6 .any (Rows.fnExactReadFieldSpec.pre6 enc Try.prog Try.f6 Rows.fnExactReadFieldRow.domain false) (Rows.fnExactReadFieldSpec.post enc Try.prog Try.f6 false true false false) := by
  refine returnsInHanded_of_change (C := Try.checked) Try.own started (by kernel_rfl) Try.func6
    (ChangeSpec.witness6 (enc := enc) (C := Try.checked) false ⟨#[], #[.string ByteArray.empty], []⟩ 8 (by kernel_rfl) (by kernel_rfl) (by kernel_rfl) (by kernel_rfl)) ?_
  intro W base args ds gs before hval0 hW hcnd _
  have hval : ∀ (j : Nat) t v, Try.f6.params[j]? = some t → args[j]? = some v → Value.okWide Try.prog W .any base t v := hval0
  have hW' := hW
  obtain ⟨p, q, hA0, hV, rfl, hfz, hnd⟩ := hW
  have hA : DataW.TrodAll enc Try.prog W 0 (fun _ => true) true Try.f6.params.toList args.toList ds p := hA0
  rw [Try.params6] at hA hval
  obtain ⟨v0, vs0, d0, ds0, p0, q0, hargs, rfl, rfl, h0, r0⟩ := trodAll_cons hA
  obtain ⟨rfl, rfl, rfl⟩ := trodAll_nil r0
  obtain rfl : args = #[v0] := by cases args; simp_all
  obtain ⟨rfl, rfl⟩ := trodVars_none hV
  obtain ⟨a0, rfl, rfl, rfl, w0⟩ := open_string Try.underlying9 (hval 0 9 v0 rfl rfl) h0
  clear hA0 hval0
  simp only [List.append_nil] at hW'
  refine (fnExactReadField_walk a0 W w0).mono fun e W' ⟨he, bel⟩ => ?_
  subst he
  exact ⟨_, rfl, _, _, _, [], [], [], hW', trodAll_mk1 (shut_bool Try.underlying4 _), (trodAll_cons_mk (shut_string Try.underlying9 w0) trodAll_mk0), rfl, bel.frame _, fun h => by cases h⟩

/-- THE STATEMENT -/
theorem fnExactReadField_holds : Rows.FnExactReadFieldSaid :=
  OpenClaim.holds_of_wide 6 Try.f6 rfl rfl rfl rfl rfl rfl rfl ⟨rfl, rfl, rfl, rfl, rfl⟩ rfl rfl rfl rfl rfl (by kernel_rfl) Try.func6 (by kernel_rfl)
    (of_decide_eq_true (by kernel_rfl)) (by unfold Func.isWrapper; first | (rw [if_pos (by decide +kernel)]; kernel_rfl) | (rw [if_neg (by decide +kernel)]; exact ⟨rfl, rfl⟩))
    (fun os started H enc _ => fnExactReadField_lifted os started H enc)
#print axioms fnExactReadField_holds
end Go.Proofs.Ytbdggopdhnlbfab
