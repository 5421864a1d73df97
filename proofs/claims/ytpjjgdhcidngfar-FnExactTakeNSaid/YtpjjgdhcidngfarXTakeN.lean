/-
  FnExactTakeN: at every cursor and number impl.TakeN answers as spec.TakeN. No condition.
-/
import Derived.Test.YtpjjgdhcidngfarW11b
import Derived.Test.YtpjjgdhcidngfarOpen
namespace Go.Proofs.Ytpjjgdhcidngfar
set_option linter.unusedVariables false
set_option linter.unusedSimpArgs false
open Go.ChangeShapes Go.WideShapes Go.ChangeAt Go.RowKit
open Go.ChangeMaps (open_string shut_string)
theorem tnV_form (s : ByteArray) (n m : Int) : ∃ (a b : ByteArray) (c : Int) (d : Bool), tnV s n m = .tuple #[.string a, .agg #[.string b, .int .i64 c], .bool d] := by
  unfold tnV
  split
  · exact ⟨_, _, _, _, rfl⟩
  · exact ⟨_, _, _, _, rfl⟩
theorem wf_hi {n : Int} (h : (Lit.int .i64 n).wf = true) : n ≤ 9223372036854775807 := (bounds_i64 h).2
set_option maxHeartbeats 1000000 in
theorem fnExactTakeN_walk (s0 : ByteArray) (n0 a1 : Int) (w : World) (w0 : s0.size ≤ maxLen) (x0 : (Lit.int .i64 n0).wf = true) (w1 : (Lit.int .i64 a1).wf = true) :
    Calls Try.prog 5 #[.agg #[.string s0, .int .i64 n0], .int .i64 a1] w fun e w' => e = .returned (.bool true) ∧ Below w.heap.size w w' := by
  have ha := wf_hi w1
  obtain ⟨ra, rb, rc, rd, hform⟩ := tnV_form s0 n0 a1
  have HF : Hid (tnV s0 n0 a1 = .tuple #[.string ra, .agg #[.string rb, .int .i64 rc], .bool rd]) := hform
  clear hform
  go_enter Try.func5, Try.ntmps5
  go_wp2_with fail
  refine (szCur_any s0 n0 _ w0).mono ?_
  rintro e w1 ⟨rfl, hb1⟩
  obtain ⟨q0, q1, qz⟩ := keep2 (b := w.heap.size) (x := .string s0) (y := .int .i64 n0) hb1 (by simp) (by simp)
  have g1 : Below w.heap.size w w1 := ((Below.refl _ _).alloc (Nat.le_refl _) _).trans (hb1.mono (by simp))
  clear hb1
  by_cases hbig : (1048576 : Int) < (s0.size : Int)
  · rw [if_pos hbig]
    go_wp2
    go_ret
    exact ⟨rfl, g1⟩
  · rw [if_neg hbig]
    go_wp2_with fail
    refine (toCur_any s0 n0 _).mono ?_
    rintro e w2 ⟨rfl, hb2⟩
    obtain ⟨p0, p1, pz⟩ := keep2 hb2 q0 q1
    have g2 := g1.trans (hb2.mono g1.size)
    clear q0 q1 qz hb2 g1
    go_wp2_with fail
    refine (sTakeN_any s0 n0 a1 _ w0 ha).mono ?_
    rintro e w3 ⟨rfl, hb3⟩
    rw [HF.out]
    obtain ⟨q0, q1, qz⟩ := keep2 hb3 p0 p1
    have g3 := g2.trans (hb3.mono g2.size)
    clear p0 p1 pz hb3 g2
    go_wp2_with fail
    refine (toCur_any s0 n0 _).mono ?_
    rintro e w4 ⟨rfl, hb4⟩
    obtain ⟨p0, p1, pz⟩ := keep2 (b := w.heap.size) (x := .string s0) (y := .int .i64 n0) hb4 (cell_later ((Below.refl _ w3).alloc (Nat.le_refl _) _) q0) (cell_later ((Below.refl _ w3).alloc (Nat.le_refl _) _) q1)
    obtain ⟨l0, l1, lz⟩ := keep2 (b := w3.heap.size) (x := .string rb) (y := .int .i64 rc) hb4 (by simp) (by simp)
    have g3' := g3.alloc g3.size (.cells #[.string rb, .int .i64 rc] 26)
    have g4 := g3'.trans (hb4.mono g3'.size)
    clear q0 q1 qz hb4 g3 g3'
    go_wp2_with fail
    refine (TakeN_any s0 n0 a1 _ w0 ha).mono ?_
    rintro e w5 ⟨rfl, hb5⟩
    rw [HF.out]
    obtain ⟨m0, m1, mz⟩ := keep2 hb5 l0 l1
    have g5 := g4.trans (hb5.mono g4.size)
    clear p0 p1 pz l0 l1 lz hb5 g4
    go_wp2_with fail
    refine (eqCur_same rb rc _).mono ?_
    rintro e w6 ⟨rfl, hb6⟩
    have g5' := g5.alloc g5.size (.cells #[.string rb, .int .i64 rc] 26)
    have g6 := g5'.trans (hb6.mono g5'.size)
    clear hb6 g5 g5'
    cases rd
    all_goals
      go_wp2
      go_ret
      exact ⟨rfl, g6⟩

set_option maxRecDepth 100000 in
theorem fnExactTakeN_lifted (os : Os) (started : os.Started) (H : Type) (enc : TypeId × Value → H) :
    ReturnsInHanded {} Try.checked os 5 .any (Rows.fnExactTakeNSpec.pre6 enc Try.prog Try.f5 Rows.fnExactTakeNRow.domain false) (Rows.fnExactTakeNSpec.post enc Try.prog Try.f5 false true false false) := by
  refine returnsInHanded_of_change (C := Try.checked) Try.own started (by kernel_rfl) Try.func5
    (ChangeSpec.witness6 (enc := enc) (C := Try.checked) false ⟨#[], #[.agg #[.string ByteArray.empty, .int .i64 0], .int .i64 0], []⟩ 8 (by kernel_rfl) (by kernel_rfl) (by kernel_rfl) (by kernel_rfl)) ?_
  intro W base args ds gs before hval0 hW hcnd _
  have hval : ∀ (j : Nat) t v, Try.f5.params[j]? = some t → args[j]? = some v → Value.okWide Try.prog W .any base t v := hval0
  have hW' := hW
  obtain ⟨p, q, hA0, hV, rfl, hfz, hnd⟩ := hW
  have hA : DataW.TrodAll enc Try.prog W 0 (fun _ => true) true Try.f5.params.toList args.toList ds p := hA0
  rw [Try.params5] at hA hval
  obtain ⟨v0, vs0, d0, ds0, p0, q0, hargs, rfl, rfl, h0, r0⟩ := trodAll_cons hA
  obtain ⟨v1, vs1, d1, ds1, p1, q1, rfl, rfl, rfl, h1, r1⟩ := trodAll_cons r0
  obtain ⟨rfl, rfl, rfl⟩ := trodAll_nil r1
  obtain rfl : args = #[v0, v1] := by cases args; simp_all
  obtain ⟨rfl, rfl⟩ := trodVars_none hV
  have k0 := h0
  have lt0 : ∀ x ∈ p0, x.block < W.heap.size := by obtain ⟨m, hm⟩ := k0; exact DataW.trod_lt m _ _ _ hm
  obtain ⟨c0, e0, y0, z0, m0, hv0, _, _, hy0, hz0⟩ := Joins.open_agg2 Try.underlying23 (by kernel_rfl) (by kernel_rfl) (hval 0 23 v0 rfl rfl) h0
  obtain ⟨s0, es0, _, w0⟩ := DataW.trod_string Try.underlying9 hy0
  obtain ⟨n0, en0, _, x0⟩ := DataW.trod_int Try.underlying3 hz0
  simp at es0 en0
  subst es0 en0
  subst hv0
  obtain ⟨a1, rfl, rfl, rfl, w1⟩ := open_int Try.underlying3 (hval 1 3 v1 rfl rfl) h1
  clear hA0 hval0
  refine (fnExactTakeN_walk s0 n0 a1 W w0 x0 w1).mono fun e W' ⟨he, bel⟩ => ?_
  subst he
  exact ⟨_, rfl, _, _, _, [], _, [], hW', trodAll_mk1 (shut_bool Try.underlying4 _), (trodAll_cons_mk (Below.trod Try.laidOut (by kernel_rfl) (of_decide_eq_true (by kernel_rfl)) k0 bel lt0) (trodAll_cons_mk (shut_int Try.underlying3 w1) trodAll_mk0)), rfl, bel.frame _, fun h => by cases h⟩

/-- THE STATEMENT -/
theorem fnExactTakeN_holds : Rows.FnExactTakeNSaid :=
  OpenClaim.holds_of_wide 5 Try.f5 rfl rfl rfl rfl rfl rfl rfl ⟨rfl, rfl, rfl, rfl, rfl⟩ rfl rfl rfl rfl rfl (by kernel_rfl) Try.func5 (by kernel_rfl)
    (of_decide_eq_true (by kernel_rfl)) (by unfold Func.isWrapper; first | (rw [if_pos (by decide +kernel)]; kernel_rfl) | (rw [if_neg (by decide +kernel)]; exact ⟨rfl, rfl⟩))
    (fun os started H enc _ => fnExactTakeN_lifted os started H enc)
#print axioms fnExactTakeN_holds
end Go.Proofs.Ytpjjgdhcidngfar
