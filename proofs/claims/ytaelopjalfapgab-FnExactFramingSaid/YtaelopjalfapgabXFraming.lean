/-
  FnExactFraming: at every argument impl.Framing answers as spec.Framing, and writes into no argument. No condition (what is greater than 2^20 is passed by the law itself).
-/
import Derived.Test.YtaelopjalfapgabRows
import Derived.Test.YtaelopjalfapgabH8
import Derived.Test.YtaelopjalfapgabH9
import Derived.Test.YtaelopjalfapgabOpenF
namespace Go.Proofs.Ytaelopjalfapgab
set_option linter.unusedVariables false
set_option linter.unusedSimpArgs false
open Go.ChangeShapes Go.WideShapes Go.ChangeAt Go.RowKit
open Go.ChangeMaps (open_string shut_string)
set_option maxHeartbeats 2000000 in
theorem fnExactFraming_walk (a : Option Addr) (len cap : Nat) (l : List Fd) (answer bare : Bool) (w : World) (hx : ArgF w a len l) (hl : len ≤ maxLen) (hd : ∀ j, j < len → ((fdAt l j).1.size ≤ maxLen ∧ (fdAt l j).2.size ≤ maxLen)) :
    Calls Try.prog 3 #[.slice a len cap, .bool answer, .bool bare] w fun e w' => e = .returned (.bool true) ∧ Below w.heap.size w w' := by
  go_enter Try.func3, Try.ntmps3
  go_wp2_with fail
  refine (szFieldS_any a len cap l _ hx hl hd).mono ?_
  rintro e w1 ⟨rfl, hb1⟩
  by_cases hs : len + totF l ≤ 1048576
  · rw [if_pos hs]
    have hlx : l.length = len := hx.1
    have hlm : len ≤ 1048576 := by omega
    have htm : totF l ≤ 1099511627776 := by omega
    have hge : ¬ 1048576 - (len : Int) - (totF l : Int) < 0 := by omega
    have hlm' : l.length ≤ 1048576 := by omega
    have HS := hideB2 (fun (b : Nat) (W : World) (h : SlF W (.slice (some ⟨b, 0, none⟩) len len) l) => sFraming_any (.slice (some ⟨b, 0, none⟩) len len) l answer bare W h hlm' htm)
    have HI := hideB2 (fun (b : Nat) (W : World) (h : SlF W (.slice (some ⟨b, 0, none⟩) len len) l) => Framing_any (.slice (some ⟨b, 0, none⟩) len len) l answer bare W h hlm' htm)
    generalize frK l answer bare = K at *
    generalize frN l answer bare = N at *
    have hkk : (K != K) = false := by simp
    have hnn : (N != N) = false := by simp
    have HLX := hideB2 hlx
    generalize totF l = tt at *
    clear hlx hd
    go_wp2_with fail
    refine (toFieldS_any a len cap l _ (hx.later hb1) hlm).mono ?_
    rintro e w2 ⟨rfl, hr2, hb2⟩
    go_wp2_with fail
    refine (HS.out _ _ (hr2.sl HLX.out len)).mono ?_
    rintro e w3 ⟨rfl, hb3⟩
    have hbw3 := below_then (below_then hb1 hb2) hb3
    go_wp2_with fail
    refine (toFieldS_any a len cap l _ (hx.later hbw3) hlm).mono ?_
    rintro e w4 ⟨rfl, hr4, hb4⟩
    go_wp2_with fail
    refine (HI.out _ _ (hr4.sl HLX.out len)).mono ?_
    rintro e w5 ⟨rfl, hb5⟩
    have hbw5 := below_then (below_then hbw3 hb4) hb5
    have hr5 := hr4.keep hb5
    clear hr2 hb2 hb3 hr4
    go_wp2_with fail
    refine (toFieldS_any a len cap l _ (hx.later hbw5) hlm).mono ?_
    rintro e w6 ⟨rfl, hr6, hb6⟩
    go_wp2_with fail
    refine (eqFieldS_same _ _ l _ ((hr5.keep hb6).sl HLX.out len) (hr6.sl HLX.out len) hlm').mono ?_
    rintro e w7 ⟨rfl, hb7⟩
    have HB := hideB2 (below_then (below_then hbw5 hb6) hb7)
    clear hr5 hr6 hb6 hb7 hbw5 hbw3
    go_wp2
    go_ret
    exact ⟨rfl, HB.out⟩
  · rw [if_neg hs]
    go_wp2
    go_ret
    exact ⟨rfl, hb1⟩

set_option maxRecDepth 100000 in
theorem fnExactFraming_lifted (os : Os) (started : os.Started) (H : Type) (enc : TypeId × Value → H) :
    ReturnsInHanded {} Try.checked os 3 .any (Rows.fnExactFramingSpec.pre6 enc Try.prog Try.f3 Rows.fnExactFramingRow.domain false) (Rows.fnExactFramingSpec.post enc Try.prog Try.f3 false true false false) := by
  refine returnsInHanded_of_change (C := Try.checked) Try.own started (by kernel_rfl) Try.func3
    (ChangeSpec.witness6 (enc := enc) (C := Try.checked) false ⟨#[], #[.slice none 0 0, .bool false, .bool false], []⟩ 8 (by kernel_rfl) (by kernel_rfl) (by kernel_rfl) (by kernel_rfl)) ?_
  intro W base args ds gs before hval0 hW hcnd _
  have hval : ∀ (j : Nat) t v, Try.f3.params[j]? = some t → args[j]? = some v → Value.okWide Try.prog W .any base t v := hval0
  have hW' := hW
  obtain ⟨p, q, hA0, hV, rfl, hfz, hnd⟩ := hW
  have hA : DataW.TrodAll enc Try.prog W 0 (fun _ => true) true Try.f3.params.toList args.toList ds p := hA0
  rw [Try.params3] at hA hval
  obtain ⟨v0, vs0, d0, ds0, p0, q0, hargs, rfl, rfl, h0, r0⟩ := trodAll_cons hA
  obtain ⟨v1, vs1, d1, ds1, p1, q1, rfl, rfl, rfl, h1, r1⟩ := trodAll_cons r0
  obtain ⟨v2, vs2, d2, ds2, p2, q2, rfl, rfl, rfl, h2, r2⟩ := trodAll_cons r1
  obtain ⟨rfl, rfl, rfl⟩ := trodAll_nil r2
  obtain rfl : args = #[v0, v1, v2] := by cases args; simp_all
  obtain ⟨rfl, rfl⟩ := trodVars_none hV
  obtain ⟨a0, len0, cap0, rfl⟩ := okWide_slice Try.underlying22 (hval 0 22 v0 rfl rfl)
  have k0 := h0
  have lt0 : ∀ x ∈ p0, x.block < W.heap.size := by obtain ⟨m, hm⟩ := k0; exact DataW.trod_lt m _ _ _ hm
  obtain ⟨l0, w0, wl0, wd0⟩ := argF_in h0
  obtain ⟨a1, rfl, rfl, rfl⟩ := open_bool Try.underlying4 (hval 1 4 v1 rfl rfl) h1
  obtain ⟨a2, rfl, rfl, rfl⟩ := open_bool Try.underlying4 (hval 2 4 v2 rfl rfl) h2
  clear hA0 hval0
  refine (fnExactFraming_walk a0 len0 cap0 l0 a1 a2 W w0 wl0 wd0).mono fun e W' ⟨he, bel⟩ => ?_
  subst he
  exact ⟨_, rfl, _, _, _, [], _, [], hW', trodAll_mk1 (shut_bool Try.underlying4 _), (trodAll_cons_mk (Below.trod Try.laidOut (by kernel_rfl) (of_decide_eq_true (by kernel_rfl)) k0 bel lt0) (trodAll_cons_mk (shut_bool Try.underlying4 a1) (trodAll_cons_mk (shut_bool Try.underlying4 a2) trodAll_mk0))), rfl, bel.frame _, fun h => by cases h⟩

/-- THE STATEMENT -/
theorem fnExactFraming_holds : Rows.FnExactFramingSaid :=
  OpenClaim.holds_of_wide 3 Try.f3 rfl rfl rfl rfl rfl rfl rfl ⟨rfl, rfl, rfl, rfl, rfl⟩ rfl rfl rfl rfl rfl (by kernel_rfl) Try.func3 (by kernel_rfl)
    (of_decide_eq_true (by kernel_rfl)) (by unfold Func.isWrapper; first | (rw [if_pos (by decide +kernel)]; kernel_rfl) | (rw [if_neg (by decide +kernel)]; exact ⟨rfl, rfl⟩))
    (fun os started H enc _ => fnExactFraming_lifted os started H enc)
#print axioms fnExactFraming_holds
end Go.Proofs.Ytaelopjalfapgab
