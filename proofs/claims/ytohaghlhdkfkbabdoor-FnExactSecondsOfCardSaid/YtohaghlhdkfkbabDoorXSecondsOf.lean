/-
  FnExactSecondsOf: at every argument impl.SecondsOf answers as spec.SecondsOf. The table of the months' lengths is laid by the program's own text (the card).
-/
import Derived.Test.YtohaghlhdkfkbabDoorWC5
import Derived.Test.YtohaghlhdkfkbabDoorWLaw
import Derived.Test.YtohaghlhdkfkbabDoorOpenD
import Derived.Test.YtohaghlhdkfkbabDoorCards
import Derived.Test.YtohaghlhdkfkbabDoorTie
namespace Go.Proofs.YtohaghlhdkfkbabDoor
set_option linter.unusedVariables false
set_option linter.unusedSimpArgs false
open Go.ChangeShapes Go.WideShapes Go.ChangeAt Go.RowKit
open Go.ChangeMaps (open_string shut_string)
theorem fnExactSecondsOf_tabs {W : World} (h : laidMet Tryd.prog Rows.fnExactSecondsOfRow.laid W) : MonTab W := montab_of_laid (.head _) h
set_option maxHeartbeats 1000000 in
theorem fnExactSecondsOf_walk (y m d h i s : Int) (w : World) (_ : (Lit.int .i64 y).wf = true) (_ : (Lit.int .i64 m).wf = true) (_ : (Lit.int .i64 d).wf = true) (_ : (Lit.int .i64 h).wf = true) (_ : (Lit.int .i64 i).wf = true) (_ : (Lit.int .i64 s).wf = true) (hM : MonTab w) :
    Calls Tryd.prog 3 #[civ y m d h i s] w fun e w' => e = .returned (.bool true) ∧ Below w.heap.size w w' := by
  have key : ∃ (t : Int) (r : Bool), (∀ w, Calls Tryd.prog 8 #[civ y m d h i s] w fun e w' => e = .returned (.tuple #[.int .i64 t, .bool r]) ∧ Below w.heap.size w w') ∧
      (∀ w, MonTab w → Calls Tryd.prog 10 #[civ y m d h i s] w fun e w' => e = .returned (.tuple #[.int .i64 t, .bool r]) ∧ Below w.heap.size w w') := by
    cases hv : vldB y m d h i s
    · exact ⟨0, false, fun w => sSecondsOf_no y m d h i s w hv, fun w hM => SecondsOf_no y m d h i s w hM hv⟩
    · have v := vldB_iff.1 hv
      obtain ⟨k, rfl⟩ := Int.eq_ofNat_of_zero_le (a := m) (by have := v.2.2.1; omega)
      exact ⟨_, true, fun w => sSecondsOf_yes y k d h i s w hv, fun w hM => SecondsOf_yes y k d h i s w hM hv⟩
  obtain ⟨t, r, hs, hi⟩ := key
  have HS : Hid (∀ w, Calls Tryd.prog 8 #[civ y m d h i s] w fun e w' => e = .returned (.tuple #[.int .i64 t, .bool r]) ∧ Below w.heap.size w w') := hs
  have HI : Hid (∀ w, MonTab w → Calls Tryd.prog 10 #[civ y m d h i s] w fun e w' => e = .returned (.tuple #[.int .i64 t, .bool r]) ∧ Below w.heap.size w w') := hi
  clear hs hi
  go_enter Tryd.func3, Tryd.ntmps3
  go_wp2_with fail
  refine (toCivil_any y m d h i s _).mono ?_
  rintro e w1 ⟨rfl, hb1⟩
  go_wp2_with fail
  refine (HS.out _).mono ?_
  rintro e w2 ⟨rfl, hb2⟩
  have B2 := below_then hb1 hb2
  have BW := below_then (below_a1 w _) B2
  have hM2 := hM.below BW
  obtain ⟨hc1, hf1⟩ := bcell2 B2
  clear hb1 hb2 B2 hM
  go_wp2_with fail
  refine (toCivil_any y m d h i s _).mono ?_
  rintro e w3 ⟨rfl, hb3⟩
  have hM3 := hM2.below hb3
  have BW3 := below_then BW hb3
  clear hM2 hb3 BW hc1 hf1
  go_wp2_with fail
  refine (HI.out _ hM3).mono ?_
  rintro e w4 ⟨rfl, hb4⟩
  have BW4 := below_then BW3 hb4
  clear hM3 hb4 BW3
  cases r
  all_goals
    go_wp2
    go_ret
    exact ⟨rfl, BW4⟩

/-- A world that meets the condition: the settled one, the listed tables laid. -/
theorem fnExactSecondsOf_laid_met (os : Os) (args : Array Value) : laidMet Tryd.prog Rows.fnExactSecondsOfRow.laid (({ (World.holding Tryd.prog os ⟨#[], #[], []⟩) with heap := ((World.holding Tryd.prog os ⟨#[], #[], []⟩).heap.modify 2 (laidRow #[.int .i64 0, .int .i64 31, .int .i64 28, .int .i64 31, .int .i64 30, .int .i64 31, .int .i64 30, .int .i64 31, .int .i64 31, .int .i64 30, .int .i64 31, .int .i64 30, .int .i64 31])) } : World).forCall (fun _ _ => 0) ⟨#[], args, []⟩).memory :=
  laidMet_of_run' 8 (by kernel_rfl) (by kernel_rfl)
set_option maxRecDepth 100000 in
theorem fnExactSecondsOf_lifted (os : Os) (started : os.Started) (H : Type) (enc : TypeId × Value → H) :
    ReturnsInHanded {} Tryd.checked os 3 .any (fun w args => (Rows.fnExactSecondsOfSpec.pre enc Tryd.prog Tryd.f3 [] false w args ∧ laidMetH Tryd.prog Rows.fnExactSecondsOfRow.laid w) ∧ sizedMet enc Tryd.prog Tryd.f3 (OpenSpec.ofChange Rows.fnExactSecondsOfSpec) false w args)
      (Rows.fnExactSecondsOfSpec.post enc Tryd.prog Tryd.f3 false true false false) := by
  refine returnsInHanded_of_change_and (C := Tryd.checked) (X := fun w _ => laidMetH Tryd.prog Rows.fnExactSecondsOfRow.laid w) (fun _ _ _ hh h => h.of_heap hh) Tryd.own started (by kernel_rfl) Tryd.func3
    (ChangeSpec.witness_at (enc := enc) (C := Tryd.checked) (os := os) (X := fun w _ => laidMetH Tryd.prog Rows.fnExactSecondsOfRow.laid w) false ({ (World.holding Tryd.prog os ⟨#[], #[], []⟩) with heap := ((World.holding Tryd.prog os ⟨#[], #[], []⟩).heap.modify 2 (laidRow #[.int .i64 0, .int .i64 31, .int .i64 28, .int .i64 31, .int .i64 30, .int .i64 31, .int .i64 30, .int .i64 31, .int .i64 31, .int .i64 30, .int .i64 31, .int .i64 30, .int .i64 31])) } : World) #[civ 0 0 0 0 0 0] 8 rfl (by kernel_rfl) (by kernel_rfl) (by kernel_rfl) (by kernel_rfl) (by kernel_rfl) (fnExactSecondsOf_laid_met os _)) ?_
  intro W base args ds gs before hval0 hW _ _ hL _
  have hval : ∀ (j : Nat) t v, Tryd.f3.params[j]? = some t → args[j]? = some v → Value.okWide Tryd.prog W .any base t v := hval0
  have hW' := hW
  obtain ⟨p, q, hA0, hV, rfl, hfz, hnd⟩ := hW
  have hA : DataW.TrodAll enc Tryd.prog W 0 (fun _ => true) true Tryd.f3.params.toList args.toList ds p := hA0
  rw [Tryd.params3] at hA hval
  obtain ⟨v0, vs0, d0, ds0, p0, q0, hargs, rfl, rfl, h0, r0⟩ := trodAll_cons hA
  obtain ⟨rfl, rfl, rfl⟩ := trodAll_nil r0
  obtain rfl : args = #[v0] := by cases args; simp_all
  obtain ⟨g1, rfl⟩ := trodVars_one' hV
  have k0 := h0
  have lt0 : ∀ x ∈ p0, x.block < W.heap.size := by obtain ⟨m, hm⟩ := k0; exact DataW.trod_lt m _ _ _ hm
  obtain ⟨ya0, yb0, yc0, yd0, ye0, yf0, rfl, wa0, wb0, wc0, wd0, we0, wf0⟩ := open_civ Tryd.underlying23 (by kernel_rfl) (by kernel_rfl) Tryd.underlying3 Tryd.underlying3 Tryd.underlying3 Tryd.underlying3 Tryd.underlying3 Tryd.underlying3 (hval 0 23 v0 rfl rfl) h0
  have tabs := fnExactSecondsOf_tabs (W := W) hL
  clear hA0 hval0
  refine (fnExactSecondsOf_walk ya0 yb0 yc0 yd0 ye0 yf0 W wa0 wb0 wc0 wd0 we0 wf0 tabs).mono fun e W' ⟨he, bel⟩ => ?_
  subst he
  exact ⟨_, rfl, _, _, _, [], _, _, hW', trodAll_mk1 (shut_bool Tryd.underlying4 _), (trodAll_cons_mk (Below.trod Tryd.laidOut (by kernel_rfl) (of_decide_eq_true (by kernel_rfl)) k0 bel lt0) trodAll_mk0), (Below.trodVars Tryd.laidOut bel (by kernel_rfl) hV), bel.frame _, fun h => by cases h⟩
theorem fnExactSecondsOf_row : Rows.FnExactSecondsOfSaid :=
  OpenClaim.holds_of_wide 3 Tryd.f3 rfl rfl rfl rfl rfl rfl rfl ⟨rfl, rfl, rfl, rfl, rfl⟩ rfl rfl rfl rfl rfl (by kernel_rfl) Tryd.func3 (by kernel_rfl)
    (of_decide_eq_true (by kernel_rfl)) (by unfold Func.isWrapper; first | (rw [if_pos (by decide +kernel)]; kernel_rfl) | (rw [if_neg (by decide +kernel)]; exact ⟨rfl, rfl⟩))
    (fun os started H enc _ => fnExactSecondsOf_lifted os started H enc)
/-- THE STATEMENT: the card. -/
theorem fnExactSecondsOf_holds : Rows.FnExactSecondsOfCardSaid :=
  Claim7.holds_tied_plain_at .later [] [.data] true (true, "8c777804a68aa69b2ae620b8c169aff2c49811e61d0675b3fa43241265f634f7") false
    fnExactSecondsOf_row (fun _ h => by cases h) (by kernel_rfl) (fun _ h => by cases h) fnExactSecondsOf_row_tie rfl ⟨rfl, rfl⟩ (by kernel_rfl) rfl
    (fun f fn hf hfn => by
      obtain rfl : f = 3 := Option.some.inj ((show Tryd.prog.funcNamed "loop.example/g00651/laws.FnExactSecondsOf" = some 3 by kernel_rfl).symm.trans hf) |>.symm
      obtain rfl : fn = Tryd.f3 := (Option.some.inj (Tryd.func3.symm.trans hfn)).symm
      exact ⟨by kernel_rfl, fun j t ht => by
        rw [Tryd.params3] at ht
        have h3 : t = 23 := by
          rcases j with _ | j
          · simpa using ht.symm
          · simp at ht
        subst h3
        exact (show Tryd.prog.wantsStandIn 23 = false by kernel_rfl)⟩)
    (by kernel_rfl)
#print axioms fnExactSecondsOf_holds
end Go.Proofs.YtohaghlhdkfkbabDoor
