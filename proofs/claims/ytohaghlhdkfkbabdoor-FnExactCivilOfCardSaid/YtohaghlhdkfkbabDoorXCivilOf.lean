/-
  FnExactCivilOf: at every argument impl.CivilOf answers as spec.CivilOf. The table of the months' lengths is laid by the program's own text (the card).
-/
import Derived.Test.YtohaghlhdkfkbabDoorWC5
import Derived.Test.YtohaghlhdkfkbabDoorWLaw2
import Derived.Test.YtohaghlhdkfkbabDoorOpenD
import Derived.Test.YtohaghlhdkfkbabDoorCards
import Derived.Test.YtohaghlhdkfkbabDoorTie
namespace Go.Proofs.YtohaghlhdkfkbabDoor
set_option linter.unusedVariables false
set_option linter.unusedSimpArgs false
open Go.ChangeShapes Go.WideShapes Go.ChangeAt Go.RowKit
open Go.ChangeMaps (open_string shut_string)
theorem fnExactCivilOf_tabs {W : World} (h : laidMet Tryd.prog Rows.fnExactCivilOfRow.laid W) : MonTab W := montab_of_laid (.head _) h
set_option maxHeartbeats 1000000 in
theorem fnExactCivilOf_walk (t : Int) (w : World) (_ : (Lit.int .i64 t).wf = true) (hM : MonTab w) :
    Calls Tryd.prog 4 #[.int .i64 t] w fun e w' => e = .returned (.bool true) ∧ Below w.heap.size w w' := by
  have key : ∃ (y m d h i s : Int) (r : Bool), (∀ w, Calls Tryd.prog 11 #[.int .i64 t] w fun e w' => e = .returned (.tuple #[civ y m d h i s, .bool r]) ∧ Below w.heap.size w w') ∧
      (∀ w, MonTab w → Calls Tryd.prog 12 #[.int .i64 t] w fun e w' => e = .returned (.tuple #[civ y m d h i s, .bool r]) ∧ Below w.heap.size w w') := by
    by_cases ht : 0 ≤ t ∧ t ≤ 253402300799
    · obtain ⟨y, m, d, h, i, s, hv, e⟩ := civ_of t ht.1 ht.2
      obtain ⟨k, rfl⟩ := Int.eq_ofNat_of_zero_le (a := m) (by have := hv.2.2.1; omega)
      exact ⟨y, k, d, h, i, s, true, fun w => sCivilOf_yes t y k d h i s w hv e, fun w hM => CivilOf_yes t y k d h i s w hM hv e⟩
    · exact ⟨0, 0, 0, 0, 0, 0, false, fun w => sCivilOf_no t w ht, fun w hM => CivilOf_no t w ht⟩
  obtain ⟨y, m, d, h, i, s, r, hs, hi⟩ := key
  have HS : Hid (∀ w, Calls Tryd.prog 11 #[.int .i64 t] w fun e w' => e = .returned (.tuple #[civ y m d h i s, .bool r]) ∧ Below w.heap.size w w') := hs
  have HI : Hid (∀ w, MonTab w → Calls Tryd.prog 12 #[.int .i64 t] w fun e w' => e = .returned (.tuple #[civ y m d h i s, .bool r]) ∧ Below w.heap.size w w') := hi
  clear hs hi
  go_enter Tryd.func4, Tryd.ntmps4
  go_wp2_with fail
  refine (HS.out _).mono ?_
  rintro e w1 ⟨rfl, hb1⟩
  have BW := below_then hb1 (below_a1 w1 (.cells #[.int .i64 y, .int .i64 m, .int .i64 d, .int .i64 h, .int .i64 i, .int .i64 s] 26))
  have hM1 := hM.below BW
  clear hb1 hM
  go_wp2_with fail
  refine (HI.out _ hM1).mono ?_
  rintro e w2 ⟨rfl, hb2⟩
  obtain ⟨hc1, hf1⟩ := bcell2 hb2
  have hz := hb2.size
  have hc2 : ∀ o, w2.cell? ⟨w1.heap.size, o, none⟩ = (w1.alloc (.cells #[.int .i64 y, .int .i64 m, .int .i64 d, .int .i64 h, .int .i64 i, .int .i64 s] 26)).cell? ⟨w1.heap.size, o, none⟩ := fun o => hc1 w1.heap.size o (by simp)
  have BW2 := below_then BW hb2
  have BW3 := below_then BW2 (below_a1 w2 (.cells #[.int .i64 y, .int .i64 m, .int .i64 d, .int .i64 h, .int .i64 i, .int .i64 s] 26))
  have hne : w1.heap.size ≠ w2.heap.size := by simp at hz; omega
  have hlt : w1.heap.size < w2.heap.size := by simp at hz; omega
  clear hb2 hc1 hf1 hM1 BW2 BW hz
  go_wp2_with fail
  refine (eqCivil_same y m d h i s _).mono ?_
  rintro e w3 ⟨rfl, hb3⟩
  have BW4 := below_then BW3 hb3
  clear hb3 BW3
  cases r
  all_goals
    go_wp2
    go_ret
    exact ⟨rfl, BW4⟩

/-- A world that meets the condition: the settled one, the listed tables laid. -/
theorem fnExactCivilOf_laid_met (os : Os) (args : Array Value) : laidMet Tryd.prog Rows.fnExactCivilOfRow.laid (({ (World.holding Tryd.prog os ⟨#[], #[], []⟩) with heap := ((World.holding Tryd.prog os ⟨#[], #[], []⟩).heap.modify 2 (laidRow #[.int .i64 0, .int .i64 31, .int .i64 28, .int .i64 31, .int .i64 30, .int .i64 31, .int .i64 30, .int .i64 31, .int .i64 31, .int .i64 30, .int .i64 31, .int .i64 30, .int .i64 31])) } : World).forCall (fun _ _ => 0) ⟨#[], args, []⟩).memory :=
  laidMet_of_run' 8 (by kernel_rfl) (by kernel_rfl)
set_option maxRecDepth 100000 in
theorem fnExactCivilOf_lifted (os : Os) (started : os.Started) (H : Type) (enc : TypeId × Value → H) :
    ReturnsInHanded {} Tryd.checked os 4 .any (fun w args => (Rows.fnExactCivilOfSpec.pre enc Tryd.prog Tryd.f4 [] false w args ∧ laidMetH Tryd.prog Rows.fnExactCivilOfRow.laid w) ∧ sizedMet enc Tryd.prog Tryd.f4 (OpenSpec.ofChange Rows.fnExactCivilOfSpec) false w args)
      (Rows.fnExactCivilOfSpec.post enc Tryd.prog Tryd.f4 false true false false) := by
  refine returnsInHanded_of_change_and (C := Tryd.checked) (X := fun w _ => laidMetH Tryd.prog Rows.fnExactCivilOfRow.laid w) (fun _ _ _ hh h => h.of_heap hh) Tryd.own started (by kernel_rfl) Tryd.func4
    (ChangeSpec.witness_at (enc := enc) (C := Tryd.checked) (os := os) (X := fun w _ => laidMetH Tryd.prog Rows.fnExactCivilOfRow.laid w) false ({ (World.holding Tryd.prog os ⟨#[], #[], []⟩) with heap := ((World.holding Tryd.prog os ⟨#[], #[], []⟩).heap.modify 2 (laidRow #[.int .i64 0, .int .i64 31, .int .i64 28, .int .i64 31, .int .i64 30, .int .i64 31, .int .i64 30, .int .i64 31, .int .i64 31, .int .i64 30, .int .i64 31, .int .i64 30, .int .i64 31])) } : World) #[.int .i64 0] 8 rfl (by kernel_rfl) (by kernel_rfl) (by kernel_rfl) (by kernel_rfl) (by kernel_rfl) (fnExactCivilOf_laid_met os _)) ?_
  intro W base args ds gs before hval0 hW _ _ hL _
  have hval : ∀ (j : Nat) t v, Tryd.f4.params[j]? = some t → args[j]? = some v → Value.okWide Tryd.prog W .any base t v := hval0
  have hW' := hW
  obtain ⟨p, q, hA0, hV, rfl, hfz, hnd⟩ := hW
  have hA : DataW.TrodAll enc Tryd.prog W 0 (fun _ => true) true Tryd.f4.params.toList args.toList ds p := hA0
  rw [Tryd.params4] at hA hval
  obtain ⟨v0, vs0, d0, ds0, p0, q0, hargs, rfl, rfl, h0, r0⟩ := trodAll_cons hA
  obtain ⟨rfl, rfl, rfl⟩ := trodAll_nil r0
  obtain rfl : args = #[v0] := by cases args; simp_all
  obtain ⟨g1, rfl⟩ := trodVars_one' hV
  obtain ⟨a0, rfl, rfl, rfl, w0⟩ := open_int Tryd.underlying3 (hval 0 3 v0 rfl rfl) h0
  have tabs := fnExactCivilOf_tabs (W := W) hL
  clear hA0 hval0
  refine (fnExactCivilOf_walk a0 W w0 tabs).mono fun e W' ⟨he, bel⟩ => ?_
  subst he
  exact ⟨_, rfl, _, _, _, [], _, _, hW', trodAll_mk1 (shut_bool Tryd.underlying4 _), (trodAll_cons_mk (shut_int Tryd.underlying3 w0) trodAll_mk0), (Below.trodVars Tryd.laidOut bel (by kernel_rfl) hV), bel.frame _, fun h => by cases h⟩
theorem fnExactCivilOf_row : Rows.FnExactCivilOfSaid :=
  OpenClaim.holds_of_wide 4 Tryd.f4 rfl rfl rfl rfl rfl rfl rfl ⟨rfl, rfl, rfl, rfl, rfl⟩ rfl rfl rfl rfl rfl (by kernel_rfl) Tryd.func4 (by kernel_rfl)
    (of_decide_eq_true (by kernel_rfl)) (by unfold Func.isWrapper; first | (rw [if_pos (by decide +kernel)]; kernel_rfl) | (rw [if_neg (by decide +kernel)]; exact ⟨rfl, rfl⟩))
    (fun os started H enc _ => fnExactCivilOf_lifted os started H enc)
/-- THE STATEMENT: the card. -/
theorem fnExactCivilOf_holds : Rows.FnExactCivilOfCardSaid :=
  Claim7.holds_tied_plain_at .later [] [.data] true (true, "8c777804a68aa69b2ae620b8c169aff2c49811e61d0675b3fa43241265f634f7") false
    fnExactCivilOf_row (fun _ h => by cases h) (by kernel_rfl) (fun _ h => by cases h) fnExactCivilOf_row_tie rfl ⟨rfl, rfl⟩ (by kernel_rfl) rfl
    (fun f fn hf hfn => by
      obtain rfl : f = 4 := Option.some.inj ((show Tryd.prog.funcNamed "loop.example/g00651/laws.FnExactCivilOf" = some 4 by kernel_rfl).symm.trans hf) |>.symm
      obtain rfl : fn = Tryd.f4 := (Option.some.inj (Tryd.func4.symm.trans hfn)).symm
      exact ⟨by kernel_rfl, fun j t ht => by
        rw [Tryd.params4] at ht
        have h3 : t = 3 := by
          rcases j with _ | j
          · simpa using ht.symm
          · simp at ht
        subst h3
        exact (show Tryd.prog.wantsStandIn 3 = false by kernel_rfl)⟩)
    (by kernel_rfl)
#print axioms fnExactCivilOf_holds
end Go.Proofs.YtohaghlhdkfkbabDoor
