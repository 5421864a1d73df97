/-
  FnExactWarcDate: at every argument impl.WarcDate answers as spec.WarcDate. The tables of names and of the months' lengths are laid by the program's own text (the card).
-/
import Derived.Test.YtohaghlhdkfkbacDoorWT3
import Derived.Test.YtohaghlhdkfkbacDoorWT5
import Derived.Test.YtohaghlhdkfkbacDoorOpenT
import Derived.Test.YtohaghlhdkfkbacDoorCards
import Derived.Test.YtohaghlhdkfkbacDoorTie
namespace Go.Proofs.YtohaghlhdkfkbacDoor
set_option linter.unusedVariables false
set_option linter.unusedSimpArgs false
open Go.ChangeShapes Go.WideShapes Go.ChangeAt Go.RowKit
open Go.ChangeMaps (open_string shut_string)
theorem fnExactWarcDate_tabs {W : World} (h : laidMet Tryd.prog Rows.fnExactWarcDateRow.laid W) : MonTab W := montab_of_laid (.head _) h
set_option maxHeartbeats 1000000 in
theorem fnExactWarcDate_walk (t : Int) (w : World) (_ : (Lit.int .i64 t).wf = true) (hT : MonTab w) :
    Calls Tryd.prog 4 #[.int .i64 t] w fun e w' => e = .returned (.bool true) ∧ Below w.heap.size w w' := by
  have key : ∃ r : ByteArray, (∀ w, Calls Tryd.prog 10 #[.int .i64 t] w fun e w' => e = .returned (.string r) ∧ Below w.heap.size w w') ∧ (∀ w, MonTab w → Calls Tryd.prog 11 #[.int .i64 t] w fun e w' => e = .returned (.string r) ∧ Below w.heap.size w w') := by
    by_cases ht : 0 ≤ t ∧ t ≤ 253402300799
    · obtain ⟨y, m, d, h, i, s, hv, e⟩ := civ_ofN t ht.1 ht.2
      exact ⟨_, fun w => sWarcDate_yes t y m d h i s w hv e, fun w hT => WarcDate_yes t y m d h i s w hT hv e⟩
    · exact ⟨_, fun w => sWarcDate_no t w ht, fun w _ => WarcDate_no t w ht⟩
  obtain ⟨r, hs, hi⟩ := key
  have HS := hideB2 hs
  have HI := hideB2 hi
  clear hs hi
  go_enter Tryd.func4, Tryd.ntmps4
  go_wp2_with fail
  refine (HS.out _).mono ?_
  rintro e w1 ⟨rfl, hb1⟩
  have hT1 := hT.below hb1
  clear hT HS
  go_wp2_with fail
  refine (HI.out _ hT1).mono ?_
  rintro e w2 ⟨rfl, hb2⟩
  have BW := below_then hb1 hb2
  clear hT1 HI hb1 hb2
  go_wp2
  go_ret
  exact ⟨rfl, BW⟩

/-- A world that meets the condition: the settled one, the listed tables laid. -/
theorem fnExactWarcDate_laid_met (os : Os) (args : Array Value) : laidMet Tryd.prog Rows.fnExactWarcDateRow.laid (({ (World.holding Tryd.prog os ⟨#[], #[], []⟩) with heap := ((World.holding Tryd.prog os ⟨#[], #[], []⟩).heap.modify 2 (laidRow #[.int .i64 0, .int .i64 31, .int .i64 28, .int .i64 31, .int .i64 30, .int .i64 31, .int .i64 30, .int .i64 31, .int .i64 31, .int .i64 30, .int .i64 31, .int .i64 30, .int .i64 31])) } : World).forCall (fun _ _ => 0) ⟨#[], args, []⟩).memory :=
  laidMet_of_run' 8 (by kernel_rfl) (by kernel_rfl)
set_option maxRecDepth 100000 in
theorem fnExactWarcDate_lifted (os : Os) (started : os.Started) (H : Type) (enc : TypeId × Value → H) :
    ReturnsInHanded {} Tryd.checked os 4 .any (fun w args => (Rows.fnExactWarcDateSpec.pre enc Tryd.prog Tryd.f4 [] false w args ∧ laidMetH Tryd.prog Rows.fnExactWarcDateRow.laid w) ∧ sizedMet enc Tryd.prog Tryd.f4 (OpenSpec.ofChange Rows.fnExactWarcDateSpec) false w args)
      (Rows.fnExactWarcDateSpec.post enc Tryd.prog Tryd.f4 false true false false) := by
  refine returnsInHanded_of_change_and (C := Tryd.checked) (X := fun w _ => laidMetH Tryd.prog Rows.fnExactWarcDateRow.laid w) (fun _ _ _ hh h => h.of_heap hh) Tryd.own started (by kernel_rfl) Tryd.func4
    (ChangeSpec.witness_at (enc := enc) (C := Tryd.checked) (os := os) (X := fun w _ => laidMetH Tryd.prog Rows.fnExactWarcDateRow.laid w) false ({ (World.holding Tryd.prog os ⟨#[], #[], []⟩) with heap := ((World.holding Tryd.prog os ⟨#[], #[], []⟩).heap.modify 2 (laidRow #[.int .i64 0, .int .i64 31, .int .i64 28, .int .i64 31, .int .i64 30, .int .i64 31, .int .i64 30, .int .i64 31, .int .i64 31, .int .i64 30, .int .i64 31, .int .i64 30, .int .i64 31])) } : World) #[.int .i64 0] 8 rfl (by kernel_rfl) (by kernel_rfl) (by kernel_rfl) (by kernel_rfl) (by kernel_rfl) (fnExactWarcDate_laid_met os _)) ?_
  intro W base args ds gs before hval0 hW _ _ hL _
  have hval : ∀ (j : Nat) t v, Tryd.f4.params[j]? = some t → args[j]? = some v → Value.okWide Tryd.prog W .any base t v := hval0
  have hW' := hW
  obtain ⟨p, q, hA0, hV, rfl, hfz, hnd⟩ := hW
  have hA : DataW.TrodAll enc Tryd.prog W 0 (fun _ => true) true Tryd.f4.params.toList args.toList ds p := hA0
  rw [Tryd.params4] at hA hval
  obtain ⟨v0, vs0, d0, ds0, p0, q0, hargs, rfl, rfl, h0, r0⟩ := trodAll_cons hA
  obtain ⟨rfl, rfl, rfl⟩ := trodAll_nil r0
  obtain rfl : args = #[v0] := by cases args; simp_all
  obtain ⟨g1, rfl⟩ := trodVars_one' hV
  obtain ⟨a0, rfl, rfl, rfl, w0⟩ := open_int Tryd.underlying3 (hval 0 3 v0 rfl rfl) h0
  have tabs := fnExactWarcDate_tabs (W := W) hL
  clear hA0 hval0
  refine (fnExactWarcDate_walk a0 W w0 tabs).mono fun e W' ⟨he, bel⟩ => ?_
  subst he
  exact ⟨_, rfl, _, _, _, [], _, _, hW', trodAll_mk1 (shut_bool Tryd.underlying4 _), (trodAll_cons_mk (shut_int Tryd.underlying3 w0) trodAll_mk0), (Below.trodVars Tryd.laidOut bel (by kernel_rfl) hV), bel.frame _, fun h => by cases h⟩
theorem fnExactWarcDate_row : Rows.FnExactWarcDateSaid :=
  OpenClaim.holds_of_wide 4 Tryd.f4 rfl rfl rfl rfl rfl rfl rfl ⟨rfl, rfl, rfl, rfl, rfl⟩ rfl rfl rfl rfl rfl (by kernel_rfl) Tryd.func4 (by kernel_rfl)
    (of_decide_eq_true (by kernel_rfl)) (by unfold Func.isWrapper; first | (rw [if_pos (by decide +kernel)]; kernel_rfl) | (rw [if_neg (by decide +kernel)]; exact ⟨rfl, rfl⟩))
    (fun os started H enc _ => fnExactWarcDate_lifted os started H enc)
/-- THE STATEMENT: the card. -/
theorem fnExactWarcDate_holds : Rows.FnExactWarcDateCardSaid :=
  Claim7.holds_tied_plain_at .later [] [.data] true (true, "ca37ebc7dd116707d318ae8d70ef9d9340ad52afb6966b9c2c350c0034e9d644") false
    fnExactWarcDate_row (fun _ h => by cases h) (by kernel_rfl) (fun _ h => by cases h) fnExactWarcDate_row_tie rfl ⟨rfl, rfl⟩ (by kernel_rfl) rfl
    (fun f fn hf hfn => by
      obtain rfl : f = 4 := Option.some.inj ((show Tryd.prog.funcNamed "loop.example/g00651/laws.FnExactWarcDate" = some 4 by kernel_rfl).symm.trans hf) |>.symm
      obtain rfl : fn = Tryd.f4 := (Option.some.inj (Tryd.func4.symm.trans hfn)).symm
      exact ⟨by kernel_rfl, fun j t ht => by
        rw [Tryd.params4] at ht
        have h3 : t = 3 := by
          rcases j with _ | j
          · simpa using ht.symm
          · simp at ht
        subst h3
        exact (show Tryd.prog.wantsStandIn 3 = false by kernel_rfl)⟩)
    (by kernel_rfl)
#print axioms fnExactWarcDate_holds
end Go.Proofs.YtohaghlhdkfkbacDoor
