/-
  FnExactReadWarcDate: at every text impl.ReadWarcDate answers as spec.ReadWarcDate. The table of the months' lengths is laid by the program's own text (the card); texts above 2^20 bytes are passed by the law itself.
-/
import Derived.Test.YtohaghlhdkfkbacDoorWI2
import Derived.Test.YtohaghlhdkfkbacDoorWS2
import Derived.Test.YtohaghlhdkfkbacDoorOpenT
import Derived.Test.YtohaghlhdkfkbacDoorCards
import Derived.Test.YtohaghlhdkfkbacDoorTie
namespace Go.Proofs.YtohaghlhdkfkbacDoor
set_option linter.unusedVariables false
set_option linter.unusedSimpArgs false
open Go.ChangeShapes Go.WideShapes Go.ChangeAt Go.RowKit
open Go.ChangeMaps (open_string shut_string)
theorem fnExactReadWarcDate_tabs {W : World} (h : laidMet Tryd.prog Rows.fnExactReadWarcDateRow.laid W) : MonTab W := montab_of_laid (.head _) h
set_option maxHeartbeats 1000000 in
theorem fnExactReadWarcDate_walk (a : ByteArray) (w : World) (w0 : a.size ≤ maxLen) (hM : MonTab w) :
    Calls Tryd.prog 5 #[.string a] w fun e w' => e = .returned (.bool true) ∧ Below w.heap.size w w' := by
  have w0' := w0
  unfold maxLen at w0'
  by_cases hbig : (1048576 : Int) < (a.size : Int)
  · go_enter Tryd.func5, Tryd.ntmps5
    go_wp2
    go_ret
    exact ⟨rfl, Below.refl _ _⟩
  · obtain ⟨t, b, r1, h1⟩ := sReadWarcDate_ex a
    obtain ⟨t', b', r2, h2⟩ := ReadWarcDate_ex a
    obtain ⟨rfl, rfl⟩ := Res.unique (warc_reads a).unique r1 r2
    have HS := hideB2 h1
    have HI := hideB2 h2
    clear h1 h2 r1 r2
    go_enter Tryd.func5, Tryd.ntmps5
    go_wp2_with fail
    refine (HS.out _).mono ?_
    rintro e w1 ⟨rfl, hb1⟩
    have hM1 := hM.below hb1
    clear hM HS
    go_wp2_with fail
    refine (HI.out _ hM1).mono ?_
    rintro e w2 ⟨rfl, hb2⟩
    have BW := below_then hb1 hb2
    clear hM1 HI hb1 hb2
    cases b
    all_goals
      go_wp2
      go_ret
      exact ⟨rfl, BW⟩

/-- A world that meets the condition: the settled one, the listed tables laid. -/
theorem fnExactReadWarcDate_laid_met (os : Os) (args : Array Value) : laidMet Tryd.prog Rows.fnExactReadWarcDateRow.laid (({ (World.holding Tryd.prog os ⟨#[], #[], []⟩) with heap := ((World.holding Tryd.prog os ⟨#[], #[], []⟩).heap.modify 2 (laidRow #[.int .i64 0, .int .i64 31, .int .i64 28, .int .i64 31, .int .i64 30, .int .i64 31, .int .i64 30, .int .i64 31, .int .i64 31, .int .i64 30, .int .i64 31, .int .i64 30, .int .i64 31])) } : World).forCall (fun _ _ => 0) ⟨#[], args, []⟩).memory :=
  laidMet_of_run' 8 (by kernel_rfl) (by kernel_rfl)
set_option maxRecDepth 100000 in
theorem fnExactReadWarcDate_lifted (os : Os) (started : os.Started) (H : Type) (enc : TypeId × Value → H) :
    ReturnsInHanded {} Tryd.checked os 5 .any (fun w args => (Rows.fnExactReadWarcDateSpec.pre enc Tryd.prog Tryd.f5 [] false w args ∧ laidMetH Tryd.prog Rows.fnExactReadWarcDateRow.laid w) ∧ sizedMet enc Tryd.prog Tryd.f5 (OpenSpec.ofChange Rows.fnExactReadWarcDateSpec) false w args)
      (Rows.fnExactReadWarcDateSpec.post enc Tryd.prog Tryd.f5 false true false false) := by
  refine returnsInHanded_of_change_and (C := Tryd.checked) (X := fun w _ => laidMetH Tryd.prog Rows.fnExactReadWarcDateRow.laid w) (fun _ _ _ hh h => h.of_heap hh) Tryd.own started (by kernel_rfl) Tryd.func5
    (ChangeSpec.witness_at (enc := enc) (C := Tryd.checked) (os := os) (X := fun w _ => laidMetH Tryd.prog Rows.fnExactReadWarcDateRow.laid w) false ({ (World.holding Tryd.prog os ⟨#[], #[], []⟩) with heap := ((World.holding Tryd.prog os ⟨#[], #[], []⟩).heap.modify 2 (laidRow #[.int .i64 0, .int .i64 31, .int .i64 28, .int .i64 31, .int .i64 30, .int .i64 31, .int .i64 30, .int .i64 31, .int .i64 31, .int .i64 30, .int .i64 31, .int .i64 30, .int .i64 31])) } : World) #[.string ByteArray.empty] 8 rfl (by kernel_rfl) (by kernel_rfl) (by kernel_rfl) (by kernel_rfl) (by kernel_rfl) (fnExactReadWarcDate_laid_met os _)) ?_
  intro W base args ds gs before hval0 hW _ _ hL _
  have hval : ∀ (j : Nat) t v, Tryd.f5.params[j]? = some t → args[j]? = some v → Value.okWide Tryd.prog W .any base t v := hval0
  have hW' := hW
  obtain ⟨p, q, hA0, hV, rfl, hfz, hnd⟩ := hW
  have hA : DataW.TrodAll enc Tryd.prog W 0 (fun _ => true) true Tryd.f5.params.toList args.toList ds p := hA0
  rw [Tryd.params5] at hA hval
  obtain ⟨v0, vs0, d0, ds0, p0, q0, hargs, rfl, rfl, h0, r0⟩ := trodAll_cons hA
  obtain ⟨rfl, rfl, rfl⟩ := trodAll_nil r0
  obtain rfl : args = #[v0] := by cases args; simp_all
  obtain ⟨g1, rfl⟩ := trodVars_one' hV
  obtain ⟨a0, rfl, rfl, rfl, w0⟩ := open_string Tryd.underlying9 (hval 0 9 v0 rfl rfl) h0
  have tabs := fnExactReadWarcDate_tabs (W := W) hL
  clear hA0 hval0
  refine (fnExactReadWarcDate_walk a0 W w0 tabs).mono fun e W' ⟨he, bel⟩ => ?_
  subst he
  exact ⟨_, rfl, _, _, _, [], _, _, hW', trodAll_mk1 (shut_bool Tryd.underlying4 _), (trodAll_cons_mk (shut_string Tryd.underlying9 w0) trodAll_mk0), (Below.trodVars Tryd.laidOut bel (by kernel_rfl) hV), bel.frame _, fun h => by cases h⟩
theorem fnExactReadWarcDate_row : Rows.FnExactReadWarcDateSaid :=
  OpenClaim.holds_of_wide 5 Tryd.f5 rfl rfl rfl rfl rfl rfl rfl ⟨rfl, rfl, rfl, rfl, rfl⟩ rfl rfl rfl rfl rfl (by kernel_rfl) Tryd.func5 (by kernel_rfl)
    (of_decide_eq_true (by kernel_rfl)) (by unfold Func.isWrapper; first | (rw [if_pos (by decide +kernel)]; kernel_rfl) | (rw [if_neg (by decide +kernel)]; exact ⟨rfl, rfl⟩))
    (fun os started H enc _ => fnExactReadWarcDate_lifted os started H enc)
/-- THE STATEMENT: the card. -/
theorem fnExactReadWarcDate_holds : Rows.FnExactReadWarcDateCardSaid :=
  Claim7.holds_tied_plain_at .later [] [.data] true (true, "ca37ebc7dd116707d318ae8d70ef9d9340ad52afb6966b9c2c350c0034e9d644") false
    fnExactReadWarcDate_row (fun _ h => by cases h) (by kernel_rfl) (fun _ h => by cases h) fnExactReadWarcDate_row_tie rfl ⟨rfl, rfl⟩ (by kernel_rfl) rfl
    (fun f fn hf hfn => by
      obtain rfl : f = 5 := Option.some.inj ((show Tryd.prog.funcNamed "loop.example/g00651/laws.FnExactReadWarcDate" = some 5 by kernel_rfl).symm.trans hf) |>.symm
      obtain rfl : fn = Tryd.f5 := (Option.some.inj (Tryd.func5.symm.trans hfn)).symm
      exact ⟨by kernel_rfl, fun j t ht => by
        rw [Tryd.params5] at ht
        have h3 : t = 9 := by
          rcases j with _ | j
          · simpa using ht.symm
          · simp at ht
        subst h3
        exact (show Tryd.prog.wantsStandIn 9 = false by kernel_rfl)⟩)
    (by kernel_rfl)
#print axioms fnExactReadWarcDate_holds
end Go.Proofs.YtohaghlhdkfkbacDoor
