/-
  FnExactLineText: at every line impl.LineText answers as spec.LineText. The condition: the listed tables hold what the program's text lays (the card ties them); what is greater than 2^20 is passed by the law itself.
-/
import Derived.Test.YtenjbgpndkodmabGreatDoorRows
import Derived.Test.YtenjbgpndkodmabGreatDoorTie
import Derived.Test.YtenjbgpndkodmabGreatDoorCards
import Derived.Test.YtenjbgpndkodmabGreatDoorJ1
import Derived.Test.YtenjbgpndkodmabGreatDoorJ9
import Derived.LaidMore
import Derived.Lay
import Derived.LaidLaws
import Derived.SevenTiedAt
import Derived.Stop.Joined
namespace Go.Proofs.YtenjbgpndkodmabGreatDoor
set_option linter.unusedVariables false
set_option linter.unusedSimpArgs false
open Go.ChangeShapes Go.WideShapes Go.ChangeAt Go.RowKit
open Go.ChangeMaps (open_string shut_string)
theorem fnExactLineText_tabs {W : World} (h : laidMetH Tryz.prog Rows.fnExactLineTextRow.laid W) : Tab10 W ∧ MonTab W := by
  rw [MakeChecks.laidMetH_plain _ _ _ (by kernel_rfl)] at h
  exact ⟨dectab_of_laid (by unfold Rows.fnExactLineTextRow; simp only [List.mem_cons, List.mem_singleton, Prod.mk.injEq]; simp) h, montab_of_laid (by unfold Rows.fnExactLineTextRow; simp only [List.mem_cons, List.mem_singleton, Prod.mk.injEq]; simp) h⟩
set_option maxRecDepth 100000 in
set_option maxHeartbeats 4000000 in
theorem fnExactLineText_walk (x : Lx) (w : World) (hx : ZX x) (tabs : Tab10 w ∧ MonTab w) :
    Calls Tryz.prog 4 #[lxV x] w fun e w' => e = .returned (.bool true) ∧ Below w.heap.size w w' := by
  have HS := hideB2 (fun W => szLine_any x 1048576 W hx (by omega) (by omega))
  have HT := hideB2 tabs
  have B1 := hideB2 (Blk.new w (lxC x) 23)
  have HB := hideB2 (below_a1 w (.cells (lxC x) 23))
  have e0 : szX x = x.ke.size + x.me.size + x.la.size := rfl
  clear hx tabs
  by_cases hle : (szX x : Int) ≤ 1048576
  · have HI := hideB2 (fun W (h : Tab10 W) (hm : MonTab W) => LineText_any x W (by omega) (by omega) (by omega) h hm)
    have HP := hideB2 (fun W => sLineText_any x W (by omega) (by omega) (by omega))
    rw [if_pos hle] at HS
    clear e0
    generalize szX x = z at *
    generalize litB x = r at *
    obtain ⟨ke, ti, si, me, st, la, rv, se, wh, sz⟩ := x
    unfold lxV at *
    unfold lxC at *
    simp only at *
    go_enter Tryz.func4, Tryz.ntmps4
    go_wp2_with fail
    refine (HS.out _).mono ?_
    rintro e1 w1 ⟨rfl, hb1⟩
    have B2 := hideB2 (B1.out.later hb1)
    have HB1 := hideB2 (below_then HB.out hb1)
    clear hb1 B1 HS HB
    obtain ⟨p0, p1, p2, p3, p4, p5, p6, p7, p8, p9⟩ := B2.out.c10
    go_wp2_with fail
    refine (toLine_fl _ _ _ _ _ _ _ _ _ _ _).mono ?_
    rintro e2 w2 ⟨rfl, hb2⟩
    go_wp2_with fail
    refine (HP.out _).mono ?_
    rintro e3 w3 ⟨rfl, hb3⟩
    have hb23 := below_then hb2 hb3
    have B3 := hideB2 (B2.out.later hb23)
    have HB3 := hideB2 (below_then HB1.out hb23)
    clear hb2 hb3 hb23 p0 p1 p2 p3 p4 p5 p6 p7 p8 p9 B2 HB1 HP
    obtain ⟨p0, p1, p2, p3, p4, p5, p6, p7, p8, p9⟩ := B3.out.c10
    go_wp2_with fail
    refine (toLine_fl _ _ _ _ _ _ _ _ _ _ _).mono ?_
    rintro e4 w4 ⟨rfl, hb4⟩
    have HB4 := hideB2 (below_then HB3.out hb4)
    go_wp2_with fail
    refine (HI.out _ (tab_later HT.out.1 HB4.out) (HT.out.2.below HB4.out)).mono ?_
    rintro e5 w5 ⟨rfl, hb5⟩
    have HB5 := hideB2 (below_then HB4.out hb5)
    clear hb4 hb5 p0 p1 p2 p3 p4 p5 p6 p7 p8 p9 B3 HB3 HB4 HI
    have hr : (r.toList == r.toList) = true := by simp
    go_wp2
    go_ret
    exact ⟨rfl, HB5.out⟩
  · rw [if_neg hle] at HS
    clear e0 hle
    generalize szX x = z at *
    obtain ⟨ke, ti, si, me, st, la, rv, se, wh, sz⟩ := x
    unfold lxV at *
    unfold lxC at *
    simp only at *
    go_enter Tryz.func4, Tryz.ntmps4
    go_wp2_with fail
    refine (HS.out _).mono ?_
    rintro e1 w1 ⟨rfl, hb1⟩
    have HB1 := hideB2 (below_then HB.out hb1)
    clear hb1 B1 HS HB
    go_wp2
    go_ret
    exact ⟨rfl, HB1.out⟩

set_option maxRecDepth 100000 in
theorem fnExactLineText_lifted (os : Os) (started : os.Started) (H : Type) (enc : TypeId × Value → H) :
    ReturnsInHanded {} Tryz.checked os 4 .any (fun w args => (Rows.fnExactLineTextSpec.pre enc Tryz.prog Tryz.f4 [] false w args ∧ laidMetH Tryz.prog Rows.fnExactLineTextRow.laid w) ∧ sizedMet enc Tryz.prog Tryz.f4 (OpenSpec.ofChange Rows.fnExactLineTextSpec) false w args)
      (Rows.fnExactLineTextSpec.post enc Tryz.prog Tryz.f4 false true false false) := by
  refine returnsInHanded_of_change_and (C := Tryz.checked) (X := fun w _ => laidMetH Tryz.prog Rows.fnExactLineTextRow.laid w) (fun _ _ _ hh h => h.of_heap hh) Tryz.own started (by kernel_rfl) Tryz.func4
    (ChangeSpec.witness_shaped (enc := enc) (C := Tryz.checked) (os := os) (X := fun w _ => laidMetH Tryz.prog Rows.fnExactLineTextRow.laid w) false (World.laidAll Tryz.prog os Rows.fnExactLineTextRow.laid) #[.agg #[.string ByteArray.empty, .int .i64 0, .int .i64 0, .string ByteArray.empty, .int .i64 0, .string ByteArray.empty, .bool false, .int .i64 0, .int .i64 0, .int .i64 0]] 8 (World.laidAll_os _ _ _) (World.shaped_of_ZipB (by kernel_rfl) (by kernel_rfl)) (by kernel_rfl) (by kernel_rfl) (by kernel_rfl)
      (by rw [MakeChecks.laidMetH_plain _ _ _ (by kernel_rfl)]; exact laidMet_laidAll _ (by kernel_rfl) (by kernel_rfl))) ?_
  intro W base args ds gs before hval0 hW _ _ hL _
  have hval : ∀ (j : Nat) t v, Tryz.f4.params[j]? = some t → args[j]? = some v → Value.okWide Tryz.prog W .any base t v := hval0
  have hW' := hW
  obtain ⟨p, q, hA0, hV, rfl, hfz, hnd⟩ := hW
  have hA : DataW.TrodAll enc Tryz.prog W 0 (fun _ => true) true Tryz.f4.params.toList args.toList ds p := hA0
  rw [Tryz.params4] at hA hval
  obtain ⟨v0, vs0, d0, ds0, p0, q0, hargs, rfl, rfl, h0, r0⟩ := trodAll_cons hA
  obtain ⟨rfl, rfl, rfl⟩ := trodAll_nil r0
  obtain rfl : args = #[v0] := by cases args; simp_all
  obtain ⟨g1, rfl⟩ := trodVars_one' hV
  have k0 := h0
  have lt0 : ∀ x ∈ p0, x.block < W.heap.size := by obtain ⟨m, hm⟩ := k0; exact DataW.trod_lt m _ _ _ hm
  obtain ⟨x0, rfl, w0⟩ := open_line (hval 0 23 v0 rfl rfl) h0
  have tabs := fnExactLineText_tabs (W := W) hL
  clear hA0 hval0
  refine (fnExactLineText_walk x0 W w0 tabs).mono fun e W' ⟨he, bel⟩ => ?_
  subst he
  exact ⟨_, rfl, _, _, _, [], _, _, hW', trodAll_mk1 (shut_bool Tryz.underlying4 _), (trodAll_cons_mk (Below.trod Tryz.laidOut (by kernel_rfl) (of_decide_eq_true (by kernel_rfl)) k0 bel lt0) trodAll_mk0), (Below.trodVars Tryz.laidOut bel (by kernel_rfl) hV), bel.frame _, fun h => by cases h⟩
theorem fnExactLineText_row : Rows.FnExactLineTextSaid :=
  OpenClaim.holds_of_wide 4 Tryz.f4 rfl rfl rfl rfl rfl rfl rfl ⟨rfl, rfl, rfl, rfl, rfl⟩ rfl rfl rfl rfl rfl (by kernel_rfl) Tryz.func4 (by kernel_rfl)
    (of_decide_eq_true (by kernel_rfl)) (by unfold Func.isWrapper; first | (rw [if_pos (by decide +kernel)]; kernel_rfl) | (rw [if_neg (by decide +kernel)]; exact ⟨rfl, rfl⟩))
    (fun os started H enc _ => fnExactLineText_lifted os started H enc)
/-- THE STATEMENT: the card. -/
theorem fnExactLineText_holds : Rows.FnExactLineTextCardSaid :=
  Claim7.holds_tied_plain_at .later [] [.data, .data, .data, .data, .data, .pinned, .pinned] true (true, "fa9d46747fc68caa0f3230c3d81b4d34c681c454f83768e07a82adb0f4e17698") false
    fnExactLineText_row (fun _ h => by cases h) (by kernel_rfl) (fun _ h => by cases h) fnExactLineText_row_tie rfl ⟨rfl, rfl⟩ (by kernel_rfl) rfl
    (fun f fn hf hfn => by
      obtain rfl : f = 4 := Option.some.inj ((show Tryz.prog.funcNamed "loop.example/g00651/laws.FnExactLineText" = some 4 by kernel_rfl).symm.trans hf) |>.symm
      obtain rfl : fn = Tryz.f4 := (Option.some.inj (Tryz.func4.symm.trans hfn)).symm
      exact ⟨by kernel_rfl, fun j t ht => by
        rw [Tryz.params4] at ht
        rcases j with _ | j
        · have h3 : t = 23 := by simpa using ht.symm
          subst h3
          exact (show Tryz.prog.wantsStandIn 23 = false by kernel_rfl)
        · simp at ht⟩)
    (by kernel_rfl)
#print axioms fnExactLineText_holds
end Go.Proofs.YtenjbgpndkodmabGreatDoor
