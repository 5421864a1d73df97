/-
  FnExactReadLine: at every text impl.ReadLine answers as spec.ReadLine. The condition: the listed tables hold what the program's text lays (the card ties them); what is greater than 2^20 is passed by the law itself.
-/
import Derived.Test.YtenjbgpndkodmabGreatDoorRows
import Derived.Test.YtenjbgpndkodmabGreatDoorTie
import Derived.Test.YtenjbgpndkodmabGreatDoorCards
import Derived.Test.YtenjbgpndkodmabGreatDoorJ1
import Derived.Test.YtenjbgpndkodmabGreatDoorJ10
import Derived.LaidMore
import Derived.Lay
import Derived.LaidLaws
import Derived.SevenTiedAt
import Derived.Stop.Joined
namespace Go.Proofs.YtenjbgpndkodmabGreatDoor
set_option linter.unusedVariables false
set_option linter.unusedSimpArgs false
open Go.ChangeShapes Go.WideShapes Go.ChangeAt Go.RowKit
open Go.ChangeMaps (open_string shut_string)
theorem fnExactReadLine_tabs {W : World} (h : laidMetH Tryz.prog Rows.fnExactReadLineRow.laid W) : Tab10 W ∧ MonTab W := by
  rw [MakeChecks.laidMetH_plain _ _ _ (by kernel_rfl)] at h
  exact ⟨dectab_of_laid (by unfold Rows.fnExactReadLineRow; simp only [List.mem_cons, List.mem_singleton, Prod.mk.injEq]; simp) h, montab_of_laid (by unfold Rows.fnExactReadLineRow; simp only [List.mem_cons, List.mem_singleton, Prod.mk.injEq]; simp) h⟩
set_option maxRecDepth 100000 in
set_option maxHeartbeats 4000000 in
theorem fnExactReadLine_walk (s : ByteArray) (w : World) (hs : s.size ≤ maxLen) (tabs : Tab10 w ∧ MonTab w) :
    Calls Tryz.prog 5 #[.string s] w fun e w' => e = .returned (.bool true) ∧ Below w.heap.size w w' := by
  unfold maxLen at hs
  by_cases hbig : (1048576 : Int) < (s.size : Int)
  · go_enter Tryz.func5, Tryz.ntmps5
    go_wp2
    go_ret
    exact ⟨rfl, Below.refl _ _⟩
  · have HT := hideB2 tabs
    have HI := hideB2 (fun W (h : Tab10 W) (hm : MonTab W) => ReadLine_any s W (by omega) h hm)
    have HP := hideB2 (fun W => sReadLine_any s W (by omega))
    have HEQ := hideB2 (fun W => eqLine_same (rdlX s) W)
    clear tabs
    generalize rdlX s = X at *
    generalize rdlO s = b at *
    obtain ⟨ke, ti, si, me, st, la, rv, se, wh, sz⟩ := X
    unfold lxV at *
    simp only at *
    go_enter Tryz.func5, Tryz.ntmps5
    go_wp2_with fail
    refine (HP.out _).mono ?_
    rintro e1 w1 ⟨rfl, hb1⟩
    have B1 := hideB2 (Blk.new w1 #[.string ke, .int .i64 ti, .int .i64 si, .string me, .int .i64 st, .string la, .bool rv, .int .i64 se, .int .i64 wh, .int .i64 sz] 26)
    have HB1 := hideB2 (below_then hb1 (below_a1 w1 (.cells #[.string ke, .int .i64 ti, .int .i64 si, .string me, .int .i64 st, .string la, .bool rv, .int .i64 se, .int .i64 wh, .int .i64 sz] 26)))
    clear hb1 HP
    go_wp2_with fail
    refine (HI.out _ (tab_later HT.out.1 HB1.out) (HT.out.2.below HB1.out)).mono ?_
    rintro e2 w2 ⟨rfl, hb2⟩
    have B2 := (B1.out.later hb2).alloc (.cells #[.string ke, .int .i64 ti, .int .i64 si, .string me, .int .i64 st, .string la, .bool rv, .int .i64 se, .int .i64 wh, .int .i64 sz] 26)
    have A2 := Blk.new w2 #[.string ke, .int .i64 ti, .int .i64 si, .string me, .int .i64 st, .string la, .bool rv, .int .i64 se, .int .i64 wh, .int .i64 sz] 26
    have HB2 := hideB2 (below_then (below_then HB1.out hb2) (below_a1 w2 (.cells #[.string ke, .int .i64 ti, .int .i64 si, .string me, .int .i64 st, .string la, .bool rv, .int .i64 se, .int .i64 wh, .int .i64 sz] 26)))
    clear hb2 HI B1 HB1
    obtain ⟨p0, p1, p2, p3, p4, p5, p6, p7, p8, p9⟩ := B2.c10
    obtain ⟨q0, q1, q2, q3, q4, q5, q6, q7, q8, q9⟩ := A2.c10
    have hr : (b != b) = false := by cases b <;> rfl
    go_wp2_with fail
    refine (HEQ.out _).mono ?_
    rintro e3 w3 ⟨rfl, hb3⟩
    have HB3 := hideB2 (below_then HB2.out hb3)
    clear hb3 p0 p1 p2 p3 p4 p5 p6 p7 p8 p9 q0 q1 q2 q3 q4 q5 q6 q7 q8 q9 A2 B2 HB2 HEQ
    go_wp2
    go_ret
    exact ⟨rfl, HB3.out⟩

set_option maxRecDepth 100000 in
theorem fnExactReadLine_lifted (os : Os) (started : os.Started) (H : Type) (enc : TypeId × Value → H) :
    ReturnsInHanded {} Tryz.checked os 5 .any (fun w args => (Rows.fnExactReadLineSpec.pre enc Tryz.prog Tryz.f5 [] false w args ∧ laidMetH Tryz.prog Rows.fnExactReadLineRow.laid w) ∧ sizedMet enc Tryz.prog Tryz.f5 (OpenSpec.ofChange Rows.fnExactReadLineSpec) false w args)
      (Rows.fnExactReadLineSpec.post enc Tryz.prog Tryz.f5 false true false false) := by
  refine returnsInHanded_of_change_and (C := Tryz.checked) (X := fun w _ => laidMetH Tryz.prog Rows.fnExactReadLineRow.laid w) (fun _ _ _ hh h => h.of_heap hh) Tryz.own started (by kernel_rfl) Tryz.func5
    (ChangeSpec.witness_shaped (enc := enc) (C := Tryz.checked) (os := os) (X := fun w _ => laidMetH Tryz.prog Rows.fnExactReadLineRow.laid w) false (World.laidAll Tryz.prog os Rows.fnExactReadLineRow.laid) #[.string ByteArray.empty] 8 (World.laidAll_os _ _ _) (World.shaped_of_ZipB (by kernel_rfl) (by kernel_rfl)) (by kernel_rfl) (by kernel_rfl) (by kernel_rfl)
      (by rw [MakeChecks.laidMetH_plain _ _ _ (by kernel_rfl)]; exact laidMet_laidAll _ (by kernel_rfl) (by kernel_rfl))) ?_
  intro W base args ds gs before hval0 hW _ _ hL _
  have hval : ∀ (j : Nat) t v, Tryz.f5.params[j]? = some t → args[j]? = some v → Value.okWide Tryz.prog W .any base t v := hval0
  have hW' := hW
  obtain ⟨p, q, hA0, hV, rfl, hfz, hnd⟩ := hW
  have hA : DataW.TrodAll enc Tryz.prog W 0 (fun _ => true) true Tryz.f5.params.toList args.toList ds p := hA0
  rw [Tryz.params5] at hA hval
  obtain ⟨v0, vs0, d0, ds0, p0, q0, hargs, rfl, rfl, h0, r0⟩ := trodAll_cons hA
  obtain ⟨rfl, rfl, rfl⟩ := trodAll_nil r0
  obtain rfl : args = #[v0] := by cases args; simp_all
  obtain ⟨g1, rfl⟩ := trodVars_one' hV
  obtain ⟨a0, rfl, rfl, rfl, w0⟩ := open_string Tryz.underlying9 (hval 0 9 v0 rfl rfl) h0
  have tabs := fnExactReadLine_tabs (W := W) hL
  clear hA0 hval0
  refine (fnExactReadLine_walk a0 W w0 tabs).mono fun e W' ⟨he, bel⟩ => ?_
  subst he
  exact ⟨_, rfl, _, _, _, [], _, _, hW', trodAll_mk1 (shut_bool Tryz.underlying4 _), (trodAll_cons_mk (shut_string Tryz.underlying9 w0) trodAll_mk0), (Below.trodVars Tryz.laidOut bel (by kernel_rfl) hV), bel.frame _, fun h => by cases h⟩
theorem fnExactReadLine_row : Rows.FnExactReadLineSaid :=
  OpenClaim.holds_of_wide 5 Tryz.f5 rfl rfl rfl rfl rfl rfl rfl ⟨rfl, rfl, rfl, rfl, rfl⟩ rfl rfl rfl rfl rfl (by kernel_rfl) Tryz.func5 (by kernel_rfl)
    (of_decide_eq_true (by kernel_rfl)) (by unfold Func.isWrapper; first | (rw [if_pos (by decide +kernel)]; kernel_rfl) | (rw [if_neg (by decide +kernel)]; exact ⟨rfl, rfl⟩))
    (fun os started H enc _ => fnExactReadLine_lifted os started H enc)
/-- THE STATEMENT: the card. -/
theorem fnExactReadLine_holds : Rows.FnExactReadLineCardSaid :=
  Claim7.holds_tied_plain_at .later [] [.data, .data, .data, .data, .data, .pinned, .pinned] true (true, "fa9d46747fc68caa0f3230c3d81b4d34c681c454f83768e07a82adb0f4e17698") false
    fnExactReadLine_row (fun _ h => by cases h) (by kernel_rfl) (fun _ h => by cases h) fnExactReadLine_row_tie rfl ⟨rfl, rfl⟩ (by kernel_rfl) rfl
    (fun f fn hf hfn => by
      obtain rfl : f = 5 := Option.some.inj ((show Tryz.prog.funcNamed "loop.example/g00651/laws.FnExactReadLine" = some 5 by kernel_rfl).symm.trans hf) |>.symm
      obtain rfl : fn = Tryz.f5 := (Option.some.inj (Tryz.func5.symm.trans hfn)).symm
      exact ⟨by kernel_rfl, fun j t ht => by
        rw [Tryz.params5] at ht
        rcases j with _ | j
        · have h3 : t = 9 := by simpa using ht.symm
          subst h3
          exact (show Tryz.prog.wantsStandIn 9 = false by kernel_rfl)
        · simp at ht⟩)
    (by kernel_rfl)
#print axioms fnExactReadLine_holds
end Go.Proofs.YtenjbgpndkodmabGreatDoor
