/-
  FnExactUrlOk: at every address impl.UrlOk answers as spec.UrlOk. The condition: the listed tables hold what the program's text lays (the card ties them); what is greater than 2^20 is passed by the law itself.
-/
import Derived.Test.YtefhpjipcdmbaaaGreatDoorRows
import Derived.Test.YtefhpjipcdmbaaaGreatDoorTie
import Derived.Test.YtefhpjipcdmbaaaGreatDoorCards
import Derived.Test.YtefhpjipcdmbaaaGreatDoorU8
import Derived.Test.YtefhpjipcdmbaaaGreatDoorOpenU
import Derived.Test.YtefhpjipcdmbaaaGreatDoorOpenN
import Derived.LaidMore
import Derived.Lay
import Derived.LaidLaws
import Derived.SevenTiedAt
import Derived.Stop.Joined
namespace Go.Proofs.YtefhpjipcdmbaaaGreatDoor
set_option linter.unusedVariables false
set_option linter.unusedSimpArgs false
open Go.ChangeShapes Go.WideShapes Go.ChangeAt Go.RowKit
open Go.ChangeMaps (open_string shut_string)
theorem fnExactUrlOk_tabs {W : World} (h : laidMetH Tryz.prog Rows.fnExactUrlOkRow.laid W) : Tab10 W := by
  rw [MakeChecks.laidMetH_plain _ _ _ (by kernel_rfl)] at h
  exact dectab_of_laid (by unfold Rows.fnExactUrlOkRow; simp only [List.mem_cons, List.mem_singleton, Prod.mk.injEq]; simp) h
set_option maxHeartbeats 4000000 in
theorem fnExactUrlOk_walk (ho pa qu : ByteArray) (po : Int) (hq : Bool) (w : World) (hm : ArgU ho pa qu) (htab : Tab10 w) :
    Calls Tryz.prog 5 #[.agg #[.string ho, .int .i64 po, .string pa, .string qu, .bool hq]] w fun e w' => e = .returned (.bool true) ∧ Below w.heap.size w w' := by
  have hb0 := below_a1 w (.cells #[.string ho, .int .i64 po, .string pa, .string qu, .bool hq] 23)
  have A0 := Blk.new w #[.string ho, .int .i64 po, .string pa, .string qu, .bool hq] 23
  go_enter Tryz.func5, Tryz.ntmps5
  go_wp2_with fail
  generalize hW : w.alloc (.cells #[.string ho, .int .i64 po, .string pa, .string qu, .bool hq] 23) = W0 at *
  clear hW
  refine (szUrl_any ho pa qu po hq _ hm).mono ?_
  rintro e w1 ⟨r, rfl, hsz, hb1⟩
  have A1 := A0.later hb1
  have hbw1 := below_then hb0 hb1
  by_cases hr : r < 0
  · clear hsz A0 A1
    go_wp2
    go_ret
    exact ⟨rfl, hbw1⟩
  · have ht := hsz hr
    have z1 : ho.size ≤ 1048576 := by omega
    have z2 : pa.size ≤ 1048576 := by omega
    have z3 : qu.size ≤ 1048576 := by omega
    have HS := hideB2 (fun W => sUrlOk_any ho pa qu po hq W z1 z2 z3)
    have HI := hideB2 (fun W (h : Tab10 W) => UrlOk_any ho pa qu po hq W h z1 z2 z3)
    have HT := hideB2 htab
    have HU := hideB2 (fun W => toUrl_any ho pa qu po hq W)
    generalize urlQ ho pa qu po hq = R at *
    have hRR : (R != R) = false := by cases R <;> rfl
    obtain ⟨p0, p1, p2, p3, p4⟩ := A1.u5
    clear hsz A0 hb0 hb1 ht z1 z2 z3 hm htab
    go_wp2_with fail
    refine (HU.out _).mono ?_
    rintro e w2 ⟨rfl, hb2⟩
    go_wp2_with fail
    refine (HS.out _).mono ?_
    rintro e w3 ⟨rfl, hb3⟩
    have A3 := (A1.later hb2).later hb3
    have hbw3 := below_then (below_then hbw1 hb2) hb3
    clear p0 p1 p2 p3 p4 hb2 hb3 A1 hbw1
    obtain ⟨p0, p1, p2, p3, p4⟩ := A3.u5
    go_wp2_with fail
    refine (HU.out _).mono ?_
    rintro e w4 ⟨rfl, hb4⟩
    have hbw4 := below_then hbw3 hb4
    clear p0 p1 p2 p3 p4 A3 hbw3 hb4
    go_wp2_with fail
    refine (HI.out _ (tab_later HT.out hbw4)).mono ?_
    rintro e w5 ⟨rfl, hb5⟩
    have HB5 := hideB2 (below_then hbw4 hb5)
    clear hbw4 hb5
    go_wp2
    go_ret
    exact ⟨rfl, HB5.out⟩

set_option maxRecDepth 100000 in
theorem fnExactUrlOk_lifted (os : Os) (started : os.Started) (H : Type) (enc : TypeId × Value → H) :
    ReturnsInHanded {} Tryz.checked os 5 .any (fun w args => (Rows.fnExactUrlOkSpec.pre enc Tryz.prog Tryz.f5 [] false w args ∧ laidMetH Tryz.prog Rows.fnExactUrlOkRow.laid w) ∧ sizedMet enc Tryz.prog Tryz.f5 (OpenSpec.ofChange Rows.fnExactUrlOkSpec) false w args)
      (Rows.fnExactUrlOkSpec.post enc Tryz.prog Tryz.f5 false true false false) := by
  refine returnsInHanded_of_change_and (C := Tryz.checked) (X := fun w _ => laidMetH Tryz.prog Rows.fnExactUrlOkRow.laid w) (fun _ _ _ hh h => h.of_heap hh) Tryz.own started (by kernel_rfl) Tryz.func5
    (ChangeSpec.witness_shaped (enc := enc) (C := Tryz.checked) (os := os) (X := fun w _ => laidMetH Tryz.prog Rows.fnExactUrlOkRow.laid w) false (World.laidAll Tryz.prog os Rows.fnExactUrlOkRow.laid) #[.agg #[.string ByteArray.empty, .int .i64 0, .string ByteArray.empty, .string ByteArray.empty, .bool false]] 8 (World.laidAll_os _ _ _) (World.shaped_of_ZipB (by kernel_rfl) (by kernel_rfl)) (by kernel_rfl) (by kernel_rfl) (by kernel_rfl)
      (by rw [MakeChecks.laidMetH_plain _ _ _ (by kernel_rfl)]; exact laidMet_laidAll _ (by kernel_rfl) (by kernel_rfl))) ?_
  intro W base args ds gs before hval0 hW _ _ hL _
  have hval : ∀ (j : Nat) t v, Tryz.f5.params[j]? = some t → args[j]? = some v → Value.okWide Tryz.prog W .any base t v := hval0
  have hW' := hW
  obtain ⟨p, q, hA0, hV, rfl, hfz, hnd⟩ := hW
  have hA : DataW.TrodAll enc Tryz.prog W 0 (fun _ => true) true Tryz.f5.params.toList args.toList ds p := hA0
  rw [Tryz.params5] at hA hval
  obtain ⟨v0, vs0, d0, ds0, p0, q0, hargs, rfl, rfl, h0, r0⟩ := trodAll_cons hA
  obtain ⟨rfl, rfl, rfl⟩ := trodAll_nil r0
  obtain rfl : args = #[v0] := by cases args; simp_all
  obtain ⟨rfl, rfl⟩ := trodVars_none hV
  have k0 := h0
  have lt0 : ∀ x ∈ p0, x.block < W.heap.size := by obtain ⟨m, hm⟩ := k0; exact DataW.trod_lt m _ _ _ hm
  obtain ⟨ho0, pa0, qu0, po0, hq0, rfl, w0⟩ := open_url Tryz.underlying23 (by kernel_rfl) (by kernel_rfl) Tryz.underlying9 Tryz.underlying3 Tryz.underlying9 Tryz.underlying9 Tryz.underlying4 (hval 0 23 v0 rfl rfl) h0
  have tabs := fnExactUrlOk_tabs (W := W) hL
  clear hA0 hval0
  refine (fnExactUrlOk_walk ho0 pa0 qu0 po0 hq0 W w0 tabs).mono fun e W' ⟨he, bel⟩ => ?_
  subst he
  exact ⟨_, rfl, _, _, _, [], _, [], hW', trodAll_mk1 (shut_bool Tryz.underlying4 _), (trodAll_cons_mk (Below.trod Tryz.laidOut (by kernel_rfl) (of_decide_eq_true (by kernel_rfl)) k0 bel lt0) trodAll_mk0), rfl, bel.frame _, fun h => by cases h⟩
theorem fnExactUrlOk_row : Rows.FnExactUrlOkSaid :=
  OpenClaim.holds_of_wide 5 Tryz.f5 rfl rfl rfl rfl rfl rfl rfl ⟨rfl, rfl, rfl, rfl, rfl⟩ rfl rfl rfl rfl rfl (by kernel_rfl) Tryz.func5 (by kernel_rfl)
    (of_decide_eq_true (by kernel_rfl)) (by unfold Func.isWrapper; first | (rw [if_pos (by decide +kernel)]; kernel_rfl) | (rw [if_neg (by decide +kernel)]; exact ⟨rfl, rfl⟩))
    (fun os started H enc _ => fnExactUrlOk_lifted os started H enc)
/-- THE STATEMENT: the card. -/
theorem fnExactUrlOk_holds : Rows.FnExactUrlOkCardSaid :=
  Claim7.holds_tied_plain_at .later [] [.data, .data, .data, .data, .pinned, .pinned] true (true, "b1f6853cc6ef5d084a9187ac10d1c8731d3c11c3883fd327e9b8c9d2c15d80e3") false
    fnExactUrlOk_row (fun _ h => by cases h) (by kernel_rfl) (fun _ h => by cases h) fnExactUrlOk_row_tie rfl ⟨rfl, rfl⟩ (by kernel_rfl) rfl
    (fun f fn hf hfn => by
      obtain rfl : f = 5 := Option.some.inj ((show Tryz.prog.funcNamed "loop.example/g00651/laws.FnExactUrlOk" = some 5 by kernel_rfl).symm.trans hf) |>.symm
      obtain rfl : fn = Tryz.f5 := (Option.some.inj (Tryz.func5.symm.trans hfn)).symm
      exact ⟨by kernel_rfl, fun j t ht => by
        rw [Tryz.params5] at ht
        rcases j with _ | j
        · have h3 : t = 23 := by simpa using ht.symm
          subst h3
          exact (show Tryz.prog.wantsStandIn 23 = false by kernel_rfl)
        · simp at ht⟩)
    (by kernel_rfl)
#print axioms fnExactUrlOk_holds
end Go.Proofs.YtefhpjipcdmbaaaGreatDoor
