/-
  FnExactIndexText: at every list of lines impl.IndexText answers as spec.IndexText. The condition: the listed tables hold what the program's text lays (the card ties them); what is greater than 2^20 is passed by the law itself.
-/
import Derived.Test.YtenjbgpndkodmacGreatDoorRows
import Derived.Test.YtenjbgpndkodmacGreatDoorTie
import Derived.Test.YtenjbgpndkodmacGreatDoorCards
import Derived.Test.YtenjbgpndkodmacGreatDoorJ1
import Derived.Test.YtenjbgpndkodmacGreatDoorJ10
import Derived.LaidMore
import Derived.Lay
import Derived.LaidLaws
import Derived.SevenTiedAt
import Derived.Stop.Joined
namespace Go.Proofs.YtenjbgpndkodmacGreatDoor
set_option linter.unusedVariables false
set_option linter.unusedSimpArgs false
open Go.ChangeShapes Go.WideShapes Go.ChangeAt Go.RowKit
open Go.ChangeMaps (open_string shut_string)
theorem fnExactIndexText_tabs {W : World} (h : laidMetH Tryz.prog Rows.fnExactIndexTextRow.laid W) : Tab10 W ∧ MonTab W := by
  rw [MakeChecks.laidMetH_plain _ _ _ (by kernel_rfl)] at h
  exact ⟨dectab_of_laid (by unfold Rows.fnExactIndexTextRow; simp only [List.mem_cons, List.mem_singleton, Prod.mk.injEq]; simp) h, montab_of_laid (by unfold Rows.fnExactIndexTextRow; simp only [List.mem_cons, List.mem_singleton, Prod.mk.injEq]; simp) h⟩
set_option maxRecDepth 100000 in
set_option maxHeartbeats 4000000 in
theorem fnExactIndexText_walk (a : Option Addr) (len cap : Nat) (l : List Lx) (w : World) (hx : ArgX w a len l) (wl : len ≤ maxLen) (wd : ∀ j, j < len → ZX (lxAt l j)) (tabs : Tab10 w ∧ MonTab w) :
    Calls Tryz.prog 6 #[.slice a len cap] w fun e w' => e = .returned (.bool true) ∧ Below w.heap.size w w' := by
  have HS := hideB2 (fun W h => szLineS_left a len cap l 1048576 W h wl wd (by omega) (by omega))
  have HT := hideB2 tabs
  have HX := hideB2 hx
  have hln := hx.1
  clear hx tabs wd
  by_cases hle : (len : Int) + (totX l : Int) ≤ 1048576
  · have hlen : len ≤ 1048576 := by omega
    have BD := BdX.of (l := l) (by omega)
    have HP := hideB2 (fun v W (h : SlX W v l) => sIndexText_any v l W h BD (by omega))
    have HI := hideB2 (fun v W (h : SlX W v l) (hc : CapX v) (ht : Tab10 W) (hm : MonTab W) => IndexText_any v l W h hc BD (by omega) ht hm)
    have HEQ := hideB2 (fun va vb W ha hb => eqLineS_same va vb l W ha hb (by omega))
    have hz : ¬ ((1048576 : Int) - (len : Int) - (totX l : Int) < 0) := by omega
    rw [if_pos hle] at HS
    have HTL := hideB2 (fun W h => toLineS_any a len cap l W h hlen)
    have HLN := hideB2 hln
    clear hln hle BD
    generalize (1048576 : Int) - (len : Int) - (totX l : Int) = z at *
    generalize itxX l = r at *
    go_enter Tryz.func6, Tryz.ntmps6
    go_wp2_with fail
    refine (HS.out _ HX.out).mono ?_
    rintro e1 w1 ⟨rfl, hb1⟩
    have HB1 := hideB2 hb1
    have HX1 := hideB2 (HX.out.later hb1)
    clear hb1 HS
    go_wp2_with fail
    refine (HTL.out _ HX1.out).mono ?_
    rintro e2 w2 ⟨rfl, hr2, hb2⟩
    have HB2 := hideB2 (below_then HB1.out hb2)
    have HX2 := hideB2 (HX1.out.later hb2)
    have HR2 := hideB2 (hr2.sl HLN.out len)
    clear hr2 hb2 HX1 HB1
    go_wp2_with fail
    refine (HP.out _ _ HR2.out).mono ?_
    rintro e3 w3 ⟨rfl, hb3⟩
    have HB3 := hideB2 (below_then HB2.out hb3)
    have HX3 := hideB2 (HX2.out.later hb3)
    clear hb3 HX2 HB2 HR2 HP
    go_wp2_with fail
    refine (HTL.out _ HX3.out).mono ?_
    rintro e4 w4 ⟨rfl, hr4, hb4⟩
    have HB4 := hideB2 (below_then HB3.out hb4)
    have HX4 := hideB2 (HX3.out.later hb4)
    have HR4 := hideB2 (hr4.sl HLN.out len)
    have HC4 := hideB2 (CapX.mk (a := some ⟨w3.heap.size, 0, none⟩) (Nat.le_refl len) wl)
    clear hr4 hb4 HX3 HB3
    go_wp2_with fail
    refine (HI.out _ _ HR4.out HC4.out (tab_later HT.out.1 HB4.out) (HT.out.2.below HB4.out)).mono ?_
    rintro e5 w5 ⟨rfl, hb5⟩
    have HB5 := hideB2 (below_then HB4.out hb5)
    have HX5 := hideB2 (HX4.out.later hb5)
    have HR5 := hideB2 (HR4.out.later hb5)
    clear hb5 HX4 HB4 HR4 HC4 HI
    have hr : (r.toList == r.toList) = true := by simp
    go_wp2_with fail
    refine (HTL.out _ HX5.out).mono ?_
    rintro e6 w6 ⟨rfl, hr6, hb6⟩
    have HB6 := hideB2 (below_then HB5.out hb6)
    have HR6 := hideB2 (HR5.out.later hb6)
    have HQ6 := hideB2 (hr6.sl HLN.out len)
    clear hr6 hb6 HX5 HB5 HR5
    go_wp2_with fail
    refine (HEQ.out _ _ _ HR6.out HQ6.out).mono ?_
    rintro e7 w7 ⟨rfl, hb7⟩
    have HB7 := hideB2 (below_then HB6.out hb7)
    clear hb7 HB6 HR6 HQ6 HEQ
    go_wp2
    go_ret
    exact ⟨rfl, HB7.out⟩
  · rw [if_neg hle] at HS
    clear hle hln
    go_enter Tryz.func6, Tryz.ntmps6
    go_wp2_with fail
    refine (HS.out _ HX.out).mono ?_
    rintro e1 w1 ⟨rfl, hb1⟩
    have HB1 := hideB2 hb1
    clear hb1 HS
    go_wp2
    go_ret
    exact ⟨rfl, HB1.out⟩

set_option maxRecDepth 100000 in
theorem fnExactIndexText_lifted (os : Os) (started : os.Started) (H : Type) (enc : TypeId × Value → H) :
    ReturnsInHanded {} Tryz.checked os 6 .any (fun w args => (Rows.fnExactIndexTextSpec.pre enc Tryz.prog Tryz.f6 [] false w args ∧ laidMetH Tryz.prog Rows.fnExactIndexTextRow.laid w) ∧ sizedMet enc Tryz.prog Tryz.f6 (OpenSpec.ofChange Rows.fnExactIndexTextSpec) false w args)
      (Rows.fnExactIndexTextSpec.post enc Tryz.prog Tryz.f6 false true false false) := by
  refine returnsInHanded_of_change_and (C := Tryz.checked) (X := fun w _ => laidMetH Tryz.prog Rows.fnExactIndexTextRow.laid w) (fun _ _ _ hh h => h.of_heap hh) Tryz.own started (by kernel_rfl) Tryz.func6
    (ChangeSpec.witness_shaped (enc := enc) (C := Tryz.checked) (os := os) (X := fun w _ => laidMetH Tryz.prog Rows.fnExactIndexTextRow.laid w) false (World.laidAll Tryz.prog os Rows.fnExactIndexTextRow.laid) #[.slice none 0 0] 8 (World.laidAll_os _ _ _) (World.shaped_of_ZipB (by kernel_rfl) (by kernel_rfl)) (by kernel_rfl) (by kernel_rfl) (by kernel_rfl)
      (by rw [MakeChecks.laidMetH_plain _ _ _ (by kernel_rfl)]; exact laidMet_laidAll _ (by kernel_rfl) (by kernel_rfl))) ?_
  intro W base args ds gs before hval0 hW _ _ hL _
  have hval : ∀ (j : Nat) t v, Tryz.f6.params[j]? = some t → args[j]? = some v → Value.okWide Tryz.prog W .any base t v := hval0
  have hW' := hW
  obtain ⟨p, q, hA0, hV, rfl, hfz, hnd⟩ := hW
  have hA : DataW.TrodAll enc Tryz.prog W 0 (fun _ => true) true Tryz.f6.params.toList args.toList ds p := hA0
  rw [Tryz.params6] at hA hval
  obtain ⟨v0, vs0, d0, ds0, p0, q0, hargs, rfl, rfl, h0, r0⟩ := trodAll_cons hA
  obtain ⟨rfl, rfl, rfl⟩ := trodAll_nil r0
  obtain rfl : args = #[v0] := by cases args; simp_all
  obtain ⟨g1, rfl⟩ := trodVars_one' hV
  obtain ⟨a0, len0, cap0, rfl⟩ := okWide_slice Tryz.underlying22 (hval 0 22 v0 rfl rfl)
  have k0 := h0
  have lt0 : ∀ x ∈ p0, x.block < W.heap.size := by obtain ⟨m, hm⟩ := k0; exact DataW.trod_lt m _ _ _ hm
  obtain ⟨l0, w0, wl0, wd0⟩ := argX_in h0
  have tabs := fnExactIndexText_tabs (W := W) hL
  clear hA0 hval0
  refine (fnExactIndexText_walk a0 len0 cap0 l0 W w0 wl0 wd0 tabs).mono fun e W' ⟨he, bel⟩ => ?_
  subst he
  exact ⟨_, rfl, _, _, _, [], _, _, hW', trodAll_mk1 (shut_bool Tryz.underlying4 _), (trodAll_cons_mk (Below.trod Tryz.laidOut (by kernel_rfl) (of_decide_eq_true (by kernel_rfl)) k0 bel lt0) trodAll_mk0), (Below.trodVars Tryz.laidOut bel (by kernel_rfl) hV), bel.frame _, fun h => by cases h⟩
theorem fnExactIndexText_row : Rows.FnExactIndexTextSaid :=
  OpenClaim.holds_of_wide 6 Tryz.f6 rfl rfl rfl rfl rfl rfl rfl ⟨rfl, rfl, rfl, rfl, rfl⟩ rfl rfl rfl rfl rfl (by kernel_rfl) Tryz.func6 (by kernel_rfl)
    (of_decide_eq_true (by kernel_rfl)) (by unfold Func.isWrapper; first | (rw [if_pos (by decide +kernel)]; kernel_rfl) | (rw [if_neg (by decide +kernel)]; exact ⟨rfl, rfl⟩))
    (fun os started H enc _ => fnExactIndexText_lifted os started H enc)
/-- THE STATEMENT: the card. -/
theorem fnExactIndexText_holds : Rows.FnExactIndexTextCardSaid :=
  Claim7.holds_tied_plain_at .later [] [.data, .data, .data, .data, .data, .pinned, .pinned] true (true, "46306c45d5b3ca64c33472a5648a656cf2ed769b8d26f7f84436240dff350267") false
    fnExactIndexText_row (fun _ h => by cases h) (by kernel_rfl) (fun _ h => by cases h) fnExactIndexText_row_tie rfl ⟨rfl, rfl⟩ (by kernel_rfl) rfl
    (fun f fn hf hfn => by
      obtain rfl : f = 6 := Option.some.inj ((show Tryz.prog.funcNamed "loop.example/g00651/laws.FnExactIndexText" = some 6 by kernel_rfl).symm.trans hf) |>.symm
      obtain rfl : fn = Tryz.f6 := (Option.some.inj (Tryz.func6.symm.trans hfn)).symm
      exact ⟨by kernel_rfl, fun j t ht => by
        rw [Tryz.params6] at ht
        rcases j with _ | j
        · have h3 : t = 22 := by simpa using ht.symm
          subst h3
          exact (show Tryz.prog.wantsStandIn 22 = false by kernel_rfl)
        · simp at ht⟩)
    (by kernel_rfl)
#print axioms fnExactIndexText_holds
end Go.Proofs.YtenjbgpndkodmacGreatDoor
