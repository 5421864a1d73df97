/-
  FnExactHopNames: at every argument impl.HopNames answers as spec.HopNames, writes into no argument and keeps nothing of one; its answer owns its memory, behind another call too. No condition (what is greater than 2^20 is passed by the law itself).
-/
import Derived.Test.YtbdggopdhnlbfacDoorRows
import Derived.Test.YtbdggopdhnlbfacDoorTie
import Derived.Test.YtbdggopdhnlbfacDoorCards
import Derived.Test.YtbdggopdhnlbfacDoorF12
import Derived.Test.YtbdggopdhnlbfacDoorFK
import Derived.Test.YtbdggopdhnlbfacDoorOpenH
import Derived.Test.YtbdggopdhnlbfacDoorOpenF
namespace Go.Proofs.YtbdggopdhnlbfacDoor
set_option linter.unusedVariables false
set_option linter.unusedSimpArgs false
open Go.ChangeShapes Go.WideShapes Go.ChangeAt Go.RowKit
open Go.ChangeMaps (open_string shut_string)
theorem fnExactHopNames_tabs {W : World} (h : laidMet Tryd.prog Rows.fnExactHopNamesRow.laid W) : Hops W := hops_of_laid (.head _) h
set_option maxRecDepth 10000 in
set_option maxHeartbeats 4000000 in
theorem fnExactHopNames_walk (a : Option Addr) (len cap : Nat) (l : List Fd) (w : World) (hx : ArgF w a len l) (hl : len ≤ maxLen) (hd : ∀ j, j < len → ((fdAt l j).1.size ≤ maxLen ∧ (fdAt l j).2.size ≤ maxLen)) (tabs : Hops w) :
    Calls Tryd.prog 3 #[.slice a len cap] w fun e w' => e = .returned (.bool true) ∧ Below w.heap.size w w' := by
  go_enter Tryd.func3, Tryd.ntmps3
  go_wp2_with fail
  refine (szFieldS_any a len cap l _ hx hl hd).mono ?_
  rintro e w1 ⟨rfl, hb1⟩
  by_cases hs : len + totF l ≤ 1048576
  · rw [if_pos hs]
    have hlx : l.length = len := hx.1
    have hlm : len ≤ 1048576 := by omega
    have htm : totF l ≤ 1099511627776 := by omega
    have hge : ¬ 1048576 - (len : Int) - (totF l : Int) < 0 := by omega
    have hlm' : l.length ≤ 1048576 := by omega
    have hLm : (hopL l).length ≤ 1000000 := by have := hopL_len l; omega
    have HS := hideB2 (fun (b : Nat) (W : World) (g : Hops W) (h : SlF W (.slice (some ⟨b, 0, none⟩) len len) l) => sHopNames_any (.slice (some ⟨b, 0, none⟩) len len) l W h hlm' htm)
    have HI := hideB2 (fun (b : Nat) (W : World) (g : Hops W) (h : SlF W (.slice (some ⟨b, 0, none⟩) len len) l) => HopNames_any (.slice (some ⟨b, 0, none⟩) len len) l W h hlm' htm g)
    generalize hopL l = L at *
    have HLX := hideB2 hlx
    generalize totF l = tt at *
    clear hlx hd
    go_wp2_with fail
    refine (toFieldS_any a len cap l _ (hx.later hb1) hlm).mono ?_
    rintro e w2 ⟨rfl, hr2, hb2⟩
    go_wp2_with fail
    refine (HS.out _ _ (tabs.later (below_then hb1 hb2)) (hr2.sl HLX.out len)).mono ?_
    rintro e w3 ⟨vs, rfl, hs3⟩
    obtain ⟨hs3, hf3, hb3⟩ := hs3.ans
    have hbw3 := below_then (below_then hb1 hb2) hb3
    go_wp2_with fail
    refine (toFieldS_any a len cap l _ (hx.later hbw3) hlm).mono ?_
    rintro e w4 ⟨rfl, hr4, hb4⟩
    have hs4 := hs3.later hb4
    have hslt : ∀ g, vs.ownBlock = some g → g < w3.heap.size := fun g h => hs3.own_lt h
    have hbw4 := below_then hbw3 hb4
    generalize hb : w3.heap.size = b at *
    go_wp2_with fail
    refine (HI.out b _ (tabs.later hbw4) (hr4.sl HLX.out len)).mono ?_
    rintro e w5 ⟨vg, rfl, hg5⟩
    obtain ⟨hg5, hf5, hb5⟩ := hg5.ans
    have hs5 := hs4.later hb5
    have hr5 := hr4.keep hb5
    have hbw5 := below_then hbw4 hb5
    have hglt : ∀ g, vg.ownBlock = some g → g < w5.heap.size := fun g h => hg5.own_lt h
    have hblt := hr4.lt
    have hbge := hbw3.size
    obtain ⟨oa, cs, rfl⟩ := hs5.form
    obtain ⟨og, cg, rfl⟩ := hg5.form
    go_wp2_with fail
    refine (eqStringS_sl _ L _ _ hg5 hs5 hLm).mono ?_
    rintro e w6 ⟨rfl, hb6⟩
    have hs6 := hs5.later hb6
    have hg6 := hg5.later hb6
    have hr6 := hr5.keep hb6
    have hbw6 := below_then hbw5 hb6
    clear hr2 hb2 hb3 hs3 hs4 hs5 hr4 hr5 hb1
    go_wp2_with fail
    refine (toFieldS_any a len cap l _ (hx.later hbw6) hlm).mono ?_
    rintro e w7 ⟨rfl, hr7, hb7⟩
    go_wp2_with fail
    refine (eqFieldS_same _ _ l _ ((hr6.keep hb7).sl HLX.out len) (hr7.sl HLX.out len) hlm').mono ?_
    rintro e w8 ⟨rfl, hb8⟩
    have hs8 := (hs6.later hb7).later hb8
    have hg8 := (hg6.later hb7).later hb8
    have hr8 := (hr6.keep hb7).keep hb8
    have hbw8 := below_then (below_then hbw6 hb7) hb8
    clear hs6 hg6 hr6 hr7 hb7 hb8
    go_wp2_with fail
    refine (markFieldS_any _ l _ (hr8.sl HLX.out len) hlm').mono ?_
    rintro e w9 ⟨rfl, _, hk9'⟩
    have hk9 : World.grownBy _ w9 (some b) := hk9'
    clear hk9'
    rw [HLX.out]
    have hs9 := hs8.gb hk9 (fun g h h' => by have := hslt g h; injection h' with h'; omega)
    have hg9 := hg8.gb hk9 (fun g h h' => by have := hf5 g h; injection h' with h'; omega)
    have hbw9 : Below w.heap.size w w9 := grown_below hbw8 hk9 (fun g h => by injection h with h; omega) hbw8.size
    have hkp : ¬ 1 + 2 * (len : Int) < 0 := by omega
    clear hs8 hg8 hr8 hk9
    go_wp2_with fail
    refine (eqStringS_sl _ L _ _ hg9 hs9 hLm).mono ?_
    rintro e w10 ⟨rfl, hb10⟩
    have hs10 := hs9.later hb10
    have hg10 := hg9.later hb10
    have hbw10 := below_then hbw9 hb10
    clear hs9 hg9 hb10
    go_wp2_with fail
    refine (markStringS_sl _ L _ hg10 hLm).mono ?_
    rintro e w11 ⟨rfl, hm11, hk11⟩
    have hsz10 := hbw10.size
    have hs11 := hs10.gb hk11 (fun g h h' => by have := hslt g h; have := hf5 g h'; omega)
    have hbw11 : Below w.heap.size w w11 := grown_below hbw10 hk11 (fun g h => by have := hf5 g h; omega) hsz10
    clear hs10 hg10 hk11
    go_wp2_with fail
    refine (heldStringS_sl _ L.length _ hm11 hLm).mono ?_
    rintro e w12 ⟨rfl, hb12⟩
    have hs12 := hs11.later hb12
    have hm12 := hm11.later hb12
    have hbw12 := below_then hbw11 hb12
    have hqp : ¬ ((L.length : Int) + 1) < 0 := by omega
    have hqq : (((L.length : Int) + 1) != ((L.length : Int) + 1)) = false := by simp
    clear hs11 hm11 hb12
    go_wp2_with fail
    refine (toFieldS_any a len cap l _ (hx.later hbw12) hlm).mono ?_
    rintro e w13 ⟨rfl, hr13, hb13⟩
    go_wp2_with fail
    refine (HI.out _ _ (tabs.later (below_then hbw12 hb13)) (hr13.sl HLX.out len)).mono ?_
    rintro e w14 ⟨vh, rfl, hh14⟩
    obtain ⟨hh14, hf14, hb14⟩ := hh14.ans
    have hs14 := (hs12.later hb13).later hb14
    have hm14 := (hm12.later hb13).later hb14
    have hbw14 := below_then (below_then hbw12 hb13) hb14
    obtain ⟨oh, ch, rfl⟩ := hh14.form
    clear hs12 hm12 hb13 hr13
    go_wp2_with fail
    refine (eqStringS_sl _ L _ _ hh14 hs14 hLm).mono ?_
    rintro e w15 ⟨rfl, hb15⟩
    have hm15 := hm14.later hb15
    go_wp2_with fail
    refine (heldStringS_sl _ L.length _ hm15 hLm).mono ?_
    rintro e w16 ⟨rfl, hb16⟩
    have HB := hideB2 (below_then (below_then hbw14 hb15) hb16)
    clear hm15 hm14 hs14 hbw14 hb15 hb16 hh14
    go_wp2
    go_ret
    exact ⟨rfl, HB.out⟩
  · rw [if_neg hs]
    go_wp2
    go_ret
    exact ⟨rfl, hb1⟩

/-- A world that meets the condition: the settled one, the listed tables laid. -/
theorem fnExactHopNames_laid_met (os : Os) (args : Array Value) : laidMet Tryd.prog Rows.fnExactHopNamesRow.laid (({ (World.holding Tryd.prog os ⟨#[], #[], []⟩) with heap := ((World.holding Tryd.prog os ⟨#[], #[], []⟩).heap.modify 0 (laidRow #[.string ⟨#[99, 111, 110, 110, 101, 99, 116, 105, 111, 110]⟩, .string ⟨#[107, 101, 101, 112, 45, 97, 108, 105, 118, 101]⟩, .string ⟨#[112, 114, 111, 120, 121, 45, 99, 111, 110, 110, 101, 99, 116, 105, 111, 110]⟩, .string ⟨#[116, 101]⟩, .string ⟨#[116, 114, 97, 105, 108, 101, 114]⟩, .string ⟨#[116, 114, 97, 110, 115, 102, 101, 114, 45, 101, 110, 99, 111, 100, 105, 110, 103]⟩, .string ⟨#[117, 112, 103, 114, 97, 100, 101]⟩])) } : World).forCall (fun _ _ => 0) ⟨#[], args, []⟩).memory :=
  laidMet_of_run' 8 (by kernel_rfl) (by kernel_rfl)
set_option maxRecDepth 100000 in
theorem fnExactHopNames_lifted (os : Os) (started : os.Started) (H : Type) (enc : TypeId × Value → H) :
    ReturnsInHanded {} Tryd.checked os 3 .any (fun w args => (Rows.fnExactHopNamesSpec.pre enc Tryd.prog Tryd.f3 [] false w args ∧ laidMetH Tryd.prog Rows.fnExactHopNamesRow.laid w) ∧ sizedMet enc Tryd.prog Tryd.f3 (OpenSpec.ofChange Rows.fnExactHopNamesSpec) false w args)
      (Rows.fnExactHopNamesSpec.post enc Tryd.prog Tryd.f3 false true false false) := by
  refine returnsInHanded_of_change_and (C := Tryd.checked) (X := fun w _ => laidMetH Tryd.prog Rows.fnExactHopNamesRow.laid w) (fun _ _ _ hh h => h.of_heap hh) Tryd.own started (by kernel_rfl) Tryd.func3
    (ChangeSpec.witness_at (enc := enc) (C := Tryd.checked) (os := os) (X := fun w _ => laidMetH Tryd.prog Rows.fnExactHopNamesRow.laid w) false ({ (World.holding Tryd.prog os ⟨#[], #[], []⟩) with heap := ((World.holding Tryd.prog os ⟨#[], #[], []⟩).heap.modify 0 (laidRow #[.string ⟨#[99, 111, 110, 110, 101, 99, 116, 105, 111, 110]⟩, .string ⟨#[107, 101, 101, 112, 45, 97, 108, 105, 118, 101]⟩, .string ⟨#[112, 114, 111, 120, 121, 45, 99, 111, 110, 110, 101, 99, 116, 105, 111, 110]⟩, .string ⟨#[116, 101]⟩, .string ⟨#[116, 114, 97, 105, 108, 101, 114]⟩, .string ⟨#[116, 114, 97, 110, 115, 102, 101, 114, 45, 101, 110, 99, 111, 100, 105, 110, 103]⟩, .string ⟨#[117, 112, 103, 114, 97, 100, 101]⟩])) } : World) #[.slice none 0 0] 8 rfl (by kernel_rfl) (by kernel_rfl) (by kernel_rfl) (by kernel_rfl) (by kernel_rfl) (fnExactHopNames_laid_met os _)) ?_
  intro W base args ds gs before hval0 hW _ _ hL _
  have hval : ∀ (j : Nat) t v, Tryd.f3.params[j]? = some t → args[j]? = some v → Value.okWide Tryd.prog W .any base t v := hval0
  have hW' := hW
  obtain ⟨p, q, hA0, hV, rfl, hfz, hnd⟩ := hW
  have hA : DataW.TrodAll enc Tryd.prog W 0 (fun _ => true) true Tryd.f3.params.toList args.toList ds p := hA0
  rw [Tryd.params3] at hA hval
  obtain ⟨v0, vs0, d0, ds0, p0, q0, hargs, rfl, rfl, h0, r0⟩ := trodAll_cons hA
  obtain ⟨rfl, rfl, rfl⟩ := trodAll_nil r0
  obtain rfl : args = #[v0] := by cases args; simp_all
  obtain ⟨g1, rfl⟩ := trodVars_one' hV
  obtain ⟨a0, len0, cap0, rfl⟩ := okWide_slice Tryd.underlying22 (hval 0 22 v0 rfl rfl)
  have k0 := h0
  have lt0 : ∀ x ∈ p0, x.block < W.heap.size := by obtain ⟨m, hm⟩ := k0; exact DataW.trod_lt m _ _ _ hm
  obtain ⟨l0, w0, wl0, wd0⟩ := argF_in h0
  have tabs := fnExactHopNames_tabs (W := W) hL
  clear hA0 hval0
  refine (fnExactHopNames_walk a0 len0 cap0 l0 W w0 wl0 wd0 tabs).mono fun e W' ⟨he, bel⟩ => ?_
  subst he
  exact ⟨_, rfl, _, _, _, [], _, _, hW', trodAll_mk1 (shut_bool Tryd.underlying4 _), (trodAll_cons_mk (Below.trod Tryd.laidOut (by kernel_rfl) (of_decide_eq_true (by kernel_rfl)) k0 bel lt0) trodAll_mk0), (Below.trodVars Tryd.laidOut bel (by kernel_rfl) hV), bel.frame _, fun h => by cases h⟩
theorem fnExactHopNames_row : Rows.FnExactHopNamesSaid :=
  OpenClaim.holds_of_wide 3 Tryd.f3 rfl rfl rfl rfl rfl rfl rfl ⟨rfl, rfl, rfl, rfl, rfl⟩ rfl rfl rfl rfl rfl (by kernel_rfl) Tryd.func3 (by kernel_rfl)
    (of_decide_eq_true (by kernel_rfl)) (by unfold Func.isWrapper; first | (rw [if_pos (by decide +kernel)]; kernel_rfl) | (rw [if_neg (by decide +kernel)]; exact ⟨rfl, rfl⟩))
    (fun os started H enc _ => fnExactHopNames_lifted os started H enc)
/-- THE STATEMENT: the card. -/
theorem fnExactHopNames_holds : Rows.FnExactHopNamesCardSaid :=
  Claim7.holds_tied_plain_at .later [] [.data] true (true, "f975e1a4b5ff556a72d534b2784364ebb7e6bce2f2408d1a1b90de7fcd6e3656") false
    fnExactHopNames_row (fun _ h => by cases h) (by kernel_rfl) (fun _ h => by cases h) fnExactHopNames_row_tie rfl ⟨rfl, rfl⟩ (by kernel_rfl) rfl
    (fun f fn hf hfn => by
      obtain rfl : f = 3 := Option.some.inj ((show Tryd.prog.funcNamed "loop.example/g00651/laws.FnExactHopNames" = some 3 by kernel_rfl).symm.trans hf) |>.symm
      obtain rfl : fn = Tryd.f3 := (Option.some.inj (Tryd.func3.symm.trans hfn)).symm
      exact ⟨by kernel_rfl, fun j t ht => by
        rw [Tryd.params3] at ht
        rcases j with _ | j
        · have h3 : t = 22 := by simpa using ht.symm
          subst h3
          exact (show Tryd.prog.wantsStandIn 22 = false by kernel_rfl)
        · simp at ht⟩)
    (by kernel_rfl)
#print axioms fnExactHopNames_holds
end Go.Proofs.YtbdggopdhnlbfacDoor
