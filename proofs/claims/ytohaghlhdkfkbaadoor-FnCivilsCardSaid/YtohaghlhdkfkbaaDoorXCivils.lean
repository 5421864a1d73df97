/-
  FnCivils: a time comes back from its day and hour; a day later it is the next weekday. The tables of names and of the months' lengths are laid by the program's own text (the card).
-/
import Derived.Test.YtohaghlhdkfkbaaDoorWL2
import Derived.Test.YtohaghlhdkfkbaaDoorOpenT
import Derived.Test.YtohaghlhdkfkbaaDoorCards
import Derived.Test.YtohaghlhdkfkbaaDoorTie
namespace Go.Proofs.YtohaghlhdkfkbaaDoor
set_option linter.unusedVariables false
set_option linter.unusedSimpArgs false
open Go.ChangeShapes Go.WideShapes Go.ChangeAt Go.RowKit
open Go.ChangeMaps (open_string shut_string)
theorem fnCivils_tabs {W : World} (h : laidMet Tryd.prog Rows.fnCivilsRow.laid W) : Tabs W := tabs_of_laid (.head _) (.tail _ (.head _)) (.tail _ (.tail _ (.head _))) h
theorem wd_next (t : Int) : ((wdN (t + 86400) : Nat) : Int) = (((wdN t : Nat) : Int) + 1) % 7 := by rw [wdN_eq, wdN_eq]; omega
set_option maxHeartbeats 4000000 in
theorem fnCivils_walk (a0 : Option Addr) (len0 cap0 : Nat) (z0 : List Int) (w : World) (w0 : IsRow .u8 w a0 len0 cap0 z0) (hT : Tabs w) :
    Calls Tryd.prog 5 #[.slice a0 len0 cap0] w fun e w' => e = .returned (.bool true) ∧ Below w.heap.size w w' := by
  have hc := code_of w0
  clear w0
  go_enter Tryd.func5, Tryd.ntmps5
  go_wp2_with fail
  refine (DrawCivilOf_any a0 len0 cap0 _ hc).mono ?_
  rintro e w1 ⟨⟨t, hn1, hn2, rfl⟩, hb1⟩
  have hT1 := hT.below hb1
  clear hc hT
  by_cases ht : 0 ≤ t ∧ t ≤ 253402300799
  · obtain ⟨y, m, d, h, i, s, hv, et⟩ := civ_ofN t ht.1 ht.2
    have HC := hideB2 (fun w hM => CivilOf_yes t y m d h i s w hM hv et)
    have HS := hideB2 (fun w hM => SecondsOf_yes y m d h i s w hM (vldB_iff.2 hv))
    have HO := hideB2 (fun w hM => CivilOk_any y m d h i s w hM)
    have hvb : vldB y m d h i s = true := vldB_iff.2 hv
    rw [hvb] at HO
    rw [← et] at HS
    clear hv hvb et
    obtain ⟨ht0, ht1⟩ := ht
    go_wp2_with fail
    refine (HC.out _ hT1.mon).mono ?_
    rintro e w2 ⟨rfl, hb2⟩
    have gc := civAt_new w2 y m d h i s 30
    have hb3 := below_then (below_then hb1 hb2) (below_a1 w2 (.cells #[.int .i64 y, .int .i64 m, .int .i64 d, .int .i64 h, .int .i64 i, .int .i64 s] 30))
    have hT3 := hT1.below (below_then hb2 (below_a1 w2 (.cells #[.int .i64 y, .int .i64 m, .int .i64 d, .int .i64 h, .int .i64 i, .int .i64 s] 30)))
    clear hb1 hb2 hT1 HC
    go_wp2_with fail
    generalize w2.alloc (.cells #[.int .i64 y, .int .i64 m, .int .i64 d, .int .i64 h, .int .i64 i, .int .i64 s] 30) = W at *
    refine (HS.out _ hT3.mon).mono ?_
    rintro e w4 ⟨rfl, hb4⟩
    have gc4 := gc.below hb4
    have hT4 := hT3.below hb4
    have hb5 := below_then hb3 hb4
    clear gc hb3 hb4 hT3 HS
    obtain ⟨c0, c1, c2, c3, c4, c5⟩ := gc4
    go_wp2_with fail
    refine (HO.out _ hT4.mon).mono ?_
    rintro e w5 ⟨rfl, hb6⟩
    have hT5 := hT4.below hb6
    have hb7 := below_then hb5 hb6
    clear hb5 hb6 hT4 HO c0 c1 c2 c3 c4 c5
    by_cases hl : t + 86400 ≤ 253402300799
    · have hwn := hideB2 (wd_next t)
      have hw1 : ((wdN (t + 86400) : Nat) : Int) ≤ 6 := by have := wdN_lt (t + 86400); omega
      have hw2 : ((wdN t : Nat) : Int) ≤ 6 := by have := wdN_lt t; omega
      go_wp2_with fail
      refine (Weekday_yes (t + 86400) _ (by omega) (by omega)).mono ?_
      rintro e w6 ⟨rfl, rfl⟩
      go_wp2_with fail
      refine (Weekday_yes t _ (by omega) (by omega)).mono ?_
      rintro e w6 ⟨rfl, rfl⟩
      have hne : (((wdN (t + 86400) : Nat) : Int) != (((wdN t : Nat) : Int) + 1) % 7) = false := by rw [bne_eq_false_iff_eq]; exact hwn.out
      clear hwn
      go_wp2_with fail
      refine (days_any _ hT5).mono ?_
      rintro e w7 ⟨rfl, hb8⟩
      have hb := below_then hb7 hb8
      go_wp2
      go_ret
      exact ⟨rfl, hb⟩
    · go_wp2_with fail
      refine (days_any _ hT5).mono ?_
      rintro e w7 ⟨rfl, hb8⟩
      have hb := below_then hb7 hb8
      go_wp2
      go_ret
      exact ⟨rfl, hb⟩
  · have hcs : t < 0 ∨ (0 ≤ t ∧ 253402300799 < t) := by omega
    have HC := hideB2 (CivilOf_no t w1 ht)
    have HW := hideB2 (fun w => Weekday_no t w ht)
    clear ht
    rcases hcs with h | ⟨h, h'⟩
    all_goals
      go_wp2_with fail
      refine HC.out.mono ?_
      rintro e w2 ⟨rfl, hb2⟩
      have hb3 := below_then (below_then hb1 hb2) (below_a1 w2 (.cells #[.int .i64 0, .int .i64 0, .int .i64 0, .int .i64 0, .int .i64 0, .int .i64 0] 30))
      have hT3 := hT1.below (below_then hb2 (below_a1 w2 (.cells #[.int .i64 0, .int .i64 0, .int .i64 0, .int .i64 0, .int .i64 0, .int .i64 0] 30)))
      clear hb1 hb2 hT1 HC
      go_wp2_with fail
      refine (HW.out _).mono ?_
      rintro e w4 ⟨rfl, rfl⟩
      go_wp2_with fail
      refine (days_any _ hT3).mono ?_
      rintro e w5 ⟨rfl, hb5⟩
      have hb := below_then hb3 hb5
      go_wp2
      go_ret
      exact ⟨rfl, hb⟩

/-- A world that meets the condition: the settled one, the listed tables laid. -/
theorem fnCivils_laid_met (os : Os) (args : Array Value) : laidMet Tryd.prog Rows.fnCivilsRow.laid (({ (World.holding Tryd.prog os ⟨#[], #[], []⟩) with heap := ((((World.holding Tryd.prog os ⟨#[], #[], []⟩).heap.modify 1 (laidRow #[.string ⟨#[77, 111, 110, 100, 97, 121]⟩, .string ⟨#[84, 117, 101, 115, 100, 97, 121]⟩, .string ⟨#[87, 101, 100, 110, 101, 115, 100, 97, 121]⟩, .string ⟨#[84, 104, 117, 114, 115, 100, 97, 121]⟩, .string ⟨#[70, 114, 105, 100, 97, 121]⟩, .string ⟨#[83, 97, 116, 117, 114, 100, 97, 121]⟩, .string ⟨#[83, 117, 110, 100, 97, 121]⟩])).modify 0 (laidRow #[.string ⟨#[]⟩, .string ⟨#[74, 97, 110]⟩, .string ⟨#[70, 101, 98]⟩, .string ⟨#[77, 97, 114]⟩, .string ⟨#[65, 112, 114]⟩, .string ⟨#[77, 97, 121]⟩, .string ⟨#[74, 117, 110]⟩, .string ⟨#[74, 117, 108]⟩, .string ⟨#[65, 117, 103]⟩, .string ⟨#[83, 101, 112]⟩, .string ⟨#[79, 99, 116]⟩, .string ⟨#[78, 111, 118]⟩, .string ⟨#[68, 101, 99]⟩])).modify 2 (laidRow #[.int .i64 0, .int .i64 31, .int .i64 28, .int .i64 31, .int .i64 30, .int .i64 31, .int .i64 30, .int .i64 31, .int .i64 31, .int .i64 30, .int .i64 31, .int .i64 30, .int .i64 31])) } : World).forCall (fun _ _ => 0) ⟨#[], args, []⟩).memory :=
  laidMet_of_run' 8 (by kernel_rfl) (by kernel_rfl)
set_option maxRecDepth 100000 in
theorem fnCivils_lifted (os : Os) (started : os.Started) (H : Type) (enc : TypeId × Value → H) :
    ReturnsInHanded {} Tryd.checked os 5 .any (fun w args => (Rows.fnCivilsSpec.pre enc Tryd.prog Tryd.f5 [] false w args ∧ laidMetH Tryd.prog Rows.fnCivilsRow.laid w) ∧ sizedMet enc Tryd.prog Tryd.f5 (OpenSpec.ofChange Rows.fnCivilsSpec) false w args)
      (Rows.fnCivilsSpec.post enc Tryd.prog Tryd.f5 false true false false) := by
  refine returnsInHanded_of_change_and (C := Tryd.checked) (X := fun w _ => laidMetH Tryd.prog Rows.fnCivilsRow.laid w) (fun _ _ _ hh h => h.of_heap hh) Tryd.own started (by kernel_rfl) Tryd.func5
    (ChangeSpec.witness_at (enc := enc) (C := Tryd.checked) (os := os) (X := fun w _ => laidMetH Tryd.prog Rows.fnCivilsRow.laid w) false ({ (World.holding Tryd.prog os ⟨#[], #[], []⟩) with heap := ((((World.holding Tryd.prog os ⟨#[], #[], []⟩).heap.modify 1 (laidRow #[.string ⟨#[77, 111, 110, 100, 97, 121]⟩, .string ⟨#[84, 117, 101, 115, 100, 97, 121]⟩, .string ⟨#[87, 101, 100, 110, 101, 115, 100, 97, 121]⟩, .string ⟨#[84, 104, 117, 114, 115, 100, 97, 121]⟩, .string ⟨#[70, 114, 105, 100, 97, 121]⟩, .string ⟨#[83, 97, 116, 117, 114, 100, 97, 121]⟩, .string ⟨#[83, 117, 110, 100, 97, 121]⟩])).modify 0 (laidRow #[.string ⟨#[]⟩, .string ⟨#[74, 97, 110]⟩, .string ⟨#[70, 101, 98]⟩, .string ⟨#[77, 97, 114]⟩, .string ⟨#[65, 112, 114]⟩, .string ⟨#[77, 97, 121]⟩, .string ⟨#[74, 117, 110]⟩, .string ⟨#[74, 117, 108]⟩, .string ⟨#[65, 117, 103]⟩, .string ⟨#[83, 101, 112]⟩, .string ⟨#[79, 99, 116]⟩, .string ⟨#[78, 111, 118]⟩, .string ⟨#[68, 101, 99]⟩])).modify 2 (laidRow #[.int .i64 0, .int .i64 31, .int .i64 28, .int .i64 31, .int .i64 30, .int .i64 31, .int .i64 30, .int .i64 31, .int .i64 31, .int .i64 30, .int .i64 31, .int .i64 30, .int .i64 31])) } : World) #[.slice none 0 0] 8 rfl (by kernel_rfl) (by kernel_rfl) (by kernel_rfl) (by kernel_rfl) (by kernel_rfl) (fnCivils_laid_met os _)) ?_
  intro W base args ds gs before hval0 hW _ _ hL _
  have hval : ∀ (j : Nat) t v, Tryd.f5.params[j]? = some t → args[j]? = some v → Value.okWide Tryd.prog W .any base t v := hval0
  have hW' := hW
  obtain ⟨p, q, hA0, hV, rfl, hfz, hnd⟩ := hW
  have hA : DataW.TrodAll enc Tryd.prog W 0 (fun _ => true) true Tryd.f5.params.toList args.toList ds p := hA0
  rw [Tryd.params5] at hA hval
  obtain ⟨v0, vs0, d0, ds0, p0, q0, hargs, rfl, rfl, h0, r0⟩ := trodAll_cons hA
  obtain ⟨rfl, rfl, rfl⟩ := trodAll_nil r0
  obtain rfl : args = #[v0] := by cases args; simp_all
  obtain ⟨g1, g2, g3, rfl⟩ := trodVars_three' hV
  obtain ⟨a0, len0, cap0, rfl⟩ := okWide_slice Tryd.underlying22 (hval 0 22 v0 rfl rfl)
  have k0 := h0
  have lt0 : ∀ x ∈ p0, x.block < W.heap.size := by obtain ⟨m, hm⟩ := k0; exact DataW.trod_lt m _ _ _ hm
  obtain ⟨z0, w0⟩ : ∃ zs, IsRow .u8 W a0 len0 cap0 zs := by
    obtain ⟨fuel, hf⟩ := h0
    rcases open_ints Tryd.underlying22 Tryd.underlying5 (by kernel_rfl) hf with ⟨hcs, _⟩ | ⟨x, l, c, zs, hcs, _, hl, hm, hz, _, hcell, hwz⟩
    · simp [Value.cells] at hcs
      obtain ⟨rfl, rfl, rfl⟩ := hcs
      exact ⟨[], .inl ⟨rfl, rfl, rfl, rfl⟩⟩
    · simp [Value.cells] at hcs
      obtain ⟨rfl, rfl, rfl⟩ := hcs
      exact ⟨zs, .inr ⟨_, rfl, hl, hm, by simpa using hz, hcell, hwz⟩⟩
  have tabs := fnCivils_tabs (W := W) hL
  clear hA0 hval0
  refine (fnCivils_walk a0 len0 cap0 z0 W w0 tabs).mono fun e W' ⟨he, bel⟩ => ?_
  subst he
  exact ⟨_, rfl, _, _, _, [], _, _, hW', trodAll_mk1 (shut_bool Tryd.underlying4 _), (trodAll_cons_mk (Below.trod Tryd.laidOut (by kernel_rfl) (of_decide_eq_true (by kernel_rfl)) k0 bel lt0) trodAll_mk0), (Below.trodVars Tryd.laidOut bel (by kernel_rfl) hV), bel.frame _, fun h => by cases h⟩
theorem fnCivils_row : Rows.FnCivilsSaid :=
  OpenClaim.holds_of_wide 5 Tryd.f5 rfl rfl rfl rfl rfl rfl rfl ⟨rfl, rfl, rfl, rfl, rfl⟩ rfl rfl rfl rfl rfl (by kernel_rfl) Tryd.func5 (by kernel_rfl)
    (of_decide_eq_true (by kernel_rfl)) (by unfold Func.isWrapper; first | (rw [if_pos (by decide +kernel)]; kernel_rfl) | (rw [if_neg (by decide +kernel)]; exact ⟨rfl, rfl⟩))
    (fun os started H enc _ => fnCivils_lifted os started H enc)
/-- THE STATEMENT: the card. -/
theorem fnCivils_holds : Rows.FnCivilsCardSaid :=
  Claim7.holds_tied_plain_at .later [] [.data, .data, .data] true (true, "e036e2253d9167f81d39f68d9568a022764cbb1abf99261de18cef6116fbe40c") false
    fnCivils_row (fun _ h => by cases h) (by kernel_rfl) (fun _ h => by cases h) fnCivils_row_tie rfl ⟨rfl, rfl⟩ (by kernel_rfl) rfl
    (fun f fn hf hfn => by
      obtain rfl : f = 5 := Option.some.inj ((show Tryd.prog.funcNamed "loop.example/g00651/laws.FnCivils" = some 5 by kernel_rfl).symm.trans hf) |>.symm
      obtain rfl : fn = Tryd.f5 := (Option.some.inj (Tryd.func5.symm.trans hfn)).symm
      exact ⟨by kernel_rfl, fun j t ht => by
        rw [Tryd.params5] at ht
        have h3 : t = 22 := by
          rcases j with _ | j
          · simpa using ht.symm
          · simp at ht
        subst h3
        exact (show Tryd.prog.wantsStandIn 22 = false by kernel_rfl)⟩)
    (by kernel_rfl)
#print axioms fnCivils_holds
end Go.Proofs.YtohaghlhdkfkbaaDoor
