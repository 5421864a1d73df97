/-
  FnCleans: a path in its one form has no piece of dots, begins with a slash and is no longer than it was. No condition on the code; the listed tables hold what the program's text lays (the card ties them).
-/
import Derived.Test.YtmhohponikolfaaGreatDoorRows
import Derived.Test.YtmhohponikolfaaGreatDoorTie
import Derived.Test.YtmhohponikolfaaGreatDoorCards
import Derived.Test.YtmhohponikolfaaGreatDoorJ1
import Derived.Test.YtmhohponikolfaaGreatDoorJ6
import Derived.Test.YtmhohponikolfaaGreatDoorJ3
import Derived.LaidMore
import Derived.Lay
import Derived.LaidLaws
import Derived.SevenTiedAt
import Derived.Stop.Joined
namespace Go.Proofs.YtmhohponikolfaaGreatDoor
set_option linter.unusedVariables false
set_option linter.unusedSimpArgs false
open Go.ChangeShapes Go.WideShapes Go.ChangeAt Go.RowKit
open Go.ChangeMaps (open_string shut_string)
theorem fnCleans_tabs {W : World} (h : laidMetH Tryz.prog Rows.fnCleansRow.laid W) : Tab10 W := by
  rw [MakeChecks.laidMetH_plain _ _ _ (by kernel_rfl)] at h
  exact dectab_of_laid (by unfold Rows.fnCleansRow; simp only [List.mem_cons, List.mem_singleton, Prod.mk.injEq]; simp) h
set_option maxRecDepth 100000 in
set_option maxHeartbeats 4000000 in
theorem fnCleans_walk (a : Option Addr) (len cap : Nat) (zs : List Int) (w : World) (hz : IsRow .u8 w a len cap zs) (htab : Tab10 w) :
    Calls Tryz.prog 5 #[.slice a len cap] w fun e w' => e = .returned (.bool true) ∧ Below w.heap.size w w' := by
  have hc := code_of hz
  have HT := hideB2 htab
  clear hz htab
  go_enter Tryz.func5, Tryz.ntmps5
  go_wp2_with fail
  refine (DrawCleanPath_any a len cap _ hc).mono ?_
  rintro e w1 ⟨⟨p, hp, rfl⟩, hb1⟩
  clear hc
  go_wp2_with fail
  refine (CleanPath_any p _ (by unfold maxLen; omega)).mono ?_
  rintro e w2 ⟨rfl, hb2⟩
  have hb2 := below_then hb1 hb2
  clear hb1
  go_wp2_with fail
  refine (sCleanPath_any p _ (by unfold maxLen; omega)).mono ?_
  rintro e w3 ⟨rfl, hb3⟩
  have hb3 := below_then hb2 hb3
  clear hb2
  cases hq : pthQ p
  · rw [clnB_no hq]
    have HB := hideB2 hb3
    clear hb3 hq
    go_wp2_with (go_at_call 17; refine (places_any _ (tab_later HT.out HB.out)).mono ?_; rintro e w4 ⟨rfl, hb4⟩)
    go_ret
    exact ⟨rfl, below_then HB.out hb4⟩
  · obtain ⟨h1, h47⟩ := clnB_head hq
    have H3 := hideB2 (fun i h => clnB_win3 (p := p) hq (i := i) h)
    have H4 := hideB2 (fun i h => clnB_win4 (p := p) hq (i := i) h)
    have hz := clnB_le hq
    have HB := hideB2 hb3
    clear hb3 hq
    generalize clnB p = c at *
    have hne : c.toList.isEmpty = false := by
      rw [ByteArray.toList_eq]
      have hl := len_data c
      cases hd : c.data.toList with
      | nil => rw [hd] at hl; simp at hl; omega
      | cons x r => rfl
    have hpre : c.extract 0 1 = ⟨#[47]⟩ := by
      apply bytes_ext
      rw [Lib.extract_data, List.drop_zero]
      have hd := drop_at8 (s := c) (i := 0) (by omega)
      rw [List.drop_zero, h47] at hd
      rw [hd]; rfl
    have HW := hideB2 (fun W => within_text ⟨#[47]⟩ c W (by unfold maxLen; decide) (by unfold maxLen; omega) h1 hpre)
    have hgt : ¬ (p.size : Int) < (c.size : Int) := by omega
    have hgt2 : decide (p.size < c.size) = false := by rw [decide_eq_false_iff_not]; omega
    have hgt3 : ¬ p.size < c.size := by omega
    have hts : (c ++ ⟨#[47]⟩ : ByteArray).size = c.size + 1 := by rw [ByteArray.size_append]; rfl
    clear hpre h47
    go_wp2_with (go_at_call 19; refine (HW.out _).mono ?_; rintro e w4 ⟨rfl, hb4⟩)
    generalize (c ++ ⟨#[47]⟩ : ByteArray) = t at *
    have htm : t.size ≤ 1048576 := by omega
    try rw [hgt2]
    clear hz hgt hgt2 hgt3 HW h1 hne hts
    have HB4 := hideB2 (below_then HB.out hb4)
    clear hb4 HB
    go_loopw [6] (fun i wr => ∃ k : Nat, i = .int .i64 k ∧ k ≤ t.size ∧ Below w.heap.size w wr) (fun i _ => t.size - (intOf i).toNat)
    case atStart => exact ⟨0, rfl, by omega, HB4.out⟩
    case round =>
      obtain ⟨k, rfl, hk, hb⟩ := hrel
      clear HB4
      have HBB := hideB2 hb
      clear hb
      have e3 : IntKind.i64.wrap ((k : Int) + 3) = ((k + 3 : Nat) : Int) := by rw [IntKind.wrap_i64]; omega
      have e4 : IntKind.i64.wrap ((k : Int) + 4) = ((k + 4 : Nat) : Int) := by rw [IntKind.wrap_i64]; omega
      have c0 : (0 : Int) ≤ (k : Int) := by omega
      by_cases h3 : k + 3 ≤ t.size
      · have l3 : ((k + 3 : Nat) : Int) ≤ (t.size : Int) := by omega
        have c1 : (k : Int) ≤ ((k + 3 : Nat) : Int) := by omega
        have q3 : ((t.extract k (k + 3)).toList == [47, 46, 47]) = false := by
          rw [beq_eq_false_iff_ne, ByteArray.toList_eq]
          intro h
          exact H3.out k h3 (bytes_ext h)
        by_cases h4 : k + 4 ≤ t.size
        · have l4 : ((k + 4 : Nat) : Int) ≤ (t.size : Int) := by omega
          have c2 : (k : Int) ≤ ((k + 4 : Nat) : Int) := by omega
          have q4 : ((t.extract k (k + 4)).toList == [47, 46, 46, 47]) = false := by
            rw [beq_eq_false_iff_ne, ByteArray.toList_eq]
            intro h
            exact H4.out k h4 (bytes_ext h)
          go_wp2
          go_roundw
          case rel => exact ⟨k + 1, by go_num, by omega, HBB.out⟩
          case measure => simp [intOf]; omega
        · have l4 : ¬ ((k + 4 : Nat) : Int) ≤ (t.size : Int) := by omega
          go_wp2
          go_roundw
          case rel => exact ⟨k + 1, by go_num, by omega, HBB.out⟩
          case measure => simp [intOf]; omega
      · have l3 : ¬ ((k + 3 : Nat) : Int) ≤ (t.size : Int) := by omega
        go_wp2_with (go_at_call 17; refine (places_any _ (tab_later HT.out HBB.out)).mono ?_; rintro e w5 ⟨rfl, hb5⟩)
        go_ret
        exact ⟨rfl, below_then HBB.out hb5⟩
set_option maxRecDepth 100000 in
theorem fnCleans_lifted (os : Os) (started : os.Started) (H : Type) (enc : TypeId × Value → H) :
    ReturnsInHanded {} Tryz.checked os 5 .any (fun w args => (Rows.fnCleansSpec.pre enc Tryz.prog Tryz.f5 [] false w args ∧ laidMetH Tryz.prog Rows.fnCleansRow.laid w) ∧ sizedMet enc Tryz.prog Tryz.f5 (OpenSpec.ofChange Rows.fnCleansSpec) false w args)
      (Rows.fnCleansSpec.post enc Tryz.prog Tryz.f5 false true false false) := by
  refine returnsInHanded_of_change_and (C := Tryz.checked) (X := fun w _ => laidMetH Tryz.prog Rows.fnCleansRow.laid w) (fun _ _ _ hh h => h.of_heap hh) Tryz.own started (by kernel_rfl) Tryz.func5
    (ChangeSpec.witness_shaped (enc := enc) (C := Tryz.checked) (os := os) (X := fun w _ => laidMetH Tryz.prog Rows.fnCleansRow.laid w) false (World.laidAll Tryz.prog os Rows.fnCleansRow.laid) #[.slice none 0 0] 8 (World.laidAll_os _ _ _) (World.shaped_of_ZipB (by kernel_rfl) (by kernel_rfl)) (by kernel_rfl) (by kernel_rfl) (by kernel_rfl)
      (by rw [MakeChecks.laidMetH_plain _ _ _ (by kernel_rfl)]; exact laidMet_laidAll _ (by kernel_rfl) (by kernel_rfl))) ?_
  intro W base args ds gs before hval0 hW _ _ hL _
  have hval : ∀ (j : Nat) t v, Tryz.f5.params[j]? = some t → args[j]? = some v → Value.okWide Tryz.prog W .any base t v := hval0
  have hW' := hW
  obtain ⟨p, q, hA0, hV, rfl, hfz, hnd⟩ := hW
  have hA : DataW.TrodAll enc Tryz.prog W 0 (fun _ => true) true Tryz.f5.params.toList args.toList ds p := hA0
  rw [Tryz.params5] at hA hval
  obtain ⟨v0, vs0, d0, ds0, p0, q0, hargs, rfl, rfl, h0, r0⟩ := trodAll_cons hA
  obtain ⟨rfl, rfl, rfl⟩ := trodAll_nil r0
  obtain rfl : args = #[v0] := by cases args; simp_all
  obtain ⟨rfl, rfl⟩ := trodVars_none hV
  obtain ⟨a0, len0, cap0, rfl⟩ := okWide_slice Tryz.underlying22 (hval 0 22 v0 rfl rfl)
  have k0 := h0
  have lt0 : ∀ x ∈ p0, x.block < W.heap.size := by obtain ⟨m, hm⟩ := k0; exact DataW.trod_lt m _ _ _ hm
  obtain ⟨z0, w0⟩ : ∃ zs, IsRow .u8 W a0 len0 cap0 zs := by
    obtain ⟨fuel, hf⟩ := h0
    rcases open_ints Tryz.underlying22 Tryz.underlying5 (by kernel_rfl) hf with ⟨hcs, _⟩ | ⟨x, l, c, zs, hcs, _, hl, hm, hz, _, hcell, hwz⟩
    · simp [Value.cells] at hcs
      obtain ⟨rfl, rfl, rfl⟩ := hcs
      exact ⟨[], .inl ⟨rfl, rfl, rfl, rfl⟩⟩
    · simp [Value.cells] at hcs
      obtain ⟨rfl, rfl, rfl⟩ := hcs
      exact ⟨zs, .inr ⟨_, rfl, hl, hm, by simpa using hz, hcell, hwz⟩⟩
  have tabs := fnCleans_tabs (W := W) hL
  clear hA0 hval0
  refine (fnCleans_walk a0 len0 cap0 z0 W w0 tabs).mono fun e W' ⟨he, bel⟩ => ?_
  subst he
  exact ⟨_, rfl, _, _, _, [], _, [], hW', trodAll_mk1 (shut_bool Tryz.underlying4 _), (trodAll_cons_mk (Below.trod Tryz.laidOut (by kernel_rfl) (of_decide_eq_true (by kernel_rfl)) k0 bel lt0) trodAll_mk0), rfl, bel.frame _, fun h => by cases h⟩
theorem fnCleans_row : Rows.FnCleansSaid :=
  OpenClaim.holds_of_wide 5 Tryz.f5 rfl rfl rfl rfl rfl rfl rfl ⟨rfl, rfl, rfl, rfl, rfl⟩ rfl rfl rfl rfl rfl (by kernel_rfl) Tryz.func5 (by kernel_rfl)
    (of_decide_eq_true (by kernel_rfl)) (by unfold Func.isWrapper; first | (rw [if_pos (by decide +kernel)]; kernel_rfl) | (rw [if_neg (by decide +kernel)]; exact ⟨rfl, rfl⟩))
    (fun os started H enc _ => fnCleans_lifted os started H enc)
/-- THE STATEMENT: the card. -/
theorem fnCleans_holds : Rows.FnCleansCardSaid :=
  Claim7.holds_tied_plain_at .later [] [.data, .data, .data, .data, .pinned, .pinned] true (true, "7ffb68e5162f9d295a049a5d346cb18a3bf8ac4188488a03a7258529e0095d6c") false
    fnCleans_row (fun _ h => by cases h) (by kernel_rfl) (fun _ h => by cases h) fnCleans_row_tie rfl ⟨rfl, rfl⟩ (by kernel_rfl) rfl
    (fun f fn hf hfn => by
      obtain rfl : f = 5 := Option.some.inj ((show Tryz.prog.funcNamed "loop.example/g00651/laws.FnCleans" = some 5 by kernel_rfl).symm.trans hf) |>.symm
      obtain rfl : fn = Tryz.f5 := (Option.some.inj (Tryz.func5.symm.trans hfn)).symm
      exact ⟨by kernel_rfl, fun j t ht => by
        rw [Tryz.params5] at ht
        rcases j with _ | j
        · have h3 : t = 22 := by simpa using ht.symm
          subst h3
          exact (show Tryz.prog.wantsStandIn 22 = false by kernel_rfl)
        · simp at ht⟩)
    (by kernel_rfl)
#print axioms fnCleans_holds
end Go.Proofs.YtmhohponikolfaaGreatDoor
