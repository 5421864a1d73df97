/-
  FnWiths: what is put in is there alone by its name; the others stay, in their order. What the table of the seven names holds is laid by the program's own text (the card).
-/
import Derived.Test.YtmhohponikolfaaDoorRows
import Derived.Test.YtmhohponikolfaaDoorTie
import Derived.Test.YtmhohponikolfaaDoorCards
import Derived.Test.YtmhohponikolfaaDoorJ3
import Derived.Test.YtmhohponikolfaaDoorJ4
namespace Go.Proofs.YtmhohponikolfaaDoor
set_option linter.unusedVariables false
set_option linter.unusedSimpArgs false
open Go.ChangeShapes Go.WideShapes Go.ChangeAt Go.RowKit
open Go.ChangeMaps (open_string shut_string)
theorem fnWiths_tabs {W : World} (h : laidMet Tryd.prog Rows.fnWithsRow.laid W) : Hops W := hops_of_laid (.head _) h
set_option maxRecDepth 100000 in
set_option maxHeartbeats 8000000 in
theorem fnWiths_walk (a : Option Addr) (len cap : Nat) (zs : List Int) (w : World) (hz : IsRow .u8 w a len cap zs) (hT : Hops w) :
    Calls Tryd.prog 3 #[.slice a len cap] w fun e w' => e = .returned (.bool true) ∧ Below w.heap.size w w' := by
  have hc := code_of hz
  go_enter Tryd.func3, Tryd.ntmps3
  go_wp2_with fail
  refine (DrawWith_any a len cap _ hc).mono ?_
  rintro e w1 ⟨⟨v, l, d, s, rfl, hl, hsh, hd, hs, hv1⟩, hb1⟩
  have ba1 := below_a1 w1 (.cells #[.string d, .string s] 25)
  have F1 := Blk.new w1 #[.string d, .string s] 25
  have hv := hv1.later ba1
  have hbw1 := below_then hb1 ba1
  have htot := short_tot hsh (by omega)
  have htX := fun h => short_tot (l := withL l (d, s)) (withL_short hsh ⟨hd, hs⟩) h
  have hd' : d.size ≤ maxLen := by unfold maxLen; omega
  have hs' : s.size ≤ maxLen := by unfold maxLen; omega
  have hl' : l.length ≤ 1048576 := by omega
  have HFX := hideB2 (withL_cases l (d, s))
  have HTX := hideB2 htX
  have HW := hideB2 (fun v W (h : SlF W v l) => With_any v l d s W h hl' htot hd' hs')
  have HSW := hideB2 (fun v W (h : SlF W v l) => sWith_any v l d s W h hl' htot hd' hs')
  have HSO := hideB2 (fun v W (h : SlF W v l) => sWithout_any v l d W h hl' htot hd')
  have HT := hideB2 hT
  generalize withL l (d, s) = X at *
  obtain ⟨av, cv, rfl⟩ := hv.form
  clear hc hz hb1 ba1 hv1 hT hsh htX
  go_wp2_with fail
  generalize w1.alloc (.cells #[.string d, .string s] 25) = W1 at *
  generalize w1.heap.size = b1 at *
  obtain ⟨p0, p1⟩ := F1.c2
  refine (HW.out _ _ hv).mono ?_
  rintro e w2 ⟨v2, rfl, hbuf2⟩
  obtain ⟨hx2, _, hb2⟩ := hbuf2.ans
  have F2 := F1.later hb2
  have hv2 := hv.later hb2
  have hbw2 := below_then hbw1 hb2
  clear p0 p1 F1 hv hbw1 hbuf2 hb2 HW
  obtain ⟨p0, p1⟩ := F2.c2
  obtain ⟨a2, c2, rfl⟩ := hx2.form
  go_wp2_with fail
  refine (HSW.out _ _ hv2).mono ?_
  rintro e w3 ⟨v3, rfl, hbuf3⟩
  have hb3 := hbuf3.below
  obtain ⟨a3, c3, rfl⟩ := hbuf3.form
  have F3 := F2.later hb3
  have HV := hideB2 (hv2.later hb3)
  have HX := hideB2 (hx2.later hb3)
  have HBW := hideB2 (below_then hbw2 hb3)
  clear p0 p1 F2 hv2 hbw2 hbuf3 hb3 hx2 HSW
  obtain ⟨p0, p1⟩ := F3.c2
  rcases HFX.out with rfl | ⟨hXe, hq, hqX, hXl, hvX, hwX⟩
  · have hh3 := HT.out.later HBW.out
    clear HFX HTX HX HSO
    go_wp2_with (go_at_call 7; refine (heads_any _ hh3).mono ?_; rintro e w4 ⟨rfl, hb4⟩)
    go_ret
    exact ⟨rfl, below_then HBW.out hb4⟩
  · have hpos : 0 < X.length := by rw [hXe]; simp
    have hXl' : X.length ≤ 1048576 := by omega
    have htX := HTX.out (by omega)
    have HVA := hideB2 (fun v W (h : SlF W v X) => Values_any v X d W h hXl' htX hd')
    have HGE := hideB2 (fun v W (h : SlF W v X) => Get_any v X d W h hXl' htX hd')
    have HIO := hideB2 (fun v W (h : SlF W v X) => Without_any v X d W h hXl' htX hd')
    have HFO := hideB2 (fun v W (h : SlF W v X) => FieldsOk_any v X W h hXl' htX)
    have eG : getB X d = s ∧ getO X d = true := by unfold getB getO; rw [hvX]; exact ⟨rfl, rfl⟩
    rw [hvX] at HVA
    rw [eG.1, eG.2] at HGE
    rw [hwX] at HIO
    rw [hqX] at HFO
    have HYL := hideB2 (withoutL_le l d)
    generalize withoutL l d = Y at *
    have hne0 : ((X.length : Int) == 0) = false := by rw [beq_eq_false_iff_ne]; omega
    clear HFX HTX hXe hq hqX hvX hwX eG
    go_wp2_with fail
    refine (HVA.out _ _ HX.out).mono ?_
    rintro e w4 ⟨v4, rfl, hbuf4⟩
    obtain ⟨ht4, _, hb4⟩ := hbuf4.ans
    obtain ⟨a4, c4, rfl⟩ := ht4.form
    have F4 := F3.later hb4
    have hx4 := HX.out.later hb4
    clear p0 p1 hne0 HVA hbuf4
    obtain ⟨p0, p1⟩ := F4.c2
    go_wp2_with fail
    refine (HGE.out _ _ hx4).mono ?_
    rintro e w5 ⟨rfl, hb5⟩
    have hb35 := below_then hb4 hb5
    have HF := hideB2 (F4.later hb5)
    have HX5 := hideB2 (hx4.later hb5)
    have HV5 := hideB2 (HV.out.later hb35)
    have HT5 := hideB2 (ht4.later hb5)
    have HB5 := hideB2 (below_then HBW.out hb35)
    clear p0 p1 F3 F4 HGE HX HV HBW hx4 ht4 hb4 hb5 hb35
    obtain ⟨p0, p1⟩ := HF.out.c2
    have hss : (s.toList == s.toList) = true := by simp
    have HBZ : Hid (Below w5.heap.size w5 (w5.alloc (.cells #[.string s] 9)).drew) := ((Below.refl _ w5).alloc (Nat.le_refl _) _).drew
    have HST : Hid (Calls Tryd.prog 10 #[.slice a4 1 c4, .slice (some ⟨w5.heap.size, 0, none⟩) 1 1] (w5.alloc (.cells #[.string s] 9)).drew fun e w' => e = .returned (.bool true) ∧ Below (w5.alloc (.cells #[.string s] 9)).drew.heap.size (w5.alloc (.cells #[.string s] 9)).drew w') :=
      sameTexts_same _ [s] _ _ c4 1 (HT5.out.later HBZ.out).rows (Or.inr ⟨_, rfl, fun j hj => by
        rcases j with _ | j
        · exact (Blk.new w5 #[.string s] 9).cell 0
        · simp at hj⟩) (by simp)
    go_wp2
    go_region_with (first
      | (go_at_call 10; refine HST.out.mono ?_; rintro e w7 ⟨rfl, hb7⟩; have hb57 := below_then HBZ.out hb7; obtain ⟨y0, y1⟩ := (HF.out.later hb57).c2)
      | (go_at_call 12; refine (HIO.out _ _ (HX5.out.later hb57)).mono ?_; rintro e w8 ⟨v8, rfl, hbuf8⟩; obtain ⟨hs8, _, hb8⟩ := hbuf8.ans; have hb58 := below_then hb57 hb8; obtain ⟨z0, z1⟩ := (HF.out.later hb58).c2)
      | (go_at_call 13; refine (HSO.out _ _ (HV5.out.later hb58)).mono ?_; rintro e w9 ⟨v9, rfl, hbuf9⟩; obtain ⟨hs9, _, hb9⟩ := hbuf9.ans; have hb59 := below_then hb58 hb9)
      | (go_at_call 11; refine (sameFields_same _ _ Y _ (hs8.later hb9) hs9 (by have := HYL.out; omega)).mono ?_; rintro e w10 ⟨rfl, hb10⟩; have hb510 := below_then hb59 hb10)
      | (go_at_call 14; refine (HFO.out _ _ (HX5.out.later hb510)).mono ?_; rintro e w11 ⟨rfl, hb11⟩; have hb511 := below_then hb510 hb11)
      | (go_at_call 7; refine (heads_any _ (HT.out.later (below_then HB5.out hb511))).mono ?_; rintro e w12 ⟨rfl, hb12⟩; have hb512 := below_then hb511 hb12))
    all_goals
      go_wp2
      go_ret
      exact ⟨rfl, below_then HB5.out hb512⟩

/-- A world that meets the condition: the settled one, the listed tables laid. -/
theorem fnWiths_laid_met (os : Os) (args : Array Value) : laidMet Tryd.prog Rows.fnWithsRow.laid (({ (World.holding Tryd.prog os ⟨#[], #[], []⟩) with heap := ((World.holding Tryd.prog os ⟨#[], #[], []⟩).heap.modify 0 (laidRow #[.string ⟨#[99, 111, 110, 110, 101, 99, 116, 105, 111, 110]⟩, .string ⟨#[107, 101, 101, 112, 45, 97, 108, 105, 118, 101]⟩, .string ⟨#[112, 114, 111, 120, 121, 45, 99, 111, 110, 110, 101, 99, 116, 105, 111, 110]⟩, .string ⟨#[116, 101]⟩, .string ⟨#[116, 114, 97, 105, 108, 101, 114]⟩, .string ⟨#[116, 114, 97, 110, 115, 102, 101, 114, 45, 101, 110, 99, 111, 100, 105, 110, 103]⟩, .string ⟨#[117, 112, 103, 114, 97, 100, 101]⟩])) } : World).forCall (fun _ _ => 0) ⟨#[], args, []⟩).memory :=
  laidMet_of_run' 8 (by kernel_rfl) (by kernel_rfl)
set_option maxRecDepth 100000 in
theorem fnWiths_lifted (os : Os) (started : os.Started) (H : Type) (enc : TypeId × Value → H) :
    ReturnsInHanded {} Tryd.checked os 3 .any (fun w args => (Rows.fnWithsSpec.pre enc Tryd.prog Tryd.f3 [] false w args ∧ laidMetH Tryd.prog Rows.fnWithsRow.laid w) ∧ sizedMet enc Tryd.prog Tryd.f3 (OpenSpec.ofChange Rows.fnWithsSpec) false w args)
      (Rows.fnWithsSpec.post enc Tryd.prog Tryd.f3 false true false false) := by
  refine returnsInHanded_of_change_and (C := Tryd.checked) (X := fun w _ => laidMetH Tryd.prog Rows.fnWithsRow.laid w) (fun _ _ _ hh h => h.of_heap hh) Tryd.own started (by kernel_rfl) Tryd.func3
    (ChangeSpec.witness_at (enc := enc) (C := Tryd.checked) (os := os) (X := fun w _ => laidMetH Tryd.prog Rows.fnWithsRow.laid w) false ({ (World.holding Tryd.prog os ⟨#[], #[], []⟩) with heap := ((World.holding Tryd.prog os ⟨#[], #[], []⟩).heap.modify 0 (laidRow #[.string ⟨#[99, 111, 110, 110, 101, 99, 116, 105, 111, 110]⟩, .string ⟨#[107, 101, 101, 112, 45, 97, 108, 105, 118, 101]⟩, .string ⟨#[112, 114, 111, 120, 121, 45, 99, 111, 110, 110, 101, 99, 116, 105, 111, 110]⟩, .string ⟨#[116, 101]⟩, .string ⟨#[116, 114, 97, 105, 108, 101, 114]⟩, .string ⟨#[116, 114, 97, 110, 115, 102, 101, 114, 45, 101, 110, 99, 111, 100, 105, 110, 103]⟩, .string ⟨#[117, 112, 103, 114, 97, 100, 101]⟩])) } : World) #[.slice none 0 0] 8 rfl (by kernel_rfl) (by kernel_rfl) (by kernel_rfl) (by kernel_rfl) (by kernel_rfl) (fnWiths_laid_met os _)) ?_
  intro W base args ds gs before hval0 hW _ _ hL _
  have hval : ∀ (j : Nat) t v, Tryd.f3.params[j]? = some t → args[j]? = some v → Value.okWide Tryd.prog W .any base t v := hval0
  have hW' := hW
  obtain ⟨p, q, hA0, hV, rfl, hfz, hnd⟩ := hW
  have hA : DataW.TrodAll enc Tryd.prog W 0 (fun _ => true) true Tryd.f3.params.toList args.toList ds p := hA0
  rw [Tryd.params3] at hA hval
  obtain ⟨v0, vs0, d0, ds0, p0, q0, hargs, rfl, rfl, h0, r0⟩ := trodAll_cons hA
  obtain ⟨rfl, rfl, rfl⟩ := trodAll_nil r0
  obtain rfl : args = #[v0] := by cases args; simp_all
  obtain ⟨g1, rfl⟩ := trodVars_one' hV
  obtain ⟨a0, len0, cap0, rfl⟩ := okWide_slice Tryd.underlying22 (hval 0 22 v0 rfl rfl)
  have k0 := h0
  have lt0 : ∀ x ∈ p0, x.block < W.heap.size := by obtain ⟨m, hm⟩ := k0; exact DataW.trod_lt m _ _ _ hm
  obtain ⟨z0, w0⟩ : ∃ zs, IsRow .u8 W a0 len0 cap0 zs := by
    obtain ⟨fuel, hf⟩ := h0
    rcases open_ints Tryd.underlying22 Tryd.underlying5 (by kernel_rfl) hf with ⟨hcs, _⟩ | ⟨x, l, c, zs, hcs, _, hl, hm, hz, _, hcell, hwz⟩
    · simp [Value.cells] at hcs
      obtain ⟨rfl, rfl, rfl⟩ := hcs
      exact ⟨[], .inl ⟨rfl, rfl, rfl, rfl⟩⟩
    · simp [Value.cells] at hcs
      obtain ⟨rfl, rfl, rfl⟩ := hcs
      exact ⟨zs, .inr ⟨_, rfl, hl, hm, by simpa using hz, hcell, hwz⟩⟩
  have tabs := fnWiths_tabs (W := W) hL
  clear hA0 hval0
  refine (fnWiths_walk a0 len0 cap0 z0 W w0 tabs).mono fun e W' ⟨he, bel⟩ => ?_
  subst he
  exact ⟨_, rfl, _, _, _, [], _, _, hW', trodAll_mk1 (shut_bool Tryd.underlying4 _), (trodAll_cons_mk (Below.trod Tryd.laidOut (by kernel_rfl) (of_decide_eq_true (by kernel_rfl)) k0 bel lt0) trodAll_mk0), (Below.trodVars Tryd.laidOut bel (by kernel_rfl) hV), bel.frame _, fun h => by cases h⟩
theorem fnWiths_row : Rows.FnWithsSaid :=
  OpenClaim.holds_of_wide 3 Tryd.f3 rfl rfl rfl rfl rfl rfl rfl ⟨rfl, rfl, rfl, rfl, rfl⟩ rfl rfl rfl rfl rfl (by kernel_rfl) Tryd.func3 (by kernel_rfl)
    (of_decide_eq_true (by kernel_rfl)) (by unfold Func.isWrapper; first | (rw [if_pos (by decide +kernel)]; kernel_rfl) | (rw [if_neg (by decide +kernel)]; exact ⟨rfl, rfl⟩))
    (fun os started H enc _ => fnWiths_lifted os started H enc)
/-- THE STATEMENT: the card. -/
theorem fnWiths_holds : Rows.FnWithsCardSaid :=
  Claim7.holds_tied_plain_at .later [] [.data] true (true, "df31c99177e368c78b3fd46c32044464966b7afc3d2aac73cc282ba508932204") false
    fnWiths_row (fun _ h => by cases h) (by kernel_rfl) (fun _ h => by cases h) fnWiths_row_tie rfl ⟨rfl, rfl⟩ (by kernel_rfl) rfl
    (fun f fn hf hfn => by
      obtain rfl : f = 3 := Option.some.inj ((show Tryd.prog.funcNamed "loop.example/g00651/laws.FnWiths" = some 3 by kernel_rfl).symm.trans hf) |>.symm
      obtain rfl : fn = Tryd.f3 := (Option.some.inj (Tryd.func3.symm.trans hfn)).symm
      exact ⟨by kernel_rfl, fun j t ht => by
        rw [Tryd.params3] at ht
        rcases j with _ | j
        · have h3 : t = 22 := by simpa using ht.symm
          subst h3
          exact (show Tryd.prog.wantsStandIn 22 = false by kernel_rfl)
        · simp at ht⟩)
    (by kernel_rfl)
#print axioms fnWiths_holds
end Go.Proofs.YtmhohponikolfaaDoor
