/-
  FnDates: a time comes back from each form in which it is written. The tables of names and of the months' lengths are laid by the program's own text (the card).
-/
import Derived.Test.YtohaghlhdkfkbaaDoorWL2
import Derived.Test.YtohaghlhdkfkbaaDoorWI2
import Derived.Test.YtohaghlhdkfkbaaDoorWI3
import Derived.Test.YtohaghlhdkfkbaaDoorOpenT
import Derived.Test.YtohaghlhdkfkbaaDoorCards
import Derived.Test.YtohaghlhdkfkbaaDoorTie
namespace Go.Proofs.YtohaghlhdkfkbaaDoor
set_option linter.unusedVariables false
set_option linter.unusedSimpArgs false
open Go.ChangeShapes Go.WideShapes Go.ChangeAt Go.RowKit
open Go.ChangeMaps (open_string shut_string)
theorem Res.hit {P : Int → Prop} (hP : ∀ t t', P t → P t' → t = t') {t0 t : Int} {b : Bool} (h : Res P t b) (h0 : P t0) : t = t0 ∧ b = true := by
  rcases h with ⟨rfl, h⟩ | ⟨rfl, rfl, h⟩
  · exact ⟨hP _ _ h h0, rfl⟩
  · exact absurd h0 (h _)
theorem read_http (a : ByteArray) (t : Int) (hm : a.size ≤ maxLen) (h : IsH a t) (w : World) (hT : Tabs w) :
    Calls Tryd.prog 18 #[.string a] w fun e w' => e = .returned (.tuple #[.int .i64 t, .bool true]) ∧ Below w.heap.size w w' := by
  obtain ⟨t', b, r, hc⟩ := ReadHttpDate_ex a hm
  obtain ⟨rfl, rfl⟩ := r.hit (IsH.unique a) h
  exact hc w hT
theorem read_warc (a : ByteArray) (t : Int) (h : IsF 9999 warcF a t) (w : World) (hM : MonTab w) :
    Calls Tryd.prog 20 #[.string a] w fun e w' => e = .returned (.tuple #[.int .i64 t, .bool true]) ∧ Below w.heap.size w w' := by
  obtain ⟨t', b, r, hc⟩ := ReadWarcDate_ex a
  obtain ⟨rfl, rfl⟩ := r.hit (warc_reads a).unique h
  exact hc w hM
theorem read_stamp (a : ByteArray) (t : Int) (h : IsF 9999 stampF a t) (w : World) (hM : MonTab w) :
    Calls Tryd.prog 21 #[.string a] w fun e w' => e = .returned (.tuple #[.int .i64 t, .bool true]) ∧ Below w.heap.size w w' := by
  obtain ⟨t', b, r, hc⟩ := ReadStamp_ex a
  obtain ⟨rfl, rfl⟩ := r.hit (stamp_reads a).unique h
  exact hc w hM
theorem late_secs {y m d h i s : Nat} (hv : vld y m d h i s) (hy : 2069 < y) : 3155760000 ≤ secs y m d h i s := by
  have h1 := (dnum_lt hv).1
  have h2 := dby_mono (a := 2070) (b := y) (by omega)
  have h3 : dby 2070 = 36525 := by decide
  obtain ⟨_, _, _, _, _, _, a, b, c, e, f, g⟩ := hv
  unfold secs
  omega
theorem not_empty {x : ByteArray} (h : 0 < x.size) : x.toList.isEmpty = false := by
  rw [ByteArray.toList_eq, List.isEmpty_eq_false_iff]
  intro hh
  have := len_data x
  rw [hh] at this
  simp at this
  omega
theorem fnDates_tabs {W : World} (h : laidMet Tryd.prog Rows.fnDatesRow.laid W) : Tabs W := tabs_of_laid (.head _) (.tail _ (.head _)) (.tail _ (.tail _ (.head _))) h
set_option maxHeartbeats 4000000 in
theorem fnDates_walk (a0 : Option Addr) (len0 cap0 : Nat) (z0 : List Int) (w : World) (w0 : IsRow .u8 w a0 len0 cap0 z0) (hT : Tabs w) :
    Calls Tryd.prog 4 #[.slice a0 len0 cap0] w fun e w' => e = .returned (.bool true) ∧ Below w.heap.size w w' := by
  have hc := code_of w0
  clear w0
  go_enter Tryd.func4, Tryd.ntmps4
  go_wp2_with fail
  refine (DrawHttpDate_any a0 len0 cap0 _ hc).mono ?_
  rintro e w1 ⟨⟨t, hn1, hn2, rfl⟩, hb1⟩
  have hT1 := hT.below hb1
  clear hc hT
  by_cases ht : 0 ≤ t ∧ t ≤ 253402300799
  · obtain ⟨y, m, d, h, i, s, hv, et⟩ := civ_ofN t ht.1 ht.2
    have hvb := vbd hv
    have hw := wdN_lt t
    have HHd := hideB2 (fun w hT => HttpDate_yes t y m d h i s w hT hv et)
    have HLn := hideB2 (fun w hT => LineDate_yes t y m d h i s w hT hv et)
    have HWc := hideB2 (fun w hT => WarcDate_yes t y m d h i s w hT hv et)
    have HSt := hideB2 (fun w hT => Stamp_yes t y m d h i s w hT hv et)
    have hz1 := http_size (wdN t) y m d h i s hw hvb.2.2.1 hvb.2.2.2.1
    have hz2 := line_size (wdN t) y m d h i s hw hvb.2.2.1 hvb.2.2.2.1
    have RHd := hideB2 (read_http (httpB (wdN t) y m d h i s) t (by rw [hz1]; unfold maxLen; omega) (.inl ⟨y, m, d, h, i, s, hv, by omega, et, by rw [et]; rfl⟩))
    have RLn := hideB2 (read_http (lineB (wdN t) y m d h i s) t (by rw [hz2]; unfold maxLen; omega) (.inr (.inr ⟨y, m, d, h, i, s, hv, by omega, et, by rw [et]; rfl⟩)))
    have RWc := hideB2 (read_warc (warcB y m d h i s) t ⟨y, m, d, h, i, s, hv, by omega, et, rfl⟩)
    have RSt := hideB2 (read_stamp (stampB y m d h i s) t ⟨y, m, d, h, i, s, hv, by omega, et, rfl⟩)
    have key : ∃ (x : ByteArray), (∀ w, Tabs w → Calls Tryd.prog 22 #[.int .i64 t] w fun e w' => e = .returned (.string x) ∧ Below w.heap.size w w') ∧
        ((x.toList.isEmpty = false ∧ ∀ w, Tabs w → Calls Tryd.prog 18 #[.string x] w fun e w' => e = .returned (.tuple #[.int .i64 t, .bool true]) ∧ Below w.heap.size w w') ∨ (x = ⟨#[]⟩ ∧ 3155760000 ≤ t)) := by
      by_cases hy : y ≤ 2069
      · have hz3 := long_size (wdN t) y m d h i s hvb.2.2.1 hvb.2.2.2.1
        have hz4 := dayB_bd (wdN t)
        exact ⟨_, fun w hT => LongDate_yes t y m d h i s w hT hv et hy, .inl ⟨not_empty (by omega), fun w hT => read_http _ t (by rw [hz3]; unfold maxLen; omega) (.inr (.inl ⟨y, m, d, h, i, s, hv, hy, et, by rw [et]; rfl⟩)) w hT⟩⟩
      · exact ⟨_, fun w hT => LongDate_late t y m d h i s w hT.mon hv et (by omega), .inr ⟨rfl, by rw [et]; exact late_secs hv (by omega)⟩⟩
    obtain ⟨x, hlong, hcase⟩ := key
    have HLg := hideB2 hlong
    obtain ⟨ht0, ht1⟩ := ht
    have q1 : ¬ t < 0 := by omega
    have q2 : ¬ (253402300799 : Int) < t := by omega
    clear hlong hv et hvb hw hz1 hz2
    generalize httpB (wdN t) y m d h i s = x1 at *
    generalize lineB (wdN t) y m d h i s = x2 at *
    generalize warcB y m d h i s = x3 at *
    generalize stampB y m d h i s = x4 at *
    go_wp2_with fail
    refine (HHd.out _ hT1).mono ?_
    rintro e w2 ⟨rfl, hb2⟩
    have hT2 := hT1.below hb2
    have g2 := below_then hb1 hb2
    clear hb1 hb2 hT1 HHd
    go_wp2_with fail
    refine (RHd.out _ hT2).mono ?_
    rintro e w3 ⟨rfl, hb3⟩
    have hT3 := hT2.below hb3
    have g3 := below_then g2 hb3
    clear g2 hb3 hT2 RHd
    go_wp2_with fail
    refine (HLn.out _ hT3).mono ?_
    rintro e w4 ⟨rfl, hb4⟩
    have hT4 := hT3.below hb4
    have g4 := below_then g3 hb4
    clear g3 hb4 hT3 HLn
    go_wp2_with fail
    refine (RLn.out _ hT4).mono ?_
    rintro e w5 ⟨rfl, hb5⟩
    have hT5 := hT4.below hb5
    have g5 := below_then g4 hb5
    clear g4 hb5 hT4 RLn
    go_wp2_with fail
    refine (HWc.out _ hT5.mon).mono ?_
    rintro e w6 ⟨rfl, hb6⟩
    have hT6 := hT5.below hb6
    have g6 := below_then g5 hb6
    clear g5 hb6 hT5 HWc
    go_wp2_with fail
    refine (RWc.out _ hT6.mon).mono ?_
    rintro e w7 ⟨rfl, hb7⟩
    have hT7 := hT6.below hb7
    have g7 := below_then g6 hb7
    clear g6 hb7 hT6 RWc
    go_wp2_with fail
    refine (HSt.out _ hT7.mon).mono ?_
    rintro e w8 ⟨rfl, hb8⟩
    have hT8 := hT7.below hb8
    have g8 := below_then g7 hb8
    clear g7 hb8 hT7 HSt
    go_wp2_with fail
    refine (RSt.out _ hT8.mon).mono ?_
    rintro e w9 ⟨rfl, hb9⟩
    have hT9 := hT8.below hb9
    have g9 := below_then g8 hb9
    clear g8 hb9 hT8 RSt
    go_wp2_with fail
    refine (HLg.out _ hT9).mono ?_
    rintro e w10 ⟨rfl, hb10⟩
    have hT10 := hT9.below hb10
    have g10 := below_then g9 hb10
    clear g9 hb10 hT9 HLg
    rcases hcase with ⟨hne, hread⟩ | ⟨rfl, hlate⟩
    · have HRd := hideB2 hread
      clear hread
      go_wp2_with fail
      refine (HRd.out _ hT10).mono ?_
      rintro e w11 ⟨rfl, hb11⟩
      have hT11 := hT10.below hb11
      have g11 := below_then g10 hb11
      clear g10 hb11 hT10 HRd
      go_wp2_with fail
      refine (days_any _ hT11).mono ?_
      rintro e w12 ⟨rfl, hb12⟩
      have hb := below_then g11 hb12
      go_wp2
      go_ret
      exact ⟨rfl, hb⟩
    · go_wp2_with fail
      refine (days_any _ hT10).mono ?_
      rintro e w12 ⟨rfl, hb12⟩
      have hb := below_then g10 hb12
      go_wp2
      go_ret
      exact ⟨rfl, hb⟩
  · have hcs : t < 0 ∨ (0 ≤ t ∧ 253402300799 < t) := by omega
    have H1 := hideB2 (fun w => HttpDate_no t w ht)
    have H2 := hideB2 (fun w => WarcDate_no t w ht)
    have H3 := hideB2 (fun w => Stamp_no t w ht)
    clear ht
    rcases hcs with h | ⟨h, h'⟩
    all_goals
      go_wp2_with fail
      refine (H1.out _).mono ?_
      rintro e w2 ⟨rfl, hb2⟩
      have hT2 := hT1.below hb2
      have g2 := below_then hb1 hb2
      clear hb1 hb2 hT1 H1
      go_wp2_with fail
      refine (H2.out _).mono ?_
      rintro e w3 ⟨rfl, hb3⟩
      have hT3 := hT2.below hb3
      have g3 := below_then g2 hb3
      clear g2 hb3 hT2 H2
      go_wp2_with fail
      refine (H3.out _).mono ?_
      rintro e w4 ⟨rfl, hb4⟩
      have hT4 := hT3.below hb4
      have g4 := below_then g3 hb4
      clear g3 hb4 hT3 H3
      go_wp2_with fail
      refine (days_any _ hT4).mono ?_
      rintro e w5 ⟨rfl, hb5⟩
      have hb := below_then g4 hb5
      go_wp2
      go_ret
      exact ⟨rfl, hb⟩

/-- A world that meets the condition: the settled one, the listed tables laid. -/
theorem fnDates_laid_met (os : Os) (args : Array Value) : laidMet Tryd.prog Rows.fnDatesRow.laid (({ (World.holding Tryd.prog os ⟨#[], #[], []⟩) with heap := ((((World.holding Tryd.prog os ⟨#[], #[], []⟩).heap.modify 1 (laidRow #[.string ⟨#[77, 111, 110, 100, 97, 121]⟩, .string ⟨#[84, 117, 101, 115, 100, 97, 121]⟩, .string ⟨#[87, 101, 100, 110, 101, 115, 100, 97, 121]⟩, .string ⟨#[84, 104, 117, 114, 115, 100, 97, 121]⟩, .string ⟨#[70, 114, 105, 100, 97, 121]⟩, .string ⟨#[83, 97, 116, 117, 114, 100, 97, 121]⟩, .string ⟨#[83, 117, 110, 100, 97, 121]⟩])).modify 0 (laidRow #[.string ⟨#[]⟩, .string ⟨#[74, 97, 110]⟩, .string ⟨#[70, 101, 98]⟩, .string ⟨#[77, 97, 114]⟩, .string ⟨#[65, 112, 114]⟩, .string ⟨#[77, 97, 121]⟩, .string ⟨#[74, 117, 110]⟩, .string ⟨#[74, 117, 108]⟩, .string ⟨#[65, 117, 103]⟩, .string ⟨#[83, 101, 112]⟩, .string ⟨#[79, 99, 116]⟩, .string ⟨#[78, 111, 118]⟩, .string ⟨#[68, 101, 99]⟩])).modify 2 (laidRow #[.int .i64 0, .int .i64 31, .int .i64 28, .int .i64 31, .int .i64 30, .int .i64 31, .int .i64 30, .int .i64 31, .int .i64 31, .int .i64 30, .int .i64 31, .int .i64 30, .int .i64 31])) } : World).forCall (fun _ _ => 0) ⟨#[], args, []⟩).memory :=
  laidMet_of_run' 8 (by kernel_rfl) (by kernel_rfl)
set_option maxRecDepth 100000 in
theorem fnDates_lifted (os : Os) (started : os.Started) (H : Type) (enc : TypeId × Value → H) :
    ReturnsInHanded {} Tryd.checked os 4 .any (fun w args => (Rows.fnDatesSpec.pre enc Tryd.prog Tryd.f4 [] false w args ∧ laidMetH Tryd.prog Rows.fnDatesRow.laid w) ∧ sizedMet enc Tryd.prog Tryd.f4 (OpenSpec.ofChange Rows.fnDatesSpec) false w args)
      (Rows.fnDatesSpec.post enc Tryd.prog Tryd.f4 false true false false) := by
  refine returnsInHanded_of_change_and (C := Tryd.checked) (X := fun w _ => laidMetH Tryd.prog Rows.fnDatesRow.laid w) (fun _ _ _ hh h => h.of_heap hh) Tryd.own started (by kernel_rfl) Tryd.func4
    (ChangeSpec.witness_at (enc := enc) (C := Tryd.checked) (os := os) (X := fun w _ => laidMetH Tryd.prog Rows.fnDatesRow.laid w) false ({ (World.holding Tryd.prog os ⟨#[], #[], []⟩) with heap := ((((World.holding Tryd.prog os ⟨#[], #[], []⟩).heap.modify 1 (laidRow #[.string ⟨#[77, 111, 110, 100, 97, 121]⟩, .string ⟨#[84, 117, 101, 115, 100, 97, 121]⟩, .string ⟨#[87, 101, 100, 110, 101, 115, 100, 97, 121]⟩, .string ⟨#[84, 104, 117, 114, 115, 100, 97, 121]⟩, .string ⟨#[70, 114, 105, 100, 97, 121]⟩, .string ⟨#[83, 97, 116, 117, 114, 100, 97, 121]⟩, .string ⟨#[83, 117, 110, 100, 97, 121]⟩])).modify 0 (laidRow #[.string ⟨#[]⟩, .string ⟨#[74, 97, 110]⟩, .string ⟨#[70, 101, 98]⟩, .string ⟨#[77, 97, 114]⟩, .string ⟨#[65, 112, 114]⟩, .string ⟨#[77, 97, 121]⟩, .string ⟨#[74, 117, 110]⟩, .string ⟨#[74, 117, 108]⟩, .string ⟨#[65, 117, 103]⟩, .string ⟨#[83, 101, 112]⟩, .string ⟨#[79, 99, 116]⟩, .string ⟨#[78, 111, 118]⟩, .string ⟨#[68, 101, 99]⟩])).modify 2 (laidRow #[.int .i64 0, .int .i64 31, .int .i64 28, .int .i64 31, .int .i64 30, .int .i64 31, .int .i64 30, .int .i64 31, .int .i64 31, .int .i64 30, .int .i64 31, .int .i64 30, .int .i64 31])) } : World) #[.slice none 0 0] 8 rfl (by kernel_rfl) (by kernel_rfl) (by kernel_rfl) (by kernel_rfl) (by kernel_rfl) (fnDates_laid_met os _)) ?_
  intro W base args ds gs before hval0 hW _ _ hL _
  have hval : ∀ (j : Nat) t v, Tryd.f4.params[j]? = some t → args[j]? = some v → Value.okWide Tryd.prog W .any base t v := hval0
  have hW' := hW
  obtain ⟨p, q, hA0, hV, rfl, hfz, hnd⟩ := hW
  have hA : DataW.TrodAll enc Tryd.prog W 0 (fun _ => true) true Tryd.f4.params.toList args.toList ds p := hA0
  rw [Tryd.params4] at hA hval
  obtain ⟨v0, vs0, d0, ds0, p0, q0, hargs, rfl, rfl, h0, r0⟩ := trodAll_cons hA
  obtain ⟨rfl, rfl, rfl⟩ := trodAll_nil r0
  obtain rfl : args = #[v0] := by cases args; simp_all
  obtain ⟨g1, g2, g3, rfl⟩ := trodVars_three' hV
  obtain ⟨a0, len0, cap0, rfl⟩ := okWide_slice Tryd.underlying22 (hval 0 22 v0 rfl rfl)
  have k0 := h0
  have lt0 : ∀ x ∈ p0, x.block < W.heap.size := by obtain ⟨m, hm⟩ := k0; exact DataW.trod_lt m _ _ _ hm
  obtain ⟨z0, w0⟩ : ∃ zs, IsRow .u8 W a0 len0 cap0 zs := by
    obtain ⟨fuel, hf⟩ := h0
    rcases open_ints Tryd.underlying22 Tryd.underlying5 (by kernel_rfl) hf with ⟨hcs, _⟩ | ⟨x, l, c, zs, hcs, _, hl, hm, hz, _, hcell, hwz⟩
    · simp [Value.cells] at hcs
      obtain ⟨rfl, rfl, rfl⟩ := hcs
      exact ⟨[], .inl ⟨rfl, rfl, rfl, rfl⟩⟩
    · simp [Value.cells] at hcs
      obtain ⟨rfl, rfl, rfl⟩ := hcs
      exact ⟨zs, .inr ⟨_, rfl, hl, hm, by simpa using hz, hcell, hwz⟩⟩
  have tabs := fnDates_tabs (W := W) hL
  clear hA0 hval0
  refine (fnDates_walk a0 len0 cap0 z0 W w0 tabs).mono fun e W' ⟨he, bel⟩ => ?_
  subst he
  exact ⟨_, rfl, _, _, _, [], _, _, hW', trodAll_mk1 (shut_bool Tryd.underlying4 _), (trodAll_cons_mk (Below.trod Tryd.laidOut (by kernel_rfl) (of_decide_eq_true (by kernel_rfl)) k0 bel lt0) trodAll_mk0), (Below.trodVars Tryd.laidOut bel (by kernel_rfl) hV), bel.frame _, fun h => by cases h⟩
theorem fnDates_row : Rows.FnDatesSaid :=
  OpenClaim.holds_of_wide 4 Tryd.f4 rfl rfl rfl rfl rfl rfl rfl ⟨rfl, rfl, rfl, rfl, rfl⟩ rfl rfl rfl rfl rfl (by kernel_rfl) Tryd.func4 (by kernel_rfl)
    (of_decide_eq_true (by kernel_rfl)) (by unfold Func.isWrapper; first | (rw [if_pos (by decide +kernel)]; kernel_rfl) | (rw [if_neg (by decide +kernel)]; exact ⟨rfl, rfl⟩))
    (fun os started H enc _ => fnDates_lifted os started H enc)
/-- THE STATEMENT: the card. -/
theorem fnDates_holds : Rows.FnDatesCardSaid :=
  Claim7.holds_tied_plain_at .later [] [.data, .data, .data] true (true, "e036e2253d9167f81d39f68d9568a022764cbb1abf99261de18cef6116fbe40c") false
    fnDates_row (fun _ h => by cases h) (by kernel_rfl) (fun _ h => by cases h) fnDates_row_tie rfl ⟨rfl, rfl⟩ (by kernel_rfl) rfl
    (fun f fn hf hfn => by
      obtain rfl : f = 4 := Option.some.inj ((show Tryd.prog.funcNamed "loop.example/g00651/laws.FnDates" = some 4 by kernel_rfl).symm.trans hf) |>.symm
      obtain rfl : fn = Tryd.f4 := (Option.some.inj (Tryd.func4.symm.trans hfn)).symm
      exact ⟨by kernel_rfl, fun j t ht => by
        rw [Tryd.params4] at ht
        have h3 : t = 22 := by
          rcases j with _ | j
          · simpa using ht.symm
          · simp at ht
        subst h3
        exact (show Tryd.prog.wantsStandIn 22 = false by kernel_rfl)⟩)
    (by kernel_rfl)
#print axioms fnDates_holds
end Go.Proofs.YtohaghlhdkfkbaaDoor
