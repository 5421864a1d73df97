/-
  FnStamps: what is later has a stamp, and a date of records, that comes behind in order. The tables of names and of the months' lengths are laid by the program's own text (the card).
-/
import Derived.Test.YtohaghlhdkfkbaaDoorWL2
import Derived.Test.YtohaghlhdkfkbaaDoorWMo
import Derived.Test.YtohaghlhdkfkbaaDoorMO
import Derived.Test.YtohaghlhdkfkbaaDoorOpenT
import Derived.Test.YtohaghlhdkfkbaaDoorCards
import Derived.Test.YtohaghlhdkfkbaaDoorTie
import Derived.SizedLaws
namespace Go.Proofs.YtohaghlhdkfkbaaDoor
set_option linter.unusedVariables false
set_option linter.unusedSimpArgs false
open Go.ChangeShapes Go.WideShapes Go.ChangeAt Go.RowKit
open Go.ChangeMaps (open_string shut_string)
theorem fnStamps_tabs {W : World} (h : laidMet Tryd.prog Rows.fnStampsRow.laid W) : Tabs W := tabs_of_laid (.head _) (.tail _ (.head _)) (.tail _ (.tail _ (.head _))) h
theorem more_any {a0 : Option Addr} {len0 cap0 : Nat} {z0 : List Int} {w : World} (w0 : IsRow .u8 w a0 len0 cap0 z0) (b0 : cap0 ≤ 140737488351232) (w1 : World) (hb : Below w.heap.size w w1) :
    Calls Tryd.prog 29 #[.slice a0 len0 cap0, .int .i64 3] w1 fun e w' => (∃ a len cap, e = .returned (.slice a len cap) ∧ Code w' a len) ∧ Below w1.heap.size w1 w' := by
  rcases w0 with ⟨rfl, rfl, rfl, rfl⟩ | ⟨x, rfl, hl, hm, hz, hcell, hwf⟩
  · exact more_nil w1
  · exact more_some x len0 cap0 z0 w1 hl b0 hz (fun i hi => by rw [hb.cell (p := x.add i) (World.block_lt_of_cell? _ _ (hcell i hi))]; exact hcell i hi) hwf
set_option maxHeartbeats 4000000 in
theorem fnStamps_walk (a0 : Option Addr) (len0 cap0 : Nat) (z0 : List Int) (w : World) (w0 : IsRow .u8 w a0 len0 cap0 z0) (b0 : cap0 ≤ 140737488351232) (hT : Tabs w) :
    Calls Tryd.prog 6 #[.slice a0 len0 cap0] w fun e w' => e = .returned (.bool true) ∧ Below w.heap.size w w' := by
  have hc := code_of w0
  have HM := hideB2 (fun w1 hb => more_any w0 b0 w1 hb)
  clear w0
  go_enter Tryd.func6, Tryd.ntmps6
  go_wp2_with fail
  refine (DrawStamp_any a0 len0 cap0 _ hc).mono ?_
  rintro e w1 ⟨⟨t, hn1, hn2, rfl⟩, hb1⟩
  have hT1 := hT.below hb1
  clear hc hT
  go_wp2_with fail
  refine (HM.out _ hb1).mono ?_
  rintro e w2 ⟨⟨a', len', cap', rfl, hcode⟩, hb2⟩
  have hT2 := hT1.below hb2
  have g2 := below_then hb1 hb2
  clear hb1 hb2 hT1 HM
  go_wp2_with fail
  refine (DrawStamp_any a' len' cap' _ hcode).mono ?_
  rintro e w3 ⟨⟨u, hu1, hu2, rfl⟩, hb3⟩
  have hT3 := hT2.below hb3
  have g3 := below_then g2 hb3
  clear g2 hb3 hT2 hcode
  by_cases hok : (0 ≤ t ∧ t ≤ 253402300799) ∧ (0 ≤ u ∧ u ≤ 253402300799)
  · obtain ⟨⟨p1, p2⟩, ⟨p3, p4⟩⟩ := hok
    obtain ⟨y, m, d, h, i, s, hv, et⟩ := civ_ofN t p1 p2
    obtain ⟨y', m', d', h', i', s', hv', eu⟩ := civ_ofN u p3 p4
    have q1 : ¬ t < 0 := by omega
    have q2 : ¬ (253402300799 : Int) < t := by omega
    have q3 : ¬ u < 0 := by omega
    have q4 : ¬ (253402300799 : Int) < u := by omega
    have S1 := hideB2 (fun w hM => Stamp_yes t y m d h i s w hM hv et)
    have S2 := hideB2 (fun w hM => Stamp_yes u y' m' d' h' i' s' w hM hv' eu)
    have W1 := hideB2 (fun w hM => WarcDate_yes t y m d h i s w hM hv et)
    have W2 := hideB2 (fun w hM => WarcDate_yes u y' m' d' h' i' s' w hM hv' eu)
    have l1 := stamp_less hv hv'
    have l2 := warc_less hv hv'
    rw [← et, ← eu] at l1 l2
    have hz : (((stampB y m d h i s).size : Int) == 14) = true := by rw [stamp_size]; rfl
    clear hv hv' et eu
    generalize stampB y m d h i s = x1 at *
    generalize stampB y' m' d' h' i' s' = x2 at *
    generalize warcB y m d h i s = x3 at *
    generalize warcB y' m' d' h' i' s' = x4 at *
    have hcase : (t < u ∧ Op.bytesLess x1.toList x2.toList = true ∧ Op.bytesLess x3.toList x4.toList = true) ∨ (¬ t < u ∧ Op.bytesLess x1.toList x2.toList = false ∧ Op.bytesLess x3.toList x4.toList = false) := by
      by_cases hlt : t < u
      · left; exact ⟨hlt, by rw [l1]; simp [hlt], by rw [l2]; simp [hlt]⟩
      · right; exact ⟨hlt, by rw [l1]; simp [hlt], by rw [l2]; simp [hlt]⟩
    clear l1 l2
    rcases hcase with ⟨hlt, k1, k2⟩ | ⟨hlt, k1, k2⟩
    all_goals
      go_wp2_with fail
      refine (S1.out _ hT3.mon).mono ?_
      rintro e w4 ⟨rfl, hb4⟩
      have hT4 := hT3.below hb4
      have g4 := below_then g3 hb4
      clear g3 hb4 hT3
      go_wp2_with fail
      refine (S2.out _ hT4.mon).mono ?_
      rintro e w5 ⟨rfl, hb5⟩
      have hT5 := hT4.below hb5
      have g5 := below_then g4 hb5
      clear g4 hb5 hT4 S2
      go_wp2_with fail
      refine (W1.out _ hT5.mon).mono ?_
      rintro e w6 ⟨rfl, hb6⟩
      have hT6 := hT5.below hb6
      have g6 := below_then g5 hb6
      clear g5 hb6 hT5 W1
      go_wp2_with fail
      refine (W2.out _ hT6.mon).mono ?_
      rintro e w7 ⟨rfl, hb7⟩
      have hT7 := hT6.below hb7
      have g7 := below_then g6 hb7
      clear g6 hb7 hT6 W2
      go_wp2_with fail
      refine (S1.out _ hT7.mon).mono ?_
      rintro e w8 ⟨rfl, hb8⟩
      have hT8 := hT7.below hb8
      have g8 := below_then g7 hb8
      clear g7 hb8 hT7 S1
      go_wp2_with fail
      refine (days_any _ hT8).mono ?_
      rintro e w9 ⟨rfl, hb9⟩
      have hb := below_then g8 hb9
      go_wp2
      go_ret
      first | exact ⟨rfl, hb⟩ | exact ⟨ret_bool (by simp [hlt]), hb⟩
  · have hcs : t < 0 ∨ (¬ t < 0 ∧ u < 0) ∨ (¬ t < 0 ∧ ¬ u < 0 ∧ 253402300799 < t) ∨ (¬ t < 0 ∧ ¬ u < 0 ∧ ¬ (253402300799 : Int) < t ∧ 253402300799 < u) := by omega
    clear hok
    rcases hcs with c1 | ⟨c1, c2⟩ | ⟨c1, c2, c3⟩ | ⟨c1, c2, c3, c4⟩
    all_goals
      go_wp2_with fail
      refine (days_any _ hT3).mono ?_
      rintro e w9 ⟨rfl, hb9⟩
      have hb := below_then g3 hb9
      go_wp2
      go_ret
      exact ⟨rfl, hb⟩

/-- A world that meets the condition: the settled one, the listed tables laid. -/
theorem fnStamps_laid_met (os : Os) (args : Array Value) : laidMet Tryd.prog Rows.fnStampsRow.laid (({ (World.holding Tryd.prog os ⟨#[], #[], []⟩) with heap := ((((World.holding Tryd.prog os ⟨#[], #[], []⟩).heap.modify 1 (laidRow #[.string ⟨#[77, 111, 110, 100, 97, 121]⟩, .string ⟨#[84, 117, 101, 115, 100, 97, 121]⟩, .string ⟨#[87, 101, 100, 110, 101, 115, 100, 97, 121]⟩, .string ⟨#[84, 104, 117, 114, 115, 100, 97, 121]⟩, .string ⟨#[70, 114, 105, 100, 97, 121]⟩, .string ⟨#[83, 97, 116, 117, 114, 100, 97, 121]⟩, .string ⟨#[83, 117, 110, 100, 97, 121]⟩])).modify 0 (laidRow #[.string ⟨#[]⟩, .string ⟨#[74, 97, 110]⟩, .string ⟨#[70, 101, 98]⟩, .string ⟨#[77, 97, 114]⟩, .string ⟨#[65, 112, 114]⟩, .string ⟨#[77, 97, 121]⟩, .string ⟨#[74, 117, 110]⟩, .string ⟨#[74, 117, 108]⟩, .string ⟨#[65, 117, 103]⟩, .string ⟨#[83, 101, 112]⟩, .string ⟨#[79, 99, 116]⟩, .string ⟨#[78, 111, 118]⟩, .string ⟨#[68, 101, 99]⟩])).modify 2 (laidRow #[.int .i64 0, .int .i64 31, .int .i64 28, .int .i64 31, .int .i64 30, .int .i64 31, .int .i64 30, .int .i64 31, .int .i64 31, .int .i64 30, .int .i64 31, .int .i64 30, .int .i64 31])) } : World).forCall (fun _ _ => 0) ⟨#[], args, []⟩).memory :=
  laidMet_of_run' 8 (by kernel_rfl) (by kernel_rfl)
set_option maxRecDepth 100000 in
theorem fnStamps_lifted (os : Os) (started : os.Started) (H : Type) (enc : TypeId × Value → H) :
    ReturnsInHanded {} Tryd.checked os 6 .any (fun w args => (Rows.fnStampsSpec.pre enc Tryd.prog Tryd.f6 [] false w args ∧ laidMetH Tryd.prog Rows.fnStampsRow.laid w) ∧ sizedMet enc Tryd.prog Tryd.f6 (OpenSpec.ofChange Rows.fnStampsSpec) false w args)
      (Rows.fnStampsSpec.post enc Tryd.prog Tryd.f6 false true false false) := by
  refine returnsInHanded_of_change_and (C := Tryd.checked) (X := fun w _ => laidMetH Tryd.prog Rows.fnStampsRow.laid w) (fun _ _ _ hh h => h.of_heap hh) Tryd.own started (by kernel_rfl) Tryd.func6
    (ChangeSpec.witness_at (enc := enc) (C := Tryd.checked) (os := os) (X := fun w _ => laidMetH Tryd.prog Rows.fnStampsRow.laid w) false ({ (World.holding Tryd.prog os ⟨#[], #[], []⟩) with heap := ((((World.holding Tryd.prog os ⟨#[], #[], []⟩).heap.modify 1 (laidRow #[.string ⟨#[77, 111, 110, 100, 97, 121]⟩, .string ⟨#[84, 117, 101, 115, 100, 97, 121]⟩, .string ⟨#[87, 101, 100, 110, 101, 115, 100, 97, 121]⟩, .string ⟨#[84, 104, 117, 114, 115, 100, 97, 121]⟩, .string ⟨#[70, 114, 105, 100, 97, 121]⟩, .string ⟨#[83, 97, 116, 117, 114, 100, 97, 121]⟩, .string ⟨#[83, 117, 110, 100, 97, 121]⟩])).modify 0 (laidRow #[.string ⟨#[]⟩, .string ⟨#[74, 97, 110]⟩, .string ⟨#[70, 101, 98]⟩, .string ⟨#[77, 97, 114]⟩, .string ⟨#[65, 112, 114]⟩, .string ⟨#[77, 97, 121]⟩, .string ⟨#[74, 117, 110]⟩, .string ⟨#[74, 117, 108]⟩, .string ⟨#[65, 117, 103]⟩, .string ⟨#[83, 101, 112]⟩, .string ⟨#[79, 99, 116]⟩, .string ⟨#[78, 111, 118]⟩, .string ⟨#[68, 101, 99]⟩])).modify 2 (laidRow #[.int .i64 0, .int .i64 31, .int .i64 28, .int .i64 31, .int .i64 30, .int .i64 31, .int .i64 30, .int .i64 31, .int .i64 31, .int .i64 30, .int .i64 31, .int .i64 30, .int .i64 31])) } : World) #[.slice none 0 0] 8 rfl (by kernel_rfl) (by kernel_rfl) (by kernel_rfl) (by kernel_rfl) (by kernel_rfl) (fnStamps_laid_met os _)) ?_
  intro W base args ds gs before hval0 hW _ hsz0 hL _
  have hsz : (DataW.weightsEach Tryd.prog (Tryd.f6.params.toList ++ Rows.fnStampsSpec.plain.varTypes Tryd.prog) (ds ++ gs)).all (· ≤ reachBytes) = true := hsz0
  have hval : ∀ (j : Nat) t v, Tryd.f6.params[j]? = some t → args[j]? = some v → Value.okWide Tryd.prog W .any base t v := hval0
  have hW' := hW
  obtain ⟨p, q, hA0, hV, rfl, hfz, hnd⟩ := hW
  have hA : DataW.TrodAll enc Tryd.prog W 0 (fun _ => true) true Tryd.f6.params.toList args.toList ds p := hA0
  rw [Tryd.params6] at hA hval hsz
  obtain ⟨v0, vs0, d0, ds0, p0, q0, hargs, rfl, rfl, h0, r0⟩ := trodAll_cons hA
  obtain ⟨rfl, rfl, rfl⟩ := trodAll_nil r0
  obtain rfl : args = #[v0] := by cases args; simp_all
  obtain ⟨g1, g2, g3, rfl⟩ := trodVars_three' hV
  obtain ⟨a0, len0, cap0, rfl⟩ := okWide_slice Tryd.underlying22 (hval 0 22 v0 rfl rfl)
  have k0 := h0
  have lt0 : ∀ x ∈ p0, x.block < W.heap.size := by obtain ⟨m, hm⟩ := k0; exact DataW.trod_lt m _ _ _ hm
  obtain ⟨z0, w0, b0⟩ : ∃ zs, IsRow .u8 W a0 len0 cap0 zs ∧ cap0 ≤ 140737488351232 := by
    obtain ⟨fuel, hf⟩ := h0
    rcases open_ints Tryd.underlying22 Tryd.underlying5 (by kernel_rfl) hf with ⟨hcs, _⟩ | ⟨x, l, c, zs, hcs, _, hl, hm, hz, hx, hcell, hwz⟩
    · simp [Value.cells] at hcs
      obtain ⟨rfl, rfl, rfl⟩ := hcs
      exact ⟨[], .inl ⟨rfl, rfl, rfl, rfl⟩, by omega⟩
    · simp [Value.cells] at hcs
      obtain ⟨rfl, rfl, rfl⟩ := hcs
      have hd : d0 = .slice (lits .u8 (zs.take len0)) (lits .u8 (zs.drop len0)) := congrArg Prod.fst hx
      have hrch := sized_slice hsz (j := 0) (t := 22) (e := 5) rfl (by rw [hd]; rfl) Tryd.underlying22
      rw [show Tryd.prog.bytesOf 5 = 1 by kernel_rfl] at hrch
      simp only [lits, List.length_map, List.length_take, List.length_drop, reachBytes] at hrch
      have hz' : zs.length = cap0 := by simpa using hz
      exact ⟨zs, .inr ⟨_, rfl, hl, hm, hz', hcell, hwz⟩, by omega⟩
  have tabs := fnStamps_tabs (W := W) hL
  clear hA0 hval0
  refine (fnStamps_walk a0 len0 cap0 z0 W w0 b0 tabs).mono fun e W' ⟨he, bel⟩ => ?_
  subst he
  exact ⟨_, rfl, _, _, _, [], _, _, hW', trodAll_mk1 (shut_bool Tryd.underlying4 _), (trodAll_cons_mk (Below.trod Tryd.laidOut (by kernel_rfl) (of_decide_eq_true (by kernel_rfl)) k0 bel lt0) trodAll_mk0), (Below.trodVars Tryd.laidOut bel (by kernel_rfl) hV), bel.frame _, fun h => by cases h⟩
theorem fnStamps_row : Rows.FnStampsSaid :=
  OpenClaim.holds_of_wide 6 Tryd.f6 rfl rfl rfl rfl rfl rfl rfl ⟨rfl, rfl, rfl, rfl, rfl⟩ rfl rfl rfl rfl rfl (by kernel_rfl) Tryd.func6 (by kernel_rfl)
    (of_decide_eq_true (by kernel_rfl)) (by unfold Func.isWrapper; first | (rw [if_pos (by decide +kernel)]; kernel_rfl) | (rw [if_neg (by decide +kernel)]; exact ⟨rfl, rfl⟩))
    (fun os started H enc _ => fnStamps_lifted os started H enc)
/-- THE STATEMENT: the card. -/
theorem fnStamps_holds : Rows.FnStampsCardSaid :=
  Claim7.holds_tied_plain_at .later [] [.data, .data, .data] true (true, "e036e2253d9167f81d39f68d9568a022764cbb1abf99261de18cef6116fbe40c") false
    fnStamps_row (fun _ h => by cases h) (by kernel_rfl) (fun _ h => by cases h) fnStamps_row_tie rfl ⟨rfl, rfl⟩ (by kernel_rfl) rfl
    (fun f fn hf hfn => by
      obtain rfl : f = 6 := Option.some.inj ((show Tryd.prog.funcNamed "loop.example/g00651/laws.FnStamps" = some 6 by kernel_rfl).symm.trans hf) |>.symm
      obtain rfl : fn = Tryd.f6 := (Option.some.inj (Tryd.func6.symm.trans hfn)).symm
      exact ⟨by kernel_rfl, fun j t ht => by
        rw [Tryd.params6] at ht
        have h3 : t = 22 := by
          rcases j with _ | j
          · simpa using ht.symm
          · simp at ht
        subst h3
        exact (show Tryd.prog.wantsStandIn 22 = false by kernel_rfl)⟩)
    (by kernel_rfl)
#print axioms fnStamps_holds
end Go.Proofs.YtohaghlhdkfkbaaDoor
