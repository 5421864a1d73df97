/-
  FnHexes: a number comes back from its digits in sixteens, with a zero ahead, too. The tables that the library's strconv and math/bits read are laid by the program's own text (the card).
-/
import Derived.Test.YtohaghlhdkfkbaaDoorXHexText
import Derived.Test.YtohaghlhdkfkbaaDoorW6
import Derived.Test.YtohaghlhdkfkbaaDoorWW
import Derived.Test.YtohaghlhdkfkbaaDoorWN
import Derived.Test.YtohaghlhdkfkbaaDoorOpenC
namespace Go.Proofs.YtohaghlhdkfkbaaDoor
set_option linter.unusedVariables false
set_option linter.unusedSimpArgs false
open Go.ChangeShapes Go.WideShapes Go.ChangeAt Go.RowKit
open Go.ChangeMaps (open_string shut_string)
theorem hex8_hexC (d : Nat) (hd : d < 16) : hex8 (hexC d) = (d : Int) := by
  have hds : d = 0 ∨ d = 1 ∨ d = 2 ∨ d = 3 ∨ d = 4 ∨ d = 5 ∨ d = 6 ∨ d = 7 ∨ d = 8 ∨ d = 9 ∨ d = 10 ∨ d = 11 ∨ d = 12 ∨ d = 13 ∨ d = 14 ∨ d = 15 := by omega
  rcases hds with rfl | rfl | rfl | rfl | rfl | rfl | rfl | rfl | rfl | rfl | rfl | rfl | rfl | rfl | rfl | rfl <;> decide
theorem hex_back (u : Nat) : allHex (hexL u) = true ∧ hval (hexL u) = (u : Int) := by
  induction u using Nat.strongRecOn with
  | _ u ih =>
    by_cases h : u < 16
    · rw [hexL_lt h]
      have e := hex8_hexC u h
      constructor
      · unfold allHex; rw [List.all_cons, e]; simp
      · have : hval [hexC u] = hval [] * 16 + hex8 (hexC u) := hval_snoc [] (hexC u)
        rw [this, e]; simp [hval]
    · rw [hexL_ge h]
      obtain ⟨h1, h2⟩ := ih (u / 16) (by omega)
      have e := hex8_hexC (u % 16) (by omega)
      exact ⟨allHex_snoc _ _ h1 (by rw [e]; omega), by rw [hval_snoc, h2, e]; omega⟩
theorem rhex_hex {u : Nat} (h : u ≤ 268435455) : rhexOk (hexB u) = true ∧ rhexN (hexB u) = (u : Int) := by
  have hs := hexB_size u h
  have hp := hexL_pos u
  have hz : (hexB u).size = (hexL u).length := by show (hexL u).toArray.size = _; simp
  have hb := hex_back u
  have ok : rhexOk (hexB u) = true := by
    unfold rhexOk
    rw [show (hexB u).data.toList = hexL u from rfl, hb.1]
    simp
    omega
  exact ⟨ok, by unfold rhexN; rw [if_pos ok]; exact hb.2⟩
theorem rhex_zero {u : Nat} (h : u ≤ 268435455) (h7 : (hexB u).size < 7) : rhexOk (⟨#[48]⟩ ++ hexB u) = true ∧ rhexN (⟨#[48]⟩ ++ hexB u) = (u : Int) := by
  have hb := hex_back u
  have hl : ((⟨#[48]⟩ : ByteArray) ++ hexB u).data.toList = 48 :: hexL u := by rw [ByteArray.data_append]; simp [hexB]
  have hz : ((⟨#[48]⟩ : ByteArray) ++ hexB u).size = 1 + (hexB u).size := by rw [ByteArray.size_append]; rfl
  have e0 : hex8 48 = 0 := by decide
  have ok : rhexOk (⟨#[48]⟩ ++ hexB u) = true := by
    unfold rhexOk
    have h1 : allHex (48 :: hexL u) = true := by
      have := hb.1
      unfold allHex at this ⊢
      rw [List.all_cons, this, e0]; rfl
    rw [hl, h1, hz]
    simp
    omega
  refine ⟨ok, ?_⟩
  unfold rhexN
  rw [if_pos ok, hl]
  have h2 : hval (48 :: hexL u) = hval (hexL u) := by unfold hval; rw [List.foldl_cons, e0]; rfl
  rw [h2]; exact hb.2
theorem rhex_empty : rhexOk ⟨#[]⟩ = false := by decide
set_option maxHeartbeats 1000000 in
theorem DrawHexText_any (a : Option Addr) (len cap : Nat) (w : World) (hc : Code w a len) :
    Calls Tryd.prog 9 #[.slice a len cap] w fun e w' => (∃ z : Int, -1 ≤ z ∧ z ≤ 10000000000000000 ∧ e = .returned (.int .i64 z)) ∧ Below w.heap.size w w' := by
  go_enter Tryd.func9, Tryd.ntmps9
  go_wp2_with fail
  refine (l1New_any a len cap _ hc.row hc.max).mono ?_
  rintro e w1 ⟨rfl, hb1, hd1⟩
  go_wp2_with fail
  refine (l1Once_any _ 2 _ hd1 (by omega)).mono ?_
  rintro e w2 ⟨⟨b, rfl⟩, hk2, hd2⟩
  have b2 : Below w.heap.size w w2 := hb1.trans (hk2.below (Nat.le_refl _) hb1.size)
  cases b
  · go_wp2_with fail
    refine (l1Below_any _ 268435457 _ hd2 (by omega)).mono ?_
    rintro e w3 ⟨⟨m, hm, _, _, rfl⟩, hk3, hd3⟩
    have hm2 : (m : Int) < 268435457 := hm (by omega)
    clear hm
    go_wp2
    go_ret
    exact ⟨⟨m, by omega, by omega, rfl⟩, b2.trans (hk3.below (Nat.le_refl _) b2.size)⟩
  · go_wp2_with fail
    refine (l1num_any _ _ hd2).mono ?_
    rintro e w3 ⟨⟨z, h1, h2, rfl⟩, hk3, hd3⟩
    go_wp2
    go_ret
    exact ⟨⟨z, h1, h2, rfl⟩, b2.trans (hk3.below (Nat.le_refl _) b2.size)⟩
theorem fnHexes_tabs {W : World} (h : laidMet Tryd.prog Rows.fnHexesRow.laid W) : HexTab W := hextab_of_laid (.tail _ (.head _)) h
set_option maxHeartbeats 2000000 in
theorem fnHexes_walk (a0 : Option Addr) (len0 cap0 : Nat) (z0 : List Int) (w : World) (w0 : IsRow .u8 w a0 len0 cap0 z0) (hc : HexTab w) :
    Calls Tryd.prog 3 #[.slice a0 len0 cap0] w fun e w' => e = .returned (.bool true) ∧ Below w.heap.size w w' := by
  have hcode := code_of w0
  have HT := hideB2 hc
  clear w0 hc
  go_enter Tryd.func3, Tryd.ntmps3
  go_wp2_with fail
  refine (DrawHexText_any a0 len0 cap0 _ hcode).mono ?_
  rintro e w1 ⟨⟨n, hn1, hn2, rfl⟩, hb1⟩
  have HI := hideB2 (HexText_all n w1 (hextab_below HT.out hb1))
  clear hcode HT
  go_wp2_with fail
  refine HI.out.mono ?_
  rintro e w2 ⟨rfl, hb2⟩
  have g2 := below_then hb1 hb2
  clear hb1 hb2 HI
  by_cases h : 0 ≤ n ∧ n ≤ 268435455
  · obtain ⟨u, rfl⟩ := Int.eq_ofNat_of_zero_le h.1
    have hu : u ≤ 268435455 := by omega
    have et : hexT (u : Int) = hexB u := by unfold hexT; rw [if_pos h, Int.toNat_natCast]
    rw [et]
    have hs := hexB_size u hu
    have ms : (hexB u).size ≤ maxLen := by unfold maxLen; omega
    have hr := rhex_hex hu
    have RZ := hideB2 (fun h7 => rhex_zero hu h7)
    have h1 : (0 : Int) ≤ (u : Int) := by omega
    have h2 : (u : Int) ≤ 268435455 := by omega
    clear h et
    go_wp2_with fail
    refine (ReadHex_any (hexB u) _ ms).mono ?_
    rintro e w3 ⟨rfl, rfl⟩
    rw [hr.1, hr.2]
    by_cases h7 : (hexB u).size < 7
    · have hz := RZ.out h7
      have h7' : ((hexB u).size : Int) < 7 := by omega
      have mz : ((⟨#[48]⟩ : ByteArray) ++ hexB u).size ≤ maxLen := by
        rw [ByteArray.size_append]
        have e : (ByteArray.mk #[48]).size = 1 := rfl
        unfold maxLen; omega
      have hne : ((u : Int) != (u : Int)) = false := by simp
      clear RZ h7 hr
      generalize hexB u = s at *
      go_wp2_with fail
      refine (ReadHex_any _ _ mz).mono ?_
      rintro e w4 ⟨rfl, rfl⟩
      rw [hz.1, hz.2]
      go_wp2_with fail
      refine (words_any _).mono ?_
      rintro e wB ⟨rfl, hbB⟩
      have hb := g2.trans (hbB.mono g2.size)
      go_wp2
      go_ret
      exact ⟨rfl, hb⟩
    · have h7' : ¬ ((hexB u).size : Int) < 7 := by omega
      have hne : ((u : Int) != (u : Int)) = false := by simp
      clear RZ h7 hr
      generalize hexB u = s at *
      go_wp2_with fail
      refine (words_any _).mono ?_
      rintro e wB ⟨rfl, hbB⟩
      have hb := g2.trans (hbB.mono g2.size)
      go_wp2
      go_ret
      exact ⟨rfl, hb⟩
  · have et : hexT n = ⟨#[]⟩ := by unfold hexT; rw [if_neg h]
    rw [et]
    have ms : (ByteArray.mk #[]).size ≤ maxLen := by unfold maxLen; decide
    have hr := rhex_empty
    have hcs : n < 0 ∨ (0 ≤ n ∧ 268435455 < n) := by omega
    clear h et
    rcases hcs with h | ⟨h, h'⟩
    all_goals
      go_wp2_with fail
      refine (ReadHex_any ⟨#[]⟩ _ ms).mono ?_
      rintro e w3 ⟨rfl, rfl⟩
      rw [hr]
      generalize rhexN ⟨#[]⟩ = q
      go_wp2_with fail
      refine (words_any _).mono ?_
      rintro e wB ⟨rfl, hbB⟩
      have hb := g2.trans (hbB.mono g2.size)
      go_wp2
      go_ret
      exact ⟨rfl, hb⟩

/-- A world that meets the condition: the settled one, the listed tables laid. -/
theorem fnHexes_laid_met (os : Os) (args : Array Value) : laidMet Tryd.prog Rows.fnHexesRow.laid (({ (World.holding Tryd.prog os ⟨#[], #[], []⟩) with heap := ((((World.holding Tryd.prog os ⟨#[], #[], []⟩).heap.modify 4 (laidRow #[.int .u8 0, .int .u8 1, .int .u8 28, .int .u8 2, .int .u8 29, .int .u8 14, .int .u8 24, .int .u8 3, .int .u8 30, .int .u8 22, .int .u8 20, .int .u8 15, .int .u8 25, .int .u8 17, .int .u8 4, .int .u8 8, .int .u8 31, .int .u8 27, .int .u8 13, .int .u8 23, .int .u8 21, .int .u8 19, .int .u8 16, .int .u8 7, .int .u8 26, .int .u8 12, .int .u8 18, .int .u8 6, .int .u8 11, .int .u8 5, .int .u8 10, .int .u8 9])).modify 5 (laidRow #[.int .u8 0, .int .u8 1, .int .u8 56, .int .u8 2, .int .u8 57, .int .u8 49, .int .u8 28, .int .u8 3, .int .u8 61, .int .u8 58, .int .u8 42, .int .u8 50, .int .u8 38, .int .u8 29, .int .u8 17, .int .u8 4, .int .u8 62, .int .u8 47, .int .u8 59, .int .u8 36, .int .u8 45, .int .u8 43, .int .u8 51, .int .u8 22, .int .u8 53, .int .u8 39, .int .u8 33, .int .u8 30, .int .u8 24, .int .u8 18, .int .u8 12, .int .u8 5, .int .u8 63, .int .u8 55, .int .u8 48, .int .u8 27, .int .u8 60, .int .u8 41, .int .u8 37, .int .u8 16, .int .u8 46, .int .u8 35, .int .u8 44, .int .u8 21, .int .u8 52, .int .u8 32, .int .u8 23, .int .u8 11, .int .u8 54, .int .u8 26, .int .u8 40, .int .u8 15, .int .u8 34, .int .u8 20, .int .u8 31, .int .u8 10, .int .u8 25, .int .u8 14, .int .u8 19, .int .u8 9, .int .u8 13, .int .u8 8, .int .u8 7, .int .u8 6])).modify 3 (laidRow #[.int .u64 1, .int .u64 10, .int .u64 100, .int .u64 1000, .int .u64 10000, .int .u64 100000, .int .u64 1000000, .int .u64 10000000, .int .u64 100000000, .int .u64 1000000000, .int .u64 10000000000, .int .u64 100000000000, .int .u64 1000000000000, .int .u64 10000000000000, .int .u64 100000000000000, .int .u64 1000000000000000, .int .u64 10000000000000000, .int .u64 100000000000000000, .int .u64 1000000000000000000, .int .u64 10000000000000000000])) } : World).forCall (fun _ _ => 0) ⟨#[], args, []⟩).memory :=
  laidMet_of_run' 8 (by kernel_rfl) (by kernel_rfl)
set_option maxRecDepth 100000 in
theorem fnHexes_lifted (os : Os) (started : os.Started) (H : Type) (enc : TypeId × Value → H) :
    ReturnsInHanded {} Tryd.checked os 3 .any (fun w args => (Rows.fnHexesSpec.pre enc Tryd.prog Tryd.f3 [] false w args ∧ laidMetH Tryd.prog Rows.fnHexesRow.laid w) ∧ sizedMet enc Tryd.prog Tryd.f3 (OpenSpec.ofChange Rows.fnHexesSpec) false w args)
      (Rows.fnHexesSpec.post enc Tryd.prog Tryd.f3 false true false false) := by
  refine returnsInHanded_of_change_and (C := Tryd.checked) (X := fun w _ => laidMetH Tryd.prog Rows.fnHexesRow.laid w) (fun _ _ _ hh h => h.of_heap hh) Tryd.own started (by kernel_rfl) Tryd.func3
    (ChangeSpec.witness_at (enc := enc) (C := Tryd.checked) (os := os) (X := fun w _ => laidMetH Tryd.prog Rows.fnHexesRow.laid w) false ({ (World.holding Tryd.prog os ⟨#[], #[], []⟩) with heap := ((((World.holding Tryd.prog os ⟨#[], #[], []⟩).heap.modify 4 (laidRow #[.int .u8 0, .int .u8 1, .int .u8 28, .int .u8 2, .int .u8 29, .int .u8 14, .int .u8 24, .int .u8 3, .int .u8 30, .int .u8 22, .int .u8 20, .int .u8 15, .int .u8 25, .int .u8 17, .int .u8 4, .int .u8 8, .int .u8 31, .int .u8 27, .int .u8 13, .int .u8 23, .int .u8 21, .int .u8 19, .int .u8 16, .int .u8 7, .int .u8 26, .int .u8 12, .int .u8 18, .int .u8 6, .int .u8 11, .int .u8 5, .int .u8 10, .int .u8 9])).modify 5 (laidRow #[.int .u8 0, .int .u8 1, .int .u8 56, .int .u8 2, .int .u8 57, .int .u8 49, .int .u8 28, .int .u8 3, .int .u8 61, .int .u8 58, .int .u8 42, .int .u8 50, .int .u8 38, .int .u8 29, .int .u8 17, .int .u8 4, .int .u8 62, .int .u8 47, .int .u8 59, .int .u8 36, .int .u8 45, .int .u8 43, .int .u8 51, .int .u8 22, .int .u8 53, .int .u8 39, .int .u8 33, .int .u8 30, .int .u8 24, .int .u8 18, .int .u8 12, .int .u8 5, .int .u8 63, .int .u8 55, .int .u8 48, .int .u8 27, .int .u8 60, .int .u8 41, .int .u8 37, .int .u8 16, .int .u8 46, .int .u8 35, .int .u8 44, .int .u8 21, .int .u8 52, .int .u8 32, .int .u8 23, .int .u8 11, .int .u8 54, .int .u8 26, .int .u8 40, .int .u8 15, .int .u8 34, .int .u8 20, .int .u8 31, .int .u8 10, .int .u8 25, .int .u8 14, .int .u8 19, .int .u8 9, .int .u8 13, .int .u8 8, .int .u8 7, .int .u8 6])).modify 3 (laidRow #[.int .u64 1, .int .u64 10, .int .u64 100, .int .u64 1000, .int .u64 10000, .int .u64 100000, .int .u64 1000000, .int .u64 10000000, .int .u64 100000000, .int .u64 1000000000, .int .u64 10000000000, .int .u64 100000000000, .int .u64 1000000000000, .int .u64 10000000000000, .int .u64 100000000000000, .int .u64 1000000000000000, .int .u64 10000000000000000, .int .u64 100000000000000000, .int .u64 1000000000000000000, .int .u64 10000000000000000000])) } : World) #[.slice none 0 0] 8 rfl (by kernel_rfl) (by kernel_rfl) (by kernel_rfl) (by kernel_rfl) (by kernel_rfl) (fnHexes_laid_met os _)) ?_
  intro W base args ds gs before hval0 hW _ _ hL _
  have hval : ∀ (j : Nat) t v, Tryd.f3.params[j]? = some t → args[j]? = some v → Value.okWide Tryd.prog W .any base t v := hval0
  have hW' := hW
  obtain ⟨p, q, hA0, hV, rfl, hfz, hnd⟩ := hW
  have hA : DataW.TrodAll enc Tryd.prog W 0 (fun _ => true) true Tryd.f3.params.toList args.toList ds p := hA0
  rw [Tryd.params3] at hA hval
  obtain ⟨v0, vs0, d0, ds0, p0, q0, hargs, rfl, rfl, h0, r0⟩ := trodAll_cons hA
  obtain ⟨rfl, rfl, rfl⟩ := trodAll_nil r0
  obtain rfl : args = #[v0] := by cases args; simp_all
  obtain ⟨rfl, rfl⟩ := trodVars_none hV
  obtain ⟨a0, len0, cap0, rfl⟩ := okWide_slice Tryd.underlying22 (hval 0 22 v0 rfl rfl)
  have k0 := h0
  have lt0 : ∀ x ∈ p0, x.block < W.heap.size := by obtain ⟨m, hm⟩ := k0; exact DataW.trod_lt m _ _ _ hm
  obtain ⟨z0, w0⟩ : ∃ zs, IsRow .u8 W a0 len0 cap0 zs := by
    obtain ⟨fuel, hf⟩ := h0
    rcases open_ints Tryd.underlying22 Tryd.underlying5 (by kernel_rfl) hf with ⟨hcs, _⟩ | ⟨x, l, c, zs, hcs, _, hl, hm, hz, _, hcell, hwz⟩
    · simp [Value.cells] at hcs
      obtain ⟨rfl, rfl, rfl⟩ := hcs
      exact ⟨[], .inl ⟨rfl, rfl, rfl, rfl⟩⟩
    · simp [Value.cells] at hcs
      obtain ⟨rfl, rfl, rfl⟩ := hcs
      exact ⟨zs, .inr ⟨_, rfl, hl, hm, by simpa using hz, hcell, hwz⟩⟩
  have tabs := fnHexes_tabs (W := W) hL
  clear hA0 hval0
  refine (fnHexes_walk a0 len0 cap0 z0 W w0 tabs).mono fun e W' ⟨he, bel⟩ => ?_
  subst he
  exact ⟨_, rfl, _, _, _, [], _, [], hW', trodAll_mk1 (shut_bool Tryd.underlying4 _), (trodAll_cons_mk (Below.trod Tryd.laidOut (by kernel_rfl) (of_decide_eq_true (by kernel_rfl)) k0 bel lt0) trodAll_mk0), rfl, bel.frame _, fun h => by cases h⟩
theorem fnHexes_row : Rows.FnHexesSaid :=
  OpenClaim.holds_of_wide 3 Tryd.f3 rfl rfl rfl rfl rfl rfl rfl ⟨rfl, rfl, rfl, rfl, rfl⟩ rfl rfl rfl rfl rfl (by kernel_rfl) Tryd.func3 (by kernel_rfl)
    (of_decide_eq_true (by kernel_rfl)) (by unfold Func.isWrapper; first | (rw [if_pos (by decide +kernel)]; kernel_rfl) | (rw [if_neg (by decide +kernel)]; exact ⟨rfl, rfl⟩))
    (fun os started H enc _ => fnHexes_lifted os started H enc)
/-- THE STATEMENT: the card. -/
theorem fnHexes_holds : Rows.FnHexesCardSaid :=
  Claim7.holds_tied_plain_at .later [] [.data, .data, .data] true (true, "e036e2253d9167f81d39f68d9568a022764cbb1abf99261de18cef6116fbe40c") false
    fnHexes_row (fun _ h => by cases h) (by kernel_rfl) (fun _ h => by cases h) fnHexes_row_tie rfl ⟨rfl, rfl⟩ (by kernel_rfl) rfl
    (fun f fn hf hfn => by
      obtain rfl : f = 3 := Option.some.inj ((show Tryd.prog.funcNamed "loop.example/g00651/laws.FnHexes" = some 3 by kernel_rfl).symm.trans hf) |>.symm
      obtain rfl : fn = Tryd.f3 := (Option.some.inj (Tryd.func3.symm.trans hfn)).symm
      exact ⟨by kernel_rfl, fun j t ht => by
        rw [Tryd.params3] at ht
        have h3 : t = 22 := by
          rcases j with _ | j
          · simpa using ht.symm
          · simp at ht
        subst h3
        exact (show Tryd.prog.wantsStandIn 22 = false by kernel_rfl)⟩)
    (by kernel_rfl)
#print axioms fnHexes_holds
end Go.Proofs.YtohaghlhdkfkbaaDoor
