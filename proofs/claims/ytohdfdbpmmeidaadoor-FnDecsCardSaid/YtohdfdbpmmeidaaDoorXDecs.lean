/-
  FnDecs: a number comes back from its digits, and digits from the number. The table that strconv.Itoa reads is laid by the program's own text (the card).
-/
import Derived.Test.YtohdfdbpmmeidaaDoorWIt
import Derived.Test.YtohdfdbpmmeidaaDoorWN
import Derived.Test.YtohdfdbpmmeidaaDoorW5
import Derived.Test.YtohdfdbpmmeidaaDoorWW
import Derived.Test.YtohdfdbpmmeidaaDoorOpenC
import Derived.Test.YtohdfdbpmmeidaaDoorCards
import Derived.Test.YtohdfdbpmmeidaaDoorTie
import Derived.Test.YtohdfdbpmmeidaaDoorOpenL
namespace Go.Proofs.YtohdfdbpmmeidaaDoor
set_option linter.unusedVariables false
set_option linter.unusedSimpArgs false
open Go.ChangeShapes Go.WideShapes Go.ChangeAt Go.RowKit
open Go.ChangeMaps (open_string shut_string)
theorem dectab_of_laid {W : World} {l : List (String × DataW Unit)} (hm : ("internal/strconv.uint64pow10", Rows.laid_internal_strconv_uint64pow10) ∈ l) (h : laidMet Tryd.prog l W) : Lib.TabIs Tryd.prog W "internal/strconv.uint64pow10" .u64 Lib.pow10Tab := by
  obtain ⟨ps, hl, _⟩ := h
  obtain ⟨g, t, cs, fuel, p, h1, h2, h3, h4⟩ := laid_mem hl _ _ hm
  have hg : Tryd.prog.globalNamed "internal/strconv.uint64pow10" = some 0 := by kernel_rfl
  have ht : (Tryd.prog.globals[0]?).map (·.type) = some 58 := by kernel_rfl
  obtain rfl := Option.some.inj (hg.symm.trans h1)
  obtain rfl := Option.some.inj (ht.symm.trans h2)
  have hc := Lib.cells_of_tab (k := .u64) (zs := Lib.pow10Tab) Tryd.underlying58 Tryd.underlying51 (by kernel_rfl) (by kernel_rfl) h4
  unfold Lib.TabIs
  rw [h3, ← hc]
theorem fnDecs_tabs {W : World} (h : laidMet Tryd.prog Rows.fnDecsRow.laid W) : Lib.TabIs Tryd.prog W "internal/strconv.uint64pow10" .u64 Lib.pow10Tab := dectab_of_laid (.tail _ (.tail _ (.head _))) h
theorem rdec_dec {u : Nat} (h : u ≤ 999999999999999) : rdec (decB u) = some u := by
  have hl := decDigits_len u h
  have hn := decDigits_ne_nil u
  have hs : (decB u).size = (Lib.decDigits u).length := by show (Lib.decDigits u).toArray.size = _; simp
  have h0 : 0 < (Lib.decDigits u).length := List.length_pos_iff.2 hn
  have := rdec_yes (decB u) (by omega) (by omega) (by rw [decB_list]; exact allDig_dec u) (by rw [decB_list, valL_dec])
  rw [this, decB_list, valL_dec]
theorem dec_rdec {s : ByteArray} {k : Nat} (h : rdec s = some k) : decT (k : Int) = s := by
  unfold rdec at h
  split at h
  · rename_i hc
    obtain ⟨h1, h2, h3, h4⟩ := hc
    have hk : valL s.data.toList = k := Option.some.inj h
    have hlt := valL_lt s.data.toList h3
    rw [len_data] at hlt
    have hp : 10 ^ s.size ≤ 10 ^ 15 := Nat.pow_le_pow_right (by decide) h2
    have hb : k ≤ 999999999999999 := by
      rw [← hk]
      have : (10 : Nat) ^ 15 = 1000000000000000 := by decide
      omega
    unfold decT
    rw [if_pos ⟨by omega, by omega⟩]
    apply bytes_ext
    show Lib.decDigits (Int.toNat (k : Int)) = _
    rw [Int.toNat_natCast, ← hk, h4]
  · cases h
theorem rdec_empty : rdec ⟨#[]⟩ = none := rdec_size _ (Or.inl rfl)
theorem decT_size (n : Int) : (decT n).size ≤ 15 := by
  unfold decT
  split
  · rename_i h
    have := decDigits_len n.toNat (by omega)
    show (Lib.decDigits n.toNat).toArray.size ≤ 15
    simpa using this
  · exact Nat.zero_le _
set_option maxHeartbeats 1000000 in
theorem DrawDecText_any (a : Option Addr) (len cap : Nat) (w : World) (hc : Code w a len) :
    Calls Tryd.prog 5 #[.slice a len cap] w fun e w' => (∃ z : Int, -1 ≤ z ∧ z ≤ 10000000000000000 ∧ e = .returned (.int .i64 z)) ∧ Below w.heap.size w w' := by
  go_enter Tryd.func5, Tryd.ntmps5
  go_wp2_with fail
  refine (l1New_any a len cap _ hc.row hc.max).mono ?_
  rintro e w1 ⟨rfl, hb1, hd1⟩
  go_wp2_with fail
  refine (l1num_any _ _ hd1).mono ?_
  rintro e w2 ⟨⟨z, h1, h2, rfl⟩, hk2, hd2⟩
  go_wp2
  go_ret
  exact ⟨⟨z, h1, h2, rfl⟩, hb1.trans (hk2.below (Nat.le_refl _) hb1.size)⟩
set_option maxHeartbeats 1000000 in
theorem DrawReadDec_any (a : Option Addr) (len cap : Nat) (w : World) (hc : Code w a len) :
    Calls Tryd.prog 8 #[.slice a len cap] w fun e w' => (∃ s : ByteArray, s.size ≤ 20 ∧ e = .returned (.string s)) ∧ Below w.heap.size w w' := by
  go_enter Tryd.func8, Tryd.ntmps8
  go_wp2_with fail
  refine (l1New_any a len cap _ hc.row hc.max).mono ?_
  rintro e w1 ⟨rfl, hb1, hd1⟩
  go_wp2_with fail
  refine (l1num_any _ _ hd1).mono ?_
  rintro e w2 ⟨⟨z, h1, h2, rfl⟩, hk2, hd2⟩
  have b2 := hb1.trans (hk2.below (Nat.le_refl _) hb1.size)
  go_wp2_with fail
  refine (sDecText_all z _).mono ?_
  rintro e w3 ⟨rfl, hb3⟩
  have hd3 := hd2.kept hb3
  have b3 := b2.trans (hb3.mono b2.size)
  have hsz := decT_size z
  generalize decT z = s at *
  clear hb1 hd1 hk2 hd2 b2 hb3
  go_wp2_with fail
  refine (l1Once_any _ 3 _ hd3 (by omega)).mono ?_
  rintro e w4 ⟨⟨b, rfl⟩, hk4, hd4⟩
  have b4 : Below w.heap.size w w4 := b3.trans (hk4.below (Nat.le_refl _) b3.size)
  cases b
  · go_wp2_with fail
    refine (l1Once_any _ 8 _ hd4 (by omega)).mono ?_
    rintro e w5 ⟨⟨b, rfl⟩, hk5, hd5⟩
    have b5 : Below w.heap.size w w5 := b4.trans (hk5.below (Nat.le_refl _) b4.size)
    cases b
    · go_wp2
      go_ret
      exact ⟨⟨s, by omega, rfl⟩, b5⟩
    · go_wp2
      go_ret
      refine ⟨⟨_, ?_, rfl⟩, b5⟩
      have e1 : (ByteArray.mk #[48]).size = 1 := rfl
      rw [ByteArray.size_append]; omega
  · go_wp2_with fail
    refine (l1bend_any _ s _ hd4 (by omega)).mono ?_
    rintro e w5 ⟨⟨t, ht, rfl⟩, hk5, hd5⟩
    go_wp2
    go_ret
    exact ⟨⟨t, by omega, rfl⟩, b4.trans (hk5.below (Nat.le_refl _) b4.size)⟩
set_option maxHeartbeats 2000000 in
theorem fnDecs_walk (a0 : Option Addr) (len0 cap0 : Nat) (z0 : List Int) (w : World) (w0 : IsRow .u8 w a0 len0 cap0 z0) (htab : Lib.TabIs Tryd.prog w "internal/strconv.uint64pow10" .u64 Lib.pow10Tab) :
    Calls Tryd.prog 3 #[.slice a0 len0 cap0] w fun e w' => e = .returned (.bool true) ∧ Below w.heap.size w w' := by
  have hc := code_of w0
  have HT : Hid (∀ w', Below w.heap.size w w' → Lib.TabIs Tryd.prog w' "internal/strconv.uint64pow10" .u64 Lib.pow10Tab) := Lib.tabBelow_of_tabIs htab
  clear w0 htab
  go_enter Tryd.func3, Tryd.ntmps3
  go_wp2_with fail
  refine (DrawDecText_any a0 len0 cap0 _ hc).mono ?_
  rintro e w1 ⟨⟨n, hn1, hn2, rfl⟩, hb1⟩
  have hc1 := hc.later hb1
  go_wp2_with fail
  refine (DecText_all n _ (HT.out _ hb1)).mono ?_
  rintro e w2 ⟨rfl, hb2⟩
  have hc2 := hc1.later hb2
  have g2 := hb1.trans (hb2.mono hb1.size)
  have hs := decT_size n
  have ms : (decT n).size ≤ maxLen := by unfold maxLen; omega
  clear hb1 hb2 hc hc1
  go_wp2_with fail
  refine (ReadDec_any (decT n) _ ms).mono ?_
  rintro e w3 ⟨rfl, rfl⟩
  have hcase : (0 ≤ n ∧ n ≤ 999999999999999 ∧ rdecN (decT n) = n ∧ rdecOk (decT n) = true) ∨ ((n < 0 ∨ 999999999999999 < n) ∧ decT n = ⟨#[]⟩ ∧ rdecN (decT n) = 0 ∧ rdecOk (decT n) = false) := by
    by_cases h : 0 ≤ n ∧ n ≤ 999999999999999
    · left
      have e : decT n = decB n.toNat := by unfold decT; rw [if_pos h]
      have hr := rdec_some (rdec_dec (u := n.toNat) (by omega))
      rw [e]
      exact ⟨h.1, h.2, by rw [hr.1]; omega, hr.2⟩
    · right
      have e : decT n = ⟨#[]⟩ := by unfold decT; rw [if_neg h]
      have hr := rdec_none rdec_empty
      rw [e]
      exact ⟨by omega, rfl, hr.1, hr.2⟩
  have hrest : Hid (∀ (K : Act → World → Prop), True) := fun _ => trivial
  clear hrest
  rcases hcase with ⟨h1, h2, h3, h4⟩ | ⟨h1, h2, h3, h4⟩
  · rw [h3, h4]
    have q1 : ¬ n < 0 := by omega
    have q2 : (n != n) = false := by simp
    clear h3 h4
    generalize decT n = s at *
    go_wp2_with fail
    refine (DrawReadDec_any a0 len0 cap0 _ hc2).mono ?_
    rintro e w4 ⟨⟨t, ht, rfl⟩, hb4⟩
    have g4 := g2.trans (hb4.mono g2.size)
    have mt : t.size ≤ maxLen := by unfold maxLen; omega
    clear g2 hb4 hc2
    go_wp2_with fail
    refine (ReadDec_any t _ mt).mono ?_
    rintro e w5 ⟨rfl, rfl⟩
    cases hk : rdec t with
    | none =>
      rw [(rdec_none hk).1, (rdec_none hk).2]
      clear hk
      go_wp2_with fail
      refine (words_any _).mono ?_
      rintro e wB ⟨rfl, hbB⟩
      go_wp2
      go_ret
      exact ⟨rfl, g4.trans (hbB.mono g4.size)⟩
    | some k =>
      rw [(rdec_some hk).1, (rdec_some hk).2]
      have hd := dec_rdec hk
      have hnt : (t.toList != t.toList) = false := by simp
      clear hk
      go_wp2_with fail
      refine (DecText_all (k : Int) _ (HT.out _ g4)).mono ?_
      rintro e w6 ⟨rfl, hb6⟩
      rw [hd]
      have g6 := g4.trans (hb6.mono g4.size)
      clear g4 hb6 hd
      go_wp2_with fail
      refine (words_any _).mono ?_
      rintro e wB ⟨rfl, hbB⟩
      go_wp2
      go_ret
      exact ⟨rfl, g6.trans (hbB.mono g6.size)⟩
  · rw [h3, h4, h2]
    clear h2 h3 h4 hs ms
    rcases h1 with h1 | h1
    all_goals
      go_wp2_with fail
      refine (DrawReadDec_any a0 len0 cap0 _ hc2).mono ?_
      rintro e w4 ⟨⟨t, ht, rfl⟩, hb4⟩
      have g4 := g2.trans (hb4.mono g2.size)
      have mt : t.size ≤ maxLen := by unfold maxLen; omega
      clear g2 hb4 hc2
      go_wp2_with fail
      refine (ReadDec_any t _ mt).mono ?_
      rintro e w5 ⟨rfl, rfl⟩
      cases hk : rdec t with
      | none =>
        rw [(rdec_none hk).1, (rdec_none hk).2]
        clear hk
        go_wp2_with fail
        refine (words_any _).mono ?_
        rintro e wB ⟨rfl, hbB⟩
        go_wp2
        go_ret
        exact ⟨rfl, g4.trans (hbB.mono g4.size)⟩
      | some k =>
        rw [(rdec_some hk).1, (rdec_some hk).2]
        have hd := dec_rdec hk
        have hnt : (t.toList != t.toList) = false := by simp
        clear hk
        go_wp2_with fail
        refine (DecText_all (k : Int) _ (HT.out _ g4)).mono ?_
        rintro e w6 ⟨rfl, hb6⟩
        rw [hd]
        have g6 := g4.trans (hb6.mono g4.size)
        clear g4 hb6 hd
        go_wp2_with fail
        refine (words_any _).mono ?_
        rintro e wB ⟨rfl, hbB⟩
        go_wp2
        go_ret
        exact ⟨rfl, g6.trans (hbB.mono g6.size)⟩

/-- A world that meets the condition: the settled one, the listed tables laid. -/
theorem fnDecs_laid_met (os : Os) (args : Array Value) : laidMet Tryd.prog Rows.fnDecsRow.laid (({ (World.holding Tryd.prog os ⟨#[], #[], []⟩) with heap := ((((World.holding Tryd.prog os ⟨#[], #[], []⟩).heap.modify 1 (laidRow #[.int .u8 0, .int .u8 1, .int .u8 28, .int .u8 2, .int .u8 29, .int .u8 14, .int .u8 24, .int .u8 3, .int .u8 30, .int .u8 22, .int .u8 20, .int .u8 15, .int .u8 25, .int .u8 17, .int .u8 4, .int .u8 8, .int .u8 31, .int .u8 27, .int .u8 13, .int .u8 23, .int .u8 21, .int .u8 19, .int .u8 16, .int .u8 7, .int .u8 26, .int .u8 12, .int .u8 18, .int .u8 6, .int .u8 11, .int .u8 5, .int .u8 10, .int .u8 9])).modify 2 (laidRow #[.int .u8 0, .int .u8 1, .int .u8 56, .int .u8 2, .int .u8 57, .int .u8 49, .int .u8 28, .int .u8 3, .int .u8 61, .int .u8 58, .int .u8 42, .int .u8 50, .int .u8 38, .int .u8 29, .int .u8 17, .int .u8 4, .int .u8 62, .int .u8 47, .int .u8 59, .int .u8 36, .int .u8 45, .int .u8 43, .int .u8 51, .int .u8 22, .int .u8 53, .int .u8 39, .int .u8 33, .int .u8 30, .int .u8 24, .int .u8 18, .int .u8 12, .int .u8 5, .int .u8 63, .int .u8 55, .int .u8 48, .int .u8 27, .int .u8 60, .int .u8 41, .int .u8 37, .int .u8 16, .int .u8 46, .int .u8 35, .int .u8 44, .int .u8 21, .int .u8 52, .int .u8 32, .int .u8 23, .int .u8 11, .int .u8 54, .int .u8 26, .int .u8 40, .int .u8 15, .int .u8 34, .int .u8 20, .int .u8 31, .int .u8 10, .int .u8 25, .int .u8 14, .int .u8 19, .int .u8 9, .int .u8 13, .int .u8 8, .int .u8 7, .int .u8 6])).modify 0 (laidRow #[.int .u64 1, .int .u64 10, .int .u64 100, .int .u64 1000, .int .u64 10000, .int .u64 100000, .int .u64 1000000, .int .u64 10000000, .int .u64 100000000, .int .u64 1000000000, .int .u64 10000000000, .int .u64 100000000000, .int .u64 1000000000000, .int .u64 10000000000000, .int .u64 100000000000000, .int .u64 1000000000000000, .int .u64 10000000000000000, .int .u64 100000000000000000, .int .u64 1000000000000000000, .int .u64 10000000000000000000])) } : World).forCall (fun _ _ => 0) ⟨#[], args, []⟩).memory :=
  laidMet_of_run' 8 (by kernel_rfl) (by kernel_rfl)
set_option maxRecDepth 100000 in
theorem fnDecs_lifted (os : Os) (started : os.Started) (H : Type) (enc : TypeId × Value → H) :
    ReturnsInHanded {} Tryd.checked os 3 .any (fun w args => (Rows.fnDecsSpec.pre enc Tryd.prog Tryd.f3 [] false w args ∧ laidMetH Tryd.prog Rows.fnDecsRow.laid w) ∧ sizedMet enc Tryd.prog Tryd.f3 (OpenSpec.ofChange Rows.fnDecsSpec) false w args)
      (Rows.fnDecsSpec.post enc Tryd.prog Tryd.f3 false true false false) := by
  refine returnsInHanded_of_change_and (C := Tryd.checked) (X := fun w _ => laidMetH Tryd.prog Rows.fnDecsRow.laid w) (fun _ _ _ hh h => h.of_heap hh) Tryd.own started (by kernel_rfl) Tryd.func3
    (ChangeSpec.witness_at (enc := enc) (C := Tryd.checked) (os := os) (X := fun w _ => laidMetH Tryd.prog Rows.fnDecsRow.laid w) false ({ (World.holding Tryd.prog os ⟨#[], #[], []⟩) with heap := ((((World.holding Tryd.prog os ⟨#[], #[], []⟩).heap.modify 1 (laidRow #[.int .u8 0, .int .u8 1, .int .u8 28, .int .u8 2, .int .u8 29, .int .u8 14, .int .u8 24, .int .u8 3, .int .u8 30, .int .u8 22, .int .u8 20, .int .u8 15, .int .u8 25, .int .u8 17, .int .u8 4, .int .u8 8, .int .u8 31, .int .u8 27, .int .u8 13, .int .u8 23, .int .u8 21, .int .u8 19, .int .u8 16, .int .u8 7, .int .u8 26, .int .u8 12, .int .u8 18, .int .u8 6, .int .u8 11, .int .u8 5, .int .u8 10, .int .u8 9])).modify 2 (laidRow #[.int .u8 0, .int .u8 1, .int .u8 56, .int .u8 2, .int .u8 57, .int .u8 49, .int .u8 28, .int .u8 3, .int .u8 61, .int .u8 58, .int .u8 42, .int .u8 50, .int .u8 38, .int .u8 29, .int .u8 17, .int .u8 4, .int .u8 62, .int .u8 47, .int .u8 59, .int .u8 36, .int .u8 45, .int .u8 43, .int .u8 51, .int .u8 22, .int .u8 53, .int .u8 39, .int .u8 33, .int .u8 30, .int .u8 24, .int .u8 18, .int .u8 12, .int .u8 5, .int .u8 63, .int .u8 55, .int .u8 48, .int .u8 27, .int .u8 60, .int .u8 41, .int .u8 37, .int .u8 16, .int .u8 46, .int .u8 35, .int .u8 44, .int .u8 21, .int .u8 52, .int .u8 32, .int .u8 23, .int .u8 11, .int .u8 54, .int .u8 26, .int .u8 40, .int .u8 15, .int .u8 34, .int .u8 20, .int .u8 31, .int .u8 10, .int .u8 25, .int .u8 14, .int .u8 19, .int .u8 9, .int .u8 13, .int .u8 8, .int .u8 7, .int .u8 6])).modify 0 (laidRow #[.int .u64 1, .int .u64 10, .int .u64 100, .int .u64 1000, .int .u64 10000, .int .u64 100000, .int .u64 1000000, .int .u64 10000000, .int .u64 100000000, .int .u64 1000000000, .int .u64 10000000000, .int .u64 100000000000, .int .u64 1000000000000, .int .u64 10000000000000, .int .u64 100000000000000, .int .u64 1000000000000000, .int .u64 10000000000000000, .int .u64 100000000000000000, .int .u64 1000000000000000000, .int .u64 10000000000000000000])) } : World) #[.slice none 0 0] 8 rfl (by kernel_rfl) (by kernel_rfl) (by kernel_rfl) (by kernel_rfl) (by kernel_rfl) (fnDecs_laid_met os _)) ?_
  intro W base args ds gs before hval0 hW _ _ hL _
  have hval : ∀ (j : Nat) t v, Tryd.f3.params[j]? = some t → args[j]? = some v → Value.okWide Tryd.prog W .any base t v := hval0
  have hW' := hW
  obtain ⟨p, q, hA0, hV, rfl, hfz, hnd⟩ := hW
  have hA : DataW.TrodAll enc Tryd.prog W 0 (fun _ => true) true Tryd.f3.params.toList args.toList ds p := hA0
  rw [Tryd.params3] at hA hval
  obtain ⟨v0, vs0, d0, ds0, p0, q0, hargs, rfl, rfl, h0, r0⟩ := trodAll_cons hA
  obtain ⟨rfl, rfl, rfl⟩ := trodAll_nil r0
  obtain rfl : args = #[v0] := by cases args; simp_all
  obtain ⟨rfl, rfl⟩ := trodVars_none hV
  obtain ⟨a0, len0, cap0, rfl⟩ := okWide_slice Tryd.underlying22 (hval 0 22 v0 rfl rfl)
  have k0 := h0
  have lt0 : ∀ x ∈ p0, x.block < W.heap.size := by obtain ⟨m, hm⟩ := k0; exact DataW.trod_lt m _ _ _ hm
  obtain ⟨z0, w0⟩ : ∃ zs, IsRow .u8 W a0 len0 cap0 zs := by
    obtain ⟨fuel, hf⟩ := h0
    rcases open_ints Tryd.underlying22 Tryd.underlying5 (by kernel_rfl) hf with ⟨hcs, _⟩ | ⟨x, l, c, zs, hcs, _, hl, hm, hz, _, hcell, hwz⟩
    · simp [Value.cells] at hcs
      obtain ⟨rfl, rfl, rfl⟩ := hcs
      exact ⟨[], .inl ⟨rfl, rfl, rfl, rfl⟩⟩
    · simp [Value.cells] at hcs
      obtain ⟨rfl, rfl, rfl⟩ := hcs
      exact ⟨zs, .inr ⟨_, rfl, hl, hm, by simpa using hz, hcell, hwz⟩⟩
  have tabs := fnDecs_tabs (W := W) hL
  clear hA0 hval0
  refine (fnDecs_walk a0 len0 cap0 z0 W w0 tabs).mono fun e W' ⟨he, bel⟩ => ?_
  subst he
  exact ⟨_, rfl, _, _, _, [], _, [], hW', trodAll_mk1 (shut_bool Tryd.underlying4 _), (trodAll_cons_mk (Below.trod Tryd.laidOut (by kernel_rfl) (of_decide_eq_true (by kernel_rfl)) k0 bel lt0) trodAll_mk0), rfl, bel.frame _, fun h => by cases h⟩
theorem fnDecs_row : Rows.FnDecsSaid :=
  OpenClaim.holds_of_wide 3 Tryd.f3 rfl rfl rfl rfl rfl rfl rfl ⟨rfl, rfl, rfl, rfl, rfl⟩ rfl rfl rfl rfl rfl (by kernel_rfl) Tryd.func3 (by kernel_rfl)
    (of_decide_eq_true (by kernel_rfl)) (by unfold Func.isWrapper; first | (rw [if_pos (by decide +kernel)]; kernel_rfl) | (rw [if_neg (by decide +kernel)]; exact ⟨rfl, rfl⟩))
    (fun os started H enc _ => fnDecs_lifted os started H enc)
/-- THE STATEMENT: the card. -/
theorem fnDecs_holds : Rows.FnDecsCardSaid :=
  Claim7.holds_tied_plain_at .later [] [.data, .data, .data] true (true, "68ac2f412d2b7b83bfc148b5e274e4d481700bb12dd6841bb7215c10e726c114") false
    fnDecs_row (fun _ h => by cases h) (by kernel_rfl) (fun _ h => by cases h) fnDecs_row_tie rfl ⟨rfl, rfl⟩ (by kernel_rfl) rfl
    (fun f fn hf hfn => by
      obtain rfl : f = 3 := Option.some.inj ((show Tryd.prog.funcNamed "loop.example/g00651/laws.FnDecs" = some 3 by kernel_rfl).symm.trans hf) |>.symm
      obtain rfl : fn = Tryd.f3 := (Option.some.inj (Tryd.func3.symm.trans hfn)).symm
      exact ⟨by kernel_rfl, fun j t ht => by
        rw [Tryd.params3] at ht
        have h3 : t = 22 := by
          rcases j with _ | j
          · simpa using ht.symm
          · simp at ht
        subst h3
        exact (show Tryd.prog.wantsStandIn 22 = false by kernel_rfl)⟩)
    (by kernel_rfl)
#print axioms fnDecs_holds
end Go.Proofs.YtohdfdbpmmeidaaDoor
