/-
  FnElements: words that are written with commas and gaps between are the elements. No condition.
-/
import Derived.Test.YtpjjgdhcidngfaaWQ
import Derived.Test.YtpjjgdhcidngfaaMEl
import Derived.Test.YtpjjgdhcidngfaaWE2
import Derived.Test.YtpjjgdhcidngfaaWW
import Derived.Test.YtpjjgdhcidngfaaOpenC
namespace Go.Proofs.Ytpjjgdhcidngfaa
set_option linter.unusedVariables false
set_option linter.unusedSimpArgs false
open Go.ChangeShapes Go.WideShapes Go.ChangeAt Go.RowKit
open Go.ChangeMaps (open_string shut_string)
theorem conv2 {P : Program} (src e dst : TypeId) (hs : P.underlying src = some (.slice e)) (he : P.underlying e = some (.int .u8)) (hd : P.underlying dst = some .string) (w : World) (b cap : Nat) (x y : Int) (hc : w.cell? ⟨b, 0, none⟩ = some (.int .u8 x)) (hc1 : w.cell? ⟨b, 1, none⟩ = some (.int .u8 y)) :
    (convert src dst (.slice (some ⟨b, 0, none⟩) 2 cap)).run P w = .ok (.string ⟨#[UInt8.ofNat x.toNat, UInt8.ofNat y.toNat]⟩) w :=
  run_convert_bytes_arg (P := P) w src e hs he b 0 2 cap [x, y] rfl (fun i hi => by
    match i, hi with
    | 0, _ => exact hc
    | 1, _ => exact hc1) dst hd
set_option maxHeartbeats 2000000 in
theorem fnElements_walk (a0 : Option Addr) (len0 cap0 : Nat) (z0 : List Int) (w : World) (w0 : IsRow .u8 w a0 len0 cap0 z0) :
    Calls Try.prog 6 #[.slice a0 len0 cap0] w fun e w' => e = .returned (.bool true) ∧ Below w.heap.size w w' := by
  have hc := code_of w0
  clear w0
  have kb := fun (w : World) (b cap : Nat) (x y : Int) => conv2 (P := Try.prog) 22 5 9 Try.underlying22 Try.underlying5 Try.underlying9 w b cap x y
  go_enter Try.func6, Try.ntmps6
  go_wp2_with fail
  go_loopw [3, 4, 5] (fun lv sv i wr => ∃ (k : Nat) (s : ByteArray) (L : List ByteArray), k ≤ len0 ∧ k ≤ 9 ∧ i = .int .i64 (k : Int) ∧ sv = .string s ∧ s.size ≤ 10 * k ∧ L.length = k ∧ ES s.data.toList L ∧ BufS w wr lv L) (fun _ _ i _ => len0 - (intOf i).toNat)
  case atStart => exact ⟨0, ⟨#[]⟩, [], Nat.zero_le _, by omega, rfl, rfl, by decide, rfl, es_start, BufS.start w⟩
  case round =>
    obtain ⟨k, s, L, hk, hk9, rfl, rfl, hsz, hL, hES, hbuf⟩ := hrel
    have HE : Hid (ES s.data.toList L ∧ L.length = k) := ⟨hES, hL⟩
    clear hES
    by_cases hlt : k < len0 ∧ k < 9
    · obtain ⟨hl1, hl2⟩ := hlt
      rcases hc.row with hl0 | ⟨b, off, rfl, hbp, hcc⟩
      · omega
      · obtain ⟨z, hz, hcw⟩ := hcc k hl1
        have hcz : wr.cell? ⟨b, off + k, none⟩ = some (.int .u8 (z : Int)) := (hbuf.below.cell (p := ⟨b, off + k, none⟩) hbp).trans hcw
        have hI : (k : Int) < (len0 : Int) := by omega
        have hI9 : (k : Int) < 9 := by omega
        have HC : Hid (w.cell? ⟨b, off + k, none⟩ = some (.int .u8 (z : Int)) ∧ b < w.heap.size) := ⟨hcw, hbp⟩
        have hb1 : BufS w (wr.alloc (.cells #[.int .u8 (97 + (z : Int) % 26), .int .u8 (48 + (z : Int) % 10)] 5)).drew u3 L := hbuf.later ((Below.refl _ wr).alloc (Nat.le_refl _) _).drew
        have hLl : L.length ≤ 9 := by omega
        clear hcc hc hcw hbp
        go_wp2_with fail
        go_region
        clear hcz kb
        generalize (wr.alloc (.cells #[.int .u8 (97 + (z : Int) % 26), .int .u8 (48 + (z : Int) % 10)] 5)).drew = W1 at *
        generalize hxe : ByteArray.mk #[UInt8.ofNat (97 + z % 26), UInt8.ofNat (48 + z % 10)] = x at *
        have HX : Hid (ByteArray.mk #[UInt8.ofNat (97 + z % 26), UInt8.ofNat (48 + z % 10)] = x) := hxe
        have hxx : x.size ≤ 2 := by rw [← hxe]; exact Nat.le_refl _
        clear hxe
        go_wp2_with (at_builtin; refine wp_sapp rfl _ _ rfl _ _ rfl hb1 x rfl (by omega) ?_; intro v2 W2 hbuf2)
        have hcz2 : W2.cell? ⟨b, off + k, none⟩ = some (.int .u8 (z : Int)) := (hbuf2.below.cell (p := ⟨b, off + k, none⟩) HC.out.2).trans HC.out.1
        have hA1 : ∀ o, (W2.alloc o).cell? ⟨b, off + k, none⟩ = some (.int .u8 (z : Int)) := fun o => ((hbuf2.below.alloc hbuf2.below.size o).cell (p := ⟨b, off + k, none⟩) HC.out.2).trans HC.out.1
        have hA2 : ∀ o o', ((W2.alloc o).alloc o').cell? ⟨b, off + k, none⟩ = some (.int .u8 (z : Int)) := fun o o' => (((hbuf2.below.alloc hbuf2.below.size o).alloc (hbuf2.below.alloc hbuf2.below.size o).size o').cell (p := ⟨b, off + k, none⟩) HC.out.2).trans HC.out.1
        clear hb1 hbuf
        have HW : Hid (Word x.data.toList) := by
          show Word _
          rw [← HX.out]; exact word_of z
        obtain ⟨q1, hq1, e1⟩ : ∃ q : Nat, q < 4 ∧ (z : Int) / 64 = (q : Int) := ⟨z / 64, by omega, by omega⟩
        obtain ⟨q2, hq2, e2⟩ : ∃ q : Nat, q < 4 ∧ (z : Int) / 16 % 4 = (q : Int) := ⟨z / 16 % 4, by omega, by omega⟩
        have p1 : ∀ h, ([Value.string ⟨#[]⟩, .string ⟨#[32]⟩, .string ⟨#[44]⟩, .string ⟨#[44, 32, 9, 44]⟩] : List Value)[q1]'h = .string (preB q1) := fun h => preB_get hq1 h
        have p2 : ∀ h, ([Value.string ⟨#[44]⟩, .string ⟨#[32, 44]⟩, .string ⟨#[44, 44]⟩, .string ⟨#[44, 32]⟩] : List Value)[q2]'h = .string (sufB q2) := fun h => sufB_get hq2 h
        have s1 := preB_size q1
        have s2 := sufB_size q2
        have i1 : (q1 : Int) < 4 := by omega
        have i2 : (q2 : Int) < 4 := by omega
        have HS : Hid (ES (s ++ preB q1 ++ x ++ sufB q2).data.toList (L ++ [x]) ∧ (s ++ preB q1 ++ x ++ sufB q2).size ≤ 10 * (k + 1)) := by
          refine ⟨es_step HE.out.1 HW.out hq1 hq2, ?_⟩
          rw [ByteArray.size_append, ByteArray.size_append, ByteArray.size_append]; omega
        generalize preB q1 = P at *
        generalize sufB q2 = U at *
        go_region
        all_goals
          go_wp2
          go_round
          case rel => exact ⟨k + 1, s ++ P ++ x ++ U, L ++ [x], by omega, by omega, by go_num, rfl, HS.out.2, by have := HE.out.2; simp; omega, HS.out.1, ((hbuf2.alloc _).alloc _).later (Below.refl _ _).drew⟩
          case measure => simp [intOf] <;> omega
    · have hway : (¬ (k : Int) < (len0 : Int)) ∨ ((k : Int) < (len0 : Int) ∧ ¬ (k : Int) < 9) := by
        by_cases h : k < len0
        · right; exact ⟨by omega, by omega⟩
        · left; omega
      have ms : s.size ≤ maxLen := by unfold maxLen; omega
      have HF : Hid (elsB s = L) := es_end HE.out.1 (by omega)
      have hLl : L.length ≤ 1000000 := by omega
      obtain ⟨av, cv, rfl, hrv⟩ := hbuf.rows
      have HW : Hid (Below w.heap.size w wr) := hbuf.below
      clear hlt hc hbuf hL hk kb
      rcases hway with h | ⟨h, h'⟩
      all_goals
        go_wp2_with fail
        refine (Elements_any s _ ms).mono ?_
        rintro e w5 ⟨v, rfl, hbs⟩
        rw [HF.out] at hbs
        have hr2 := hrv.later hbs.below
        obtain ⟨a, c, rfl, hr⟩ := hbs.rows
        have g5 := HW.out.trans (hbs.below.mono HW.out.size)
        clear hbs hrv
        go_wp2_with fail
        refine (sameTexts_same _ L _ _ _ _ hr hr2 hLl).mono ?_
        rintro e w7 ⟨rfl, hb7⟩
        have g7 := g5.trans (hb7.mono g5.size)
        clear hb7 g5 hr hr2
        go_wp2_with fail
        refine (words_any _).mono ?_
        rintro e wB ⟨rfl, hbB⟩
        go_wp2
        go_ret
        exact ⟨rfl, g7.trans (hbB.mono g7.size)⟩

set_option maxRecDepth 100000 in
theorem fnElements_lifted (os : Os) (started : os.Started) (H : Type) (enc : TypeId × Value → H) :
    ReturnsInHanded {} Try.checked os 6 .any (Rows.fnElementsSpec.pre6 enc Try.prog Try.f6 Rows.fnElementsRow.domain false) (Rows.fnElementsSpec.post enc Try.prog Try.f6 false true false false) := by
  refine returnsInHanded_of_change (C := Try.checked) Try.own started (by kernel_rfl) Try.func6
    (ChangeSpec.witness6 (enc := enc) (C := Try.checked) false ⟨#[], #[.slice none 0 0], []⟩ 8 (by kernel_rfl) (by kernel_rfl) (by kernel_rfl) (by kernel_rfl)) ?_
  intro W base args ds gs before hval0 hW hcnd _
  have hval : ∀ (j : Nat) t v, Try.f6.params[j]? = some t → args[j]? = some v → Value.okWide Try.prog W .any base t v := hval0
  have hW' := hW
  obtain ⟨p, q, hA0, hV, rfl, hfz, hnd⟩ := hW
  have hA : DataW.TrodAll enc Try.prog W 0 (fun _ => true) true Try.f6.params.toList args.toList ds p := hA0
  rw [Try.params6] at hA hval
  obtain ⟨v0, vs0, d0, ds0, p0, q0, hargs, rfl, rfl, h0, r0⟩ := trodAll_cons hA
  obtain ⟨rfl, rfl, rfl⟩ := trodAll_nil r0
  obtain rfl : args = #[v0] := by cases args; simp_all
  obtain ⟨rfl, rfl⟩ := trodVars_none hV
  obtain ⟨a0, len0, cap0, rfl⟩ := okWide_slice Try.underlying22 (hval 0 22 v0 rfl rfl)
  have k0 := h0
  have lt0 : ∀ x ∈ p0, x.block < W.heap.size := by obtain ⟨m, hm⟩ := k0; exact DataW.trod_lt m _ _ _ hm
  obtain ⟨z0, w0⟩ : ∃ zs, IsRow .u8 W a0 len0 cap0 zs := by
    obtain ⟨fuel, hf⟩ := h0
    rcases open_ints Try.underlying22 Try.underlying5 (by kernel_rfl) hf with ⟨hcs, _⟩ | ⟨x, l, c, zs, hcs, _, hl, hm, hz, _, hcell, hwz⟩
    · simp [Value.cells] at hcs
      obtain ⟨rfl, rfl, rfl⟩ := hcs
      exact ⟨[], .inl ⟨rfl, rfl, rfl, rfl⟩⟩
    · simp [Value.cells] at hcs
      obtain ⟨rfl, rfl, rfl⟩ := hcs
      exact ⟨zs, .inr ⟨_, rfl, hl, hm, by simpa using hz, hcell, hwz⟩⟩
  clear hA0 hval0
  refine (fnElements_walk a0 len0 cap0 z0 W w0).mono fun e W' ⟨he, bel⟩ => ?_
  subst he
  exact ⟨_, rfl, _, _, _, [], _, [], hW', trodAll_mk1 (shut_bool Try.underlying4 _), (trodAll_cons_mk (Below.trod Try.laidOut (by kernel_rfl) (of_decide_eq_true (by kernel_rfl)) k0 bel lt0) trodAll_mk0), rfl, bel.frame _, fun h => by cases h⟩

/-- THE STATEMENT -/
theorem fnElements_holds : Rows.FnElementsSaid :=
  OpenClaim.holds_of_wide 6 Try.f6 rfl rfl rfl rfl rfl rfl rfl ⟨rfl, rfl, rfl, rfl, rfl⟩ rfl rfl rfl rfl rfl (by kernel_rfl) Try.func6 (by kernel_rfl)
    (of_decide_eq_true (by kernel_rfl)) (by unfold Func.isWrapper; first | (rw [if_pos (by decide +kernel)]; kernel_rfl) | (rw [if_neg (by decide +kernel)]; exact ⟨rfl, rfl⟩))
    (fun os started H enc _ => fnElements_lifted os started H enc)
#print axioms fnElements_holds
end Go.Proofs.Ytpjjgdhcidngfaa
