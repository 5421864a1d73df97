/-
  FnQuotes: what is drawn and quoted is read back whole, and is one element among others; what can't be quoted is told by both alike. No condition.
-/
import Derived.Test.YtpjjgdhcidngfaaWQ
import Derived.Test.YtpjjgdhcidngfaaW7
import Derived.Test.YtpjjgdhcidngfaaW8
import Derived.Test.YtpjjgdhcidngfaaWE2
import Derived.Test.YtpjjgdhcidngfaaWW
import Derived.Test.YtpjjgdhcidngfaaOpenC
namespace Go.Proofs.Ytpjjgdhcidngfaa
set_option linter.unusedVariables false
set_option linter.unusedSimpArgs false
open Go.ChangeShapes Go.WideShapes Go.ChangeAt Go.RowKit
open Go.ChangeMaps (open_string shut_string)

theorem cell_new (w : World) (c : Array Value) (t : TypeId) (j : Nat) (v : Value) (h : c[j]? = some v) : (w.alloc (.cells c t)).cell? ⟨w.heap.size, j, none⟩ = some v := by
  simp only [World.cell?, heap_alloc_new]; exact h
set_option maxHeartbeats 2000000 in
theorem fnQuotes_walk (a0 : Option Addr) (len0 cap0 : Nat) (z0 : List Int) (w : World) (w0 : IsRow .u8 w a0 len0 cap0 z0) :
    Calls Try.prog 5 #[.slice a0 len0 cap0] w fun e w' => e = .returned (.bool true) ∧ Below w.heap.size w w' := by
  have hc := code_of w0
  clear w0
  go_enter Try.func5, Try.ntmps5
  go_wp2_with fail
  refine (DrawQuote_any a0 len0 cap0 _ hc).mono ?_
  rintro e w1 ⟨⟨s, hs1, rfl⟩, hb1⟩
  have ms : s.size ≤ maxLen := by unfold maxLen; omega
  clear hc
  go_wp2_with fail
  refine (Quote_any s _ ms).mono ?_
  rintro e w2 ⟨rfl, hb2⟩
  have g2 := hb1.trans (hb2.mono hb1.size)
  clear hb1 hb2
  go_wp2_with fail
  refine (sQuote_any s _ ms).mono ?_
  rintro e w3 ⟨rfl, hb3⟩
  have g3 := g2.trans (hb3.mono g2.size)
  clear g2 hb3
  cases hok : quoOk s
  · rw [quo_none hok]
    go_wp2_with fail
    refine (words_any _).mono ?_
    rintro e wB ⟨rfl, hbB⟩
    go_wp2
    go_ret
    exact ⟨rfl, g3.trans (hbB.mono g3.size)⟩
  · have hu := unq_quo hok
    have hels : Hid (elsB ((⟨#[120, 44, 32]⟩ ++ quoB s) ++ ⟨#[32, 44, 121]⟩) = [⟨#[120]⟩, quoB s, ⟨#[121]⟩]) := els_quo hok (by omega)
    have hqs := quoB_size_le s
    have hq20 : (quoB s).size ≤ 20 := by omega
    have mq : (quoB s).size ≤ maxLen := by unfold maxLen; omega
    clear hqs hok
    go_wp2_with fail
    refine (Unquote_any (quoB s) _ mq).mono ?_
    rintro e w4 ⟨rfl, hb4⟩
    have g4 := g3.trans (hb4.mono g3.size)
    rw [hu.1, hu.2]
    clear g3 hb4 hu
    generalize quoB s = q at *
    go_wp2_with fail
    refine (Elements_any _ _ ?_).mono ?_
    · have e1 : (ByteArray.mk #[120, 44, 32]).size = 3 := rfl
      have e2 : (ByteArray.mk #[32, 44, 121]).size = 3 := rfl
      rw [ByteArray.size_append, ByteArray.size_append]; unfold maxLen; omega
    rintro e w5 ⟨v, rfl, hbs⟩
    rw [hels.out] at hbs
    clear hels
    have g5 := g4.trans (hbs.below.mono g4.size)
    obtain ⟨a, c, rfl, hr⟩ := hbs.rows
    clear hbs g4
    go_wp2_with fail
    have hal : Below w5.heap.size w5 (w5.alloc (.cells #[.string ⟨#[120]⟩, .string q, .string ⟨#[121]⟩] 9)) := (Below.refl _ _).alloc (Nat.le_refl _) _
    have g6 := g5.trans (hal.mono g5.size)
    refine (sameTexts_same _ [⟨#[120]⟩, q, ⟨#[121]⟩] _ _ _ _ (hr.later hal) (Or.inr ⟨_, rfl, ?_⟩) (by simp)).mono ?_
    · intro j hj
      rcases j with _ | _ | _ | j
      · exact cell_new _ _ _ _ _ rfl
      · exact cell_new _ _ _ _ _ rfl
      · exact cell_new _ _ _ _ _ rfl
      · simp at hj; omega
    rintro e w7 ⟨rfl, hb7⟩
    have g7 := g6.trans (hb7.mono g6.size)
    clear hb7 g6 hal g5 hr
    go_wp2_with fail
    refine (words_any _).mono ?_
    rintro e wB ⟨rfl, hbB⟩
    go_wp2
    go_ret
    exact ⟨rfl, g7.trans (hbB.mono g7.size)⟩

set_option maxRecDepth 100000 in
theorem fnQuotes_lifted (os : Os) (started : os.Started) (H : Type) (enc : TypeId × Value → H) :
    ReturnsInHanded {} Try.checked os 5 .any (Rows.fnQuotesSpec.pre6 enc Try.prog Try.f5 Rows.fnQuotesRow.domain false) (Rows.fnQuotesSpec.post enc Try.prog Try.f5 false true false false) := by
  refine returnsInHanded_of_change (C := Try.checked) Try.own started (by kernel_rfl) Try.func5
    (ChangeSpec.witness6 (enc := enc) (C := Try.checked) false ⟨#[], #[.slice none 0 0], []⟩ 8 (by kernel_rfl) (by kernel_rfl) (by kernel_rfl) (by kernel_rfl)) ?_
  intro W base args ds gs before hval0 hW hcnd _
  have hval : ∀ (j : Nat) t v, Try.f5.params[j]? = some t → args[j]? = some v → Value.okWide Try.prog W .any base t v := hval0
  have hW' := hW
  obtain ⟨p, q, hA0, hV, rfl, hfz, hnd⟩ := hW
  have hA : DataW.TrodAll enc Try.prog W 0 (fun _ => true) true Try.f5.params.toList args.toList ds p := hA0
  rw [Try.params5] at hA hval
  obtain ⟨v0, vs0, d0, ds0, p0, q0, hargs, rfl, rfl, h0, r0⟩ := trodAll_cons hA
  obtain ⟨rfl, rfl, rfl⟩ := trodAll_nil r0
  obtain rfl : args = #[v0] := by cases args; simp_all
  obtain ⟨rfl, rfl⟩ := trodVars_none hV
  obtain ⟨a0, len0, cap0, rfl⟩ := okWide_slice Try.underlying22 (hval 0 22 v0 rfl rfl)
  have k0 := h0
  have lt0 : ∀ x ∈ p0, x.block < W.heap.size := by obtain ⟨m, hm⟩ := k0; exact DataW.trod_lt m _ _ _ hm
  obtain ⟨z0, w0⟩ : ∃ zs, IsRow .u8 W a0 len0 cap0 zs := by
    obtain ⟨fuel, hf⟩ := h0
    rcases open_ints Try.underlying22 Try.underlying5 (by kernel_rfl) hf with ⟨hcs, _⟩ | ⟨x, l, c, zs, hcs, _, hl, hm, hz, _, hcell, hwz⟩
    · simp [Value.cells] at hcs
      obtain ⟨rfl, rfl, rfl⟩ := hcs
      exact ⟨[], .inl ⟨rfl, rfl, rfl, rfl⟩⟩
    · simp [Value.cells] at hcs
      obtain ⟨rfl, rfl, rfl⟩ := hcs
      exact ⟨zs, .inr ⟨_, rfl, hl, hm, by simpa using hz, hcell, hwz⟩⟩
  clear hA0 hval0
  refine (fnQuotes_walk a0 len0 cap0 z0 W w0).mono fun e W' ⟨he, bel⟩ => ?_
  subst he
  exact ⟨_, rfl, _, _, _, [], _, [], hW', trodAll_mk1 (shut_bool Try.underlying4 _), (trodAll_cons_mk (Below.trod Try.laidOut (by kernel_rfl) (of_decide_eq_true (by kernel_rfl)) k0 bel lt0) trodAll_mk0), rfl, bel.frame _, fun h => by cases h⟩

/-- THE STATEMENT -/
theorem fnQuotes_holds : Rows.FnQuotesSaid :=
  OpenClaim.holds_of_wide 5 Try.f5 rfl rfl rfl rfl rfl rfl rfl ⟨rfl, rfl, rfl, rfl, rfl⟩ rfl rfl rfl rfl rfl (by kernel_rfl) Try.func5 (by kernel_rfl)
    (of_decide_eq_true (by kernel_rfl)) (by unfold Func.isWrapper; first | (rw [if_pos (by decide +kernel)]; kernel_rfl) | (rw [if_neg (by decide +kernel)]; exact ⟨rfl, rfl⟩))
    (fun os started H enc _ => fnQuotes_lifted os started H enc)
#print axioms fnQuotes_holds
end Go.Proofs.Ytpjjgdhcidngfaa
