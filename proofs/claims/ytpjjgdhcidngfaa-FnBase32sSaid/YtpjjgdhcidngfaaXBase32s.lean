/-
  FnBase32s: bytes come back from their letters, and letters from their bytes. No condition.
-/
import Derived.Test.YtpjjgdhcidngfaaWB
import Derived.Test.YtpjjgdhcidngfaaW16
import Derived.Test.YtpjjgdhcidngfaaM12
import Derived.Test.YtpjjgdhcidngfaaWW
import Derived.Test.YtpjjgdhcidngfaaOpenC
namespace Go.Proofs.Ytpjjgdhcidngfaa
set_option linter.unusedVariables false
set_option linter.unusedSimpArgs false
open Go.ChangeShapes Go.WideShapes Go.ChangeAt Go.RowKit
open Go.ChangeMaps (open_string shut_string)
theorem b32_size {s : ByteArray} (h : s.size ≤ 4000) : (b32B s).size = (8 * s.size + 4) / 5 := by
  rw [b32_small h]
  show (b32L s (nFives s.size)).toArray.size = _
  simp [b32L_len, nFives]
theorem rbB_size (t : ByteArray) : (rbB t).size ≤ t.size := by
  unfold rbB
  split
  · show (out5 t (5 * t.size / 8)).toArray.size ≤ _
    simp [out5_len]; omega
  · exact Nat.zero_le _
set_option maxHeartbeats 2000000 in
theorem fnBase32s_walk (a0 : Option Addr) (len0 cap0 : Nat) (z0 : List Int) (w : World) (w0 : IsRow .u8 w a0 len0 cap0 z0) :
    Calls Try.prog 4 #[.slice a0 len0 cap0] w fun e w' => e = .returned (.bool true) ∧ Below w.heap.size w w' := by
  have hc := code_of w0
  clear w0
  go_enter Try.func4, Try.ntmps4
  go_wp2_with fail
  refine (DrawBase32_any a0 len0 cap0 _ hc).mono ?_
  rintro e w1 ⟨⟨s, hs1, rfl⟩, hb1⟩
  have hc1 := hc.later hb1
  have ms : s.size ≤ maxLen := by unfold maxLen; omega
  clear hc
  go_wp2_with fail
  refine (Base32_any s _ ms).mono ?_
  rintro e w2 ⟨rfl, hb2⟩
  have hc2 := hc1.later hb2
  have g2 := hb1.trans (hb2.mono hb1.size)
  have hz := b32_size (s := s) (by omega)
  have mb : (b32B s).size ≤ maxLen := by unfold maxLen; omega
  have hr := rb_b32 (s := s) (by omega)
  clear hb1 hb2 hc1
  go_wp2_with fail
  refine (ReadBase32_any (b32B s) _ mb).mono ?_
  rintro e w3 ⟨rfl, hb3⟩
  rw [hr.1, hr.2]
  have hc3 := hc2.later hb3
  have g3 := g2.trans (hb3.mono g2.size)
  clear g2 hb3 hc2 hr
  have hnt : (s.toList != s.toList) = false := by simp
  go_wp2_with fail
  refine (Base32_any s _ ms).mono ?_
  rintro e w4 ⟨rfl, hb4⟩
  have hc4 := hc3.later hb4
  have g4 := g3.trans (hb4.mono g3.size)
  have hz2 : ((b32B s).size : Int) = (8 * (s.size : Int) + 4) / 5 := by rw [hz]; omega
  have hz3 : (((b32B s).size : Int) != (8 * (s.size : Int) + 4) / 5) = false := by rw [hz2]; simp
  clear g3 hb4 hc3 hz
  generalize b32B s = q at *
  go_wp2_with fail
  refine (DrawReadBase32_any a0 len0 cap0 _ hc4).mono ?_
  rintro e w5 ⟨⟨t, ht, rfl⟩, hb5⟩
  have g5 := g4.trans (hb5.mono g4.size)
  have mt : t.size ≤ maxLen := by unfold maxLen; omega
  clear g4 hb5 hc4 hz2 hz3 hnt
  go_wp2_with fail
  refine (ReadBase32_any t _ mt).mono ?_
  rintro e w6 ⟨rfl, hb6⟩
  have g6 := g5.trans (hb6.mono g5.size)
  clear g5 hb6
  cases hk : rbOk t
  · go_wp2_with fail
    refine (words_any _).mono ?_
    rintro e wB ⟨rfl, hbB⟩
    go_wp2
    go_ret
    exact ⟨rfl, g6.trans (hbB.mono g6.size)⟩
  · have hd := b32_rb hk
    have hx := rbB_size t
    have mx : (rbB t).size ≤ maxLen := by unfold maxLen; omega
    have hnt : (t.toList != t.toList) = false := by simp
    clear hk hx
    go_wp2_with fail
    refine (Base32_any (rbB t) _ mx).mono ?_
    rintro e w7 ⟨rfl, hb7⟩
    rw [hd]
    have g7 := g6.trans (hb7.mono g6.size)
    clear g6 hb7 hd mx
    go_wp2_with fail
    refine (words_any _).mono ?_
    rintro e wB ⟨rfl, hbB⟩
    go_wp2
    go_ret
    exact ⟨rfl, g7.trans (hbB.mono g7.size)⟩

set_option maxRecDepth 100000 in
theorem fnBase32s_lifted (os : Os) (started : os.Started) (H : Type) (enc : TypeId × Value → H) :
    ReturnsInHanded {} Try.checked os 4 .any (Rows.fnBase32sSpec.pre6 enc Try.prog Try.f4 Rows.fnBase32sRow.domain false) (Rows.fnBase32sSpec.post enc Try.prog Try.f4 false true false false) := by
  refine returnsInHanded_of_change (C := Try.checked) Try.own started (by kernel_rfl) Try.func4
    (ChangeSpec.witness6 (enc := enc) (C := Try.checked) false ⟨#[], #[.slice none 0 0], []⟩ 8 (by kernel_rfl) (by kernel_rfl) (by kernel_rfl) (by kernel_rfl)) ?_
  intro W base args ds gs before hval0 hW hcnd _
  have hval : ∀ (j : Nat) t v, Try.f4.params[j]? = some t → args[j]? = some v → Value.okWide Try.prog W .any base t v := hval0
  have hW' := hW
  obtain ⟨p, q, hA0, hV, rfl, hfz, hnd⟩ := hW
  have hA : DataW.TrodAll enc Try.prog W 0 (fun _ => true) true Try.f4.params.toList args.toList ds p := hA0
  rw [Try.params4] at hA hval
  obtain ⟨v0, vs0, d0, ds0, p0, q0, hargs, rfl, rfl, h0, r0⟩ := trodAll_cons hA
  obtain ⟨rfl, rfl, rfl⟩ := trodAll_nil r0
  obtain rfl : args = #[v0] := by cases args; simp_all
  obtain ⟨rfl, rfl⟩ := trodVars_none hV
  obtain ⟨a0, len0, cap0, rfl⟩ := okWide_slice Try.underlying22 (hval 0 22 v0 rfl rfl)
  have k0 := h0
  have lt0 : ∀ x ∈ p0, x.block < W.heap.size := by obtain ⟨m, hm⟩ := k0; exact DataW.trod_lt m _ _ _ hm
  obtain ⟨z0, w0⟩ : ∃ zs, IsRow .u8 W a0 len0 cap0 zs := by
    obtain ⟨fuel, hf⟩ := h0
    rcases open_ints Try.underlying22 Try.underlying5 (by kernel_rfl) hf with ⟨hcs, _⟩ | ⟨x, l, c, zs, hcs, _, hl, hm, hz, _, hcell, hwz⟩
    · simp [Value.cells] at hcs
      obtain ⟨rfl, rfl, rfl⟩ := hcs
      exact ⟨[], .inl ⟨rfl, rfl, rfl, rfl⟩⟩
    · simp [Value.cells] at hcs
      obtain ⟨rfl, rfl, rfl⟩ := hcs
      exact ⟨zs, .inr ⟨_, rfl, hl, hm, by simpa using hz, hcell, hwz⟩⟩
  clear hA0 hval0
  refine (fnBase32s_walk a0 len0 cap0 z0 W w0).mono fun e W' ⟨he, bel⟩ => ?_
  subst he
  exact ⟨_, rfl, _, _, _, [], _, [], hW', trodAll_mk1 (shut_bool Try.underlying4 _), (trodAll_cons_mk (Below.trod Try.laidOut (by kernel_rfl) (of_decide_eq_true (by kernel_rfl)) k0 bel lt0) trodAll_mk0), rfl, bel.frame _, fun h => by cases h⟩

/-- THE STATEMENT -/
theorem fnBase32s_holds : Rows.FnBase32sSaid :=
  OpenClaim.holds_of_wide 4 Try.f4 rfl rfl rfl rfl rfl rfl rfl ⟨rfl, rfl, rfl, rfl, rfl⟩ rfl rfl rfl rfl rfl (by kernel_rfl) Try.func4 (by kernel_rfl)
    (of_decide_eq_true (by kernel_rfl)) (by unfold Func.isWrapper; first | (rw [if_pos (by decide +kernel)]; kernel_rfl) | (rw [if_neg (by decide +kernel)]; exact ⟨rfl, rfl⟩))
    (fun os started H enc _ => fnBase32s_lifted os started H enc)
#print axioms fnBase32s_holds
end Go.Proofs.Ytpjjgdhcidngfaa
