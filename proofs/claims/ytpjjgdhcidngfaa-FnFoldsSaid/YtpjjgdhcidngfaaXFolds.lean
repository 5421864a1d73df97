/-
  FnFolds: whatever the code, what is drawn and folded stays so when folded again, and as long; what differs by letters alone is the same. No condition.
-/
import Derived.Test.YtpjjgdhcidngfaaWD4
import Derived.Test.YtpjjgdhcidngfaaWW
import Derived.Test.YtpjjgdhcidngfaaOpenC
namespace Go.Proofs.Ytpjjgdhcidngfaa
set_option linter.unusedVariables false
set_option linter.unusedSimpArgs false
open Go.ChangeShapes Go.WideShapes Go.ChangeAt Go.RowKit
open Go.ChangeMaps (open_string shut_string)

theorem low8_low8 (b : UInt8) : low8 (low8 b) = low8 b := by
  apply UInt8.toNat_inj.1
  have h1 := low8_toNat (low8 b)
  have h2 := low8_toNat b
  have h3 : lowI (lowI (b.toNat : Int)) = lowI (b.toNat : Int) := by
    unfold lowI
    by_cases h : 65 ≤ (b.toNat : Int) ∧ (b.toNat : Int) ≤ 90
    · rw [if_pos h, if_neg (by omega)]
    · rw [if_neg h, if_neg h]
  rw [h2, h3, ← h2] at h1
  omega
theorem foldB_foldB (s : ByteArray) : foldB (foldB s) = foldB s := by
  apply bytes_ext
  show ((s.data.toList.map low8).map low8) = s.data.toList.map low8
  rw [List.map_map]
  apply List.map_congr_left
  intro b _
  exact low8_low8 b
theorem eqB_comm (a b : ByteArray) : eqB a b = eqB b a := by
  cases h : eqB a b
  · cases h2 : eqB b a
    · rfl
    · rw [eqB_iff.1 h2, eqB_self] at h; cases h
  · rw [eqB_iff.1 h, eqB_self]
set_option maxHeartbeats 2000000 in
theorem fnFolds_walk (a0 : Option Addr) (len0 cap0 : Nat) (z0 : List Int) (w : World) (w0 : IsRow .u8 w a0 len0 cap0 z0) :
    Calls Try.prog 3 #[.slice a0 len0 cap0] w fun e w' => e = .returned (.bool true) ∧ Below w.heap.size w w' := by
  have hc := code_of w0
  clear w0
  go_enter Try.func3, Try.ntmps3
  go_wp2_with fail
  refine (DrawFold_any a0 len0 cap0 _ hc).mono ?_
  rintro e w1 ⟨⟨s, hs1, rfl⟩, hb1⟩
  have hc1 := hc.later hb1
  go_wp2_with fail
  refine (DrawSameFold_any a0 len0 cap0 _ hc1).mono ?_
  rintro e w2 ⟨⟨x, y, hx, hy, rfl⟩, hb2⟩
  have g2 := hb1.trans (hb2.mono hb1.size)
  have ms : s.size ≤ maxLen := by unfold maxLen; omega
  have mx : x.size ≤ maxLen := by unfold maxLen; omega
  have my : y.size ≤ maxLen := by unfold maxLen; omega
  have mf : (foldB s).size ≤ maxLen := by rw [foldB_size]; exact ms
  clear hb1 hb2 hc hc1
  go_wp2_with fail
  refine (Fold_any s _ ms).mono ?_
  rintro e w3 ⟨rfl, hb3⟩
  have g3 := g2.trans (hb3.mono g2.size)
  have hsz : ((((foldB s).size : Nat) : Int) == (s.size : Int)) = true := by rw [foldB_size]; simp
  clear g2 hb3
  go_wp2_with fail
  refine (Fold_any (foldB s) _ mf).mono ?_
  rintro e w4 ⟨rfl, hb4⟩
  have g4 := g3.trans (hb4.mono g3.size)
  rw [foldB_foldB]
  clear g3 hb4
  go_wp2_with fail
  refine (SameFold_any s (foldB s) _ ms mf).mono ?_
  rintro e w5 ⟨rfl, hb5⟩
  have g5 := g4.trans (hb5.mono g4.size)
  rw [foldB_foldB, eqB_self]
  clear g4 hb5
  go_wp2_with fail
  refine (SameFold_any x y _ mx my).mono ?_
  rintro e w6 ⟨rfl, hb6⟩
  have g6 := g5.trans (hb6.mono g5.size)
  clear g5 hb6
  go_wp2_with fail
  refine (SameFold_any y x _ my mx).mono ?_
  rintro e w7 ⟨rfl, hb7⟩
  have g7 := g6.trans (hb7.mono g6.size)
  rw [eqB_comm (foldB y) (foldB x)]
  have hE : Hid (eqB (foldB x) (foldB y) = ((foldB x).toList == (foldB y).toList)) := rfl
  clear g6 hb7
  generalize eqB (foldB x) (foldB y) = r at *
  have hrr : (r == r) = true := by cases r <;> rfl
  go_wp2_with fail
  refine (SameFold_any x y _ mx my).mono ?_
  rintro e w8 ⟨rfl, hb8⟩
  have g8 := g7.trans (hb8.mono g7.size)
  clear g7 hb8
  go_wp2_with fail
  refine (sFold_any x _ mx).mono ?_
  rintro e w9 ⟨rfl, hb9⟩
  have g9 := g8.trans (hb9.mono g8.size)
  clear g8 hb9
  go_wp2_with fail
  refine (sFold_any y _ my).mono ?_
  rintro e wA ⟨rfl, hbA⟩
  have gA := g9.trans (hbA.mono g9.size)
  clear g9 hbA
  have hEE : (eqB (foldB x) (foldB y) == ((foldB x).toList == (foldB y).toList)) = true := by unfold eqB; simp
  go_wp2_with fail
  refine (words_any _).mono ?_
  rintro e wB ⟨rfl, hbB⟩
  go_wp2
  go_ret
  exact ⟨rfl, gA.trans (hbB.mono gA.size)⟩

set_option maxRecDepth 100000 in
theorem fnFolds_lifted (os : Os) (started : os.Started) (H : Type) (enc : TypeId × Value → H) :
    ReturnsInHanded {} Try.checked os 3 .any (Rows.fnFoldsSpec.pre6 enc Try.prog Try.f3 Rows.fnFoldsRow.domain false) (Rows.fnFoldsSpec.post enc Try.prog Try.f3 false true false false) := by
  refine returnsInHanded_of_change (C := Try.checked) Try.own started (by kernel_rfl) Try.func3
    (ChangeSpec.witness6 (enc := enc) (C := Try.checked) false ⟨#[], #[.slice none 0 0], []⟩ 8 (by kernel_rfl) (by kernel_rfl) (by kernel_rfl) (by kernel_rfl)) ?_
  intro W base args ds gs before hval0 hW hcnd _
  have hval : ∀ (j : Nat) t v, Try.f3.params[j]? = some t → args[j]? = some v → Value.okWide Try.prog W .any base t v := hval0
  have hW' := hW
  obtain ⟨p, q, hA0, hV, rfl, hfz, hnd⟩ := hW
  have hA : DataW.TrodAll enc Try.prog W 0 (fun _ => true) true Try.f3.params.toList args.toList ds p := hA0
  rw [Try.params3] at hA hval
  obtain ⟨v0, vs0, d0, ds0, p0, q0, hargs, rfl, rfl, h0, r0⟩ := trodAll_cons hA
  obtain ⟨rfl, rfl, rfl⟩ := trodAll_nil r0
  obtain rfl : args = #[v0] := by cases args; simp_all
  obtain ⟨rfl, rfl⟩ := trodVars_none hV
  obtain ⟨a0, len0, cap0, rfl⟩ := okWide_slice Try.underlying22 (hval 0 22 v0 rfl rfl)
  have k0 := h0
  have lt0 : ∀ x ∈ p0, x.block < W.heap.size := by obtain ⟨m, hm⟩ := k0; exact DataW.trod_lt m _ _ _ hm
  obtain ⟨z0, w0⟩ : ∃ zs, IsRow .u8 W a0 len0 cap0 zs := by
    obtain ⟨fuel, hf⟩ := h0
    rcases open_ints Try.underlying22 Try.underlying5 (by kernel_rfl) hf with ⟨hcs, _⟩ | ⟨x, l, c, zs, hcs, _, hl, hm, hz, _, hcell, hwz⟩
    · simp [Value.cells] at hcs
      obtain ⟨rfl, rfl, rfl⟩ := hcs
      exact ⟨[], .inl ⟨rfl, rfl, rfl, rfl⟩⟩
    · simp [Value.cells] at hcs
      obtain ⟨rfl, rfl, rfl⟩ := hcs
      exact ⟨zs, .inr ⟨_, rfl, hl, hm, by simpa using hz, hcell, hwz⟩⟩
  clear hA0 hval0
  refine (fnFolds_walk a0 len0 cap0 z0 W w0).mono fun e W' ⟨he, bel⟩ => ?_
  subst he
  exact ⟨_, rfl, _, _, _, [], _, [], hW', trodAll_mk1 (shut_bool Try.underlying4 _), (trodAll_cons_mk (Below.trod Try.laidOut (by kernel_rfl) (of_decide_eq_true (by kernel_rfl)) k0 bel lt0) trodAll_mk0), rfl, bel.frame _, fun h => by cases h⟩

/-- THE STATEMENT -/
theorem fnFolds_holds : Rows.FnFoldsSaid :=
  OpenClaim.holds_of_wide 3 Try.f3 rfl rfl rfl rfl rfl rfl rfl ⟨rfl, rfl, rfl, rfl, rfl⟩ rfl rfl rfl rfl rfl (by kernel_rfl) Try.func3 (by kernel_rfl)
    (of_decide_eq_true (by kernel_rfl)) (by unfold Func.isWrapper; first | (rw [if_pos (by decide +kernel)]; kernel_rfl) | (rw [if_neg (by decide +kernel)]; exact ⟨rfl, rfl⟩))
    (fun os started H enc _ => fnFolds_lifted os started H enc)
#print axioms fnFolds_holds
end Go.Proofs.Ytpjjgdhcidngfaa
