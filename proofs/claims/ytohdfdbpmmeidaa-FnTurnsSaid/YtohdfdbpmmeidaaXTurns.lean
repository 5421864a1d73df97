/-
  FnTurns: what is turned left, and then by what lacks to 32, is as it was. No condition.
-/
import Derived.Test.YtohdfdbpmmeidaaRows
import Derived.Test.YtohdfdbpmmeidaaD20
import Derived.Test.YtohdfdbpmmeidaaOpenC
namespace Go.Proofs.Ytohdfdbpmmeidaa
set_option linter.unusedVariables false
set_option linter.unusedSimpArgs false
open Go.ChangeShapes Go.WideShapes Go.ChangeAt Go.RowKit
open Go.ChangeMaps (open_string shut_string)
set_option maxHeartbeats 2000000 in
theorem fnTurns_walk (a0 : Option Addr) (len0 cap0 : Nat) (z0 : List Int) (w : World) (w0 : IsRow .u8 w a0 len0 cap0 z0) :
    Calls Try.prog 5 #[.slice a0 len0 cap0] w fun e w' => e = .returned (.bool true) ∧ Below w.heap.size w w' := by
  have hc := code_of w0
  clear w0
  go_enter Try.func5, Try.ntmps5
  go_wp2_with fail
  refine (DrawTurn_any a0 len0 cap0 _ hc).mono ?_
  rintro e w1 ⟨⟨x, n, hx, hn, rfl⟩, hb1⟩
  clear hc
  by_cases hin : (0 ≤ x ∧ x ≤ 4294967295) ∧ (0 ≤ n ∧ n ≤ 31)
  · obtain ⟨⟨hx0, hx1⟩, hn0, hn1⟩ := hin
    obtain ⟨X, rfl⟩ := Int.eq_ofNat_of_zero_le hx0
    obtain ⟨N, rfl⟩ := Int.eq_ofNat_of_zero_le hn0
    have hX : X < 4294967296 := by omega
    have hN : N ≤ 31 := by omega
    have hr := rotl_lt X N hX
    have hT := turnV_yes X N hX hN
    have hm : -(N : Int) % 32 = (((32 - N) % 32 : Nat) : Int) := by omega
    have hT2 : turnV ((rotl X N : Nat) : Int) (-(N : Int) % 32) = (X : Int) := by
      rw [hm, turnV_yes _ _ hr (by omega), rotl_back X N hX hN]
    clear hm
    have h1 : ¬ (X : Int) < 0 := by omega
    have h2 : ¬ (4294967295 : Int) < (X : Int) := by omega
    have h3 : ¬ (N : Int) < 0 := by omega
    have h4 : ¬ (31 : Int) < (N : Int) := by omega
    clear hx hn hx0 hx1 hn0 hn1
    go_wp2_with fail
    refine (Turn_any (X : Int) (N : Int) _).mono ?_
    rintro e w2 ⟨rfl, rfl⟩
    rw [hT]
    generalize rotl X N = R at *
    go_wp2_with fail
    refine (Turn_any (R : Int) (-(N : Int) % 32) _).mono ?_
    rintro e w3 ⟨rfl, rfl⟩
    rw [hT2]
    go_wp2_with fail
    refine (sums_any _).mono ?_
    rintro e w4 ⟨rfl, hb4⟩
    go_wp2
    go_ret
    exact ⟨rfl, below_then hb1 hb4⟩
  · have hT : turnV x n = -1 := by
      unfold turnV
      rw [if_neg]
      rintro ⟨k1, k2⟩
      exact hin ⟨wordQ_iff.1 k1, within_iff.1 k2⟩
    have hcs : x < 0 ∨ (¬ x < 0 ∧ 4294967295 < x) ∨ (¬ x < 0 ∧ ¬ 4294967295 < x ∧ n < 0) ∨ (¬ x < 0 ∧ ¬ 4294967295 < x ∧ ¬ n < 0 ∧ 31 < n) := by omega
    clear hin
    go_wp2_with fail
    refine (Turn_any x n _).mono ?_
    rintro e w2 ⟨rfl, rfl⟩
    rw [hT]
    rcases hcs with k | ⟨k1, k⟩ | ⟨k1, k2, k⟩ | ⟨k1, k2, k3, k⟩
    all_goals
      go_wp2_with fail
      refine (sums_any _).mono ?_
      rintro e w4 ⟨rfl, hb4⟩
      go_wp2
      go_ret
      exact ⟨rfl, below_then hb1 hb4⟩

set_option maxRecDepth 100000 in
theorem fnTurns_lifted (os : Os) (started : os.Started) (H : Type) (enc : TypeId × Value → H) :
    ReturnsInHanded {} Try.checked os 5 .any (Rows.fnTurnsSpec.pre6 enc Try.prog Try.f5 Rows.fnTurnsRow.domain false) (Rows.fnTurnsSpec.post enc Try.prog Try.f5 false true false false) := by
  refine returnsInHanded_of_change (C := Try.checked) Try.own started (by kernel_rfl) Try.func5
    (ChangeSpec.witness6 (enc := enc) (C := Try.checked) false ⟨#[], #[.slice none 0 0], []⟩ 8 (by kernel_rfl) (by kernel_rfl) (by kernel_rfl) (by kernel_rfl)) ?_
  intro W base args ds gs before hval0 hW hcnd _
  have hval : ∀ (j : Nat) t v, Try.f5.params[j]? = some t → args[j]? = some v → Value.okWide Try.prog W .any base t v := hval0
  have hW' := hW
  obtain ⟨p, q, hA0, hV, rfl, hfz, hnd⟩ := hW
  have hA : DataW.TrodAll enc Try.prog W 0 (fun _ => true) true Try.f5.params.toList args.toList ds p := hA0
  rw [Try.params5] at hA hval
  obtain ⟨v0, vs0, d0, ds0, p0, q0, hargs, rfl, rfl, h0, r0⟩ := trodAll_cons hA
  obtain ⟨rfl, rfl, rfl⟩ := trodAll_nil r0
  obtain rfl : args = #[v0] := by cases args; simp_all
  obtain ⟨rfl, rfl⟩ := trodVars_none hV
  obtain ⟨a0, len0, cap0, rfl⟩ := okWide_slice Try.underlying22 (hval 0 22 v0 rfl rfl)
  have k0 := h0
  have lt0 : ∀ x ∈ p0, x.block < W.heap.size := by obtain ⟨m, hm⟩ := k0; exact DataW.trod_lt m _ _ _ hm
  obtain ⟨z0, w0⟩ : ∃ zs, IsRow .u8 W a0 len0 cap0 zs := by
    obtain ⟨fuel, hf⟩ := h0
    rcases open_ints Try.underlying22 Try.underlying5 (by kernel_rfl) hf with ⟨hcs, _⟩ | ⟨x, l, c, zs, hcs, _, hl, hm, hz, _, hcell, hwz⟩
    · simp [Value.cells] at hcs
      obtain ⟨rfl, rfl, rfl⟩ := hcs
      exact ⟨[], .inl ⟨rfl, rfl, rfl, rfl⟩⟩
    · simp [Value.cells] at hcs
      obtain ⟨rfl, rfl, rfl⟩ := hcs
      exact ⟨zs, .inr ⟨_, rfl, hl, hm, by simpa using hz, hcell, hwz⟩⟩
  clear hA0 hval0
  refine (fnTurns_walk a0 len0 cap0 z0 W w0).mono fun e W' ⟨he, bel⟩ => ?_
  subst he
  exact ⟨_, rfl, _, _, _, [], _, [], hW', trodAll_mk1 (shut_bool Try.underlying4 _), (trodAll_cons_mk (Below.trod Try.laidOut (by kernel_rfl) (of_decide_eq_true (by kernel_rfl)) k0 bel lt0) trodAll_mk0), rfl, bel.frame _, fun h => by cases h⟩

/-- THE STATEMENT -/
theorem fnTurns_holds : Rows.FnTurnsSaid :=
  OpenClaim.holds_of_wide 5 Try.f5 rfl rfl rfl rfl rfl rfl rfl ⟨rfl, rfl, rfl, rfl, rfl⟩ rfl rfl rfl rfl rfl (by kernel_rfl) Try.func5 (by kernel_rfl)
    (of_decide_eq_true (by kernel_rfl)) (by unfold Func.isWrapper; first | (rw [if_pos (by decide +kernel)]; kernel_rfl) | (rw [if_neg (by decide +kernel)]; exact ⟨rfl, rfl⟩))
    (fun os started H enc _ => fnTurns_lifted os started H enc)
#print axioms fnTurns_holds
end Go.Proofs.Ytohdfdbpmmeidaa
