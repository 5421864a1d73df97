/-
  FnExactShaNew: impl.ShaNew answers as spec.ShaNew; its answer owns its memory, behind another call too. No condition.
-/
import Derived.Test.YtohdfdbpmmeidabRows
import Derived.Test.YtohdfdbpmmeidabE3
import Derived.Test.YtohdfdbpmmeidabD14
import Derived.Test.YtohdfdbpmmeidabOpen
namespace Go.Proofs.Ytohdfdbpmmeidab
set_option linter.unusedVariables false
set_option linter.unusedSimpArgs false
open Go.ChangeShapes Go.WideShapes Go.ChangeAt Go.RowKit
open Go.ChangeMaps (open_string shut_string)
set_option maxHeartbeats 2000000 in
theorem fnExactShaNew_walk (w : World) :
    Calls Try.prog 4 #[] w fun e w' => e = .returned (.bool true) ∧ Below w.heap.size w w' := by
  have hlen : (nz h0L).length = 5 := rfl
  go_enter Try.func4, Try.ntmps4
  go_wp2_with fail
  refine (sShaNew_any _).mono ?_
  rintro e w1 ⟨b1, rfl, hle1, hr1, hb1⟩
  have A1 := Blk.new w1 #[.slice (some ⟨b1, 0, none⟩) 5 5, .string ⟨#[]⟩, .int .i64 0] 27
  have ha1 := below_a1 w1 (.cells #[.slice (some ⟨b1, 0, none⟩) 5 5, .string ⟨#[]⟩, .int .i64 0] 27)
  unfold shaV
  go_wp2_with fail
  refine (ShaNew_any _).mono ?_
  rintro e w2 ⟨b2, rfl, hle2, hr2, hb2⟩
  have A2 := (A1.later hb2).alloc (.cells #[.slice (some ⟨b2, 0, none⟩) 5 5, .string ⟨#[]⟩, .int .i64 0] 27)
  have G2 := Blk.new w2 #[.slice (some ⟨b2, 0, none⟩) 5 5, .string ⟨#[]⟩, .int .i64 0] 27
  have ha2 := below_a1 w2 (.cells #[.slice (some ⟨b2, 0, none⟩) 5 5, .string ⟨#[]⟩, .int .i64 0] 27)
  have hr1' := (hr1.keep (below_then ha1 hb2)).keep ha2
  have hr2' := hr2.keep ha2
  have hB2 := below_then (below_then (below_then hb1 ha1) hb2) ha2
  obtain ⟨p0, p1, p2⟩ := A2.c3
  have hlt12 : b1 ≠ b2 := by have := hr1.lt; have := ha1.size; simp at hle2; omega
  have hw1 : w1.heap.size ≠ b2 := by simp at hle2; omega
  unfold shaV
  go_wp2_with fail
  generalize w2.alloc (.cells #[.slice (some ⟨b2, 0, none⟩) 5 5, .string ⟨#[]⟩, .int .i64 0] 27) = W2 at *
  refine (eqSha_same _ _ (nz h0L) _ _ _ (hr2'.z.sl hlen 5) (hr1'.z.sl hlen 5) (by rw [hlen]; omega) (by unfold maxLen; decide)).mono ?_
  rintro e w3 ⟨rfl, hb3⟩
  obtain ⟨q0, q1, q2⟩ := (G2.later hb3).c3
  clear p0 p1 p2
  go_wp2_with fail
  refine (markSha_row b2 5 5 _ _ _ _ (hr2'.z.keep hb3) hlen (by omega)).mono ?_
  rintro e w4 ⟨rfl, hm4, hk4⟩
  have hG4 := (G2.later hb3).kb hk4 (by have := hr2.lt; omega)
  have hA4 := (A2.later hb3).kb hk4 hw1
  have hs4 := (hr1'.z.keep hb3).kb hk4 hlt12
  have hB4 : Below w.heap.size w w4 := (below_then hB2 hb3).trans (hk4.below (by have := hb1.size; simp at hle2; omega) (Nat.le_of_lt (hr2'.z.keep hb3).lt))
  obtain ⟨q0', q1', q2'⟩ := hG4.c3
  clear q0 q1 q2
  go_wp2_with fail
  refine (heldSha_row b2 5 5 _ _ _ hm4 (by omega)).mono ?_
  rintro e w5 ⟨rfl, hb5⟩
  clear q0' q1' q2'
  go_wp2_with fail
  refine (ShaNew_any _).mono ?_
  rintro e w6 ⟨b6, rfl, hle6, hr6, hb6⟩
  have ha6 := below_a1 w6 (.cells #[.slice (some ⟨b6, 0, none⟩) 5 5, .string ⟨#[]⟩, .int .i64 0] 27)
  have hA6 := ((hA4.later hb5).later hb6).alloc (.cells #[.slice (some ⟨b6, 0, none⟩) 5 5, .string ⟨#[]⟩, .int .i64 0] 27)
  have hG6 := ((hG4.later hb5).later hb6).alloc (.cells #[.slice (some ⟨b6, 0, none⟩) 5 5, .string ⟨#[]⟩, .int .i64 0] 27)
  have hs6 := ((hs4.keep hb5).keep hb6).keep ha6
  have hm6 := ((hm4.keep hb5).keep hb6).keep ha6
  have hr6' := hr6.keep ha6
  have hB6 := below_then (below_then (below_then hB4 hb5) hb6) ha6
  obtain ⟨r0, r1, r2⟩ := hA6.c3
  unfold shaV
  go_wp2_with fail
  generalize w6.alloc (.cells #[.slice (some ⟨b6, 0, none⟩) 5 5, .string ⟨#[]⟩, .int .i64 0] 27) = W6 at *
  refine (eqSha_same _ _ (nz h0L) _ _ _ (hr6'.z.sl hlen 5) (hs6.sl hlen 5) (by rw [hlen]; omega) (by unfold maxLen; decide)).mono ?_
  rintro e w7 ⟨rfl, hb7⟩
  obtain ⟨u0, u1, u2⟩ := (hG6.later hb7).c3
  clear r0 r1 r2
  go_wp2_with fail
  refine (heldSha_row b2 5 5 _ _ _ (hm6.keep hb7) (by omega)).mono ?_
  rintro e w8 ⟨rfl, hb8⟩
  go_wp2
  go_ret
  exact ⟨rfl, below_then (below_then hB6 hb7) hb8⟩

set_option maxRecDepth 100000 in
theorem fnExactShaNew_lifted (os : Os) (started : os.Started) (H : Type) (enc : TypeId × Value → H) :
    ReturnsInHanded {} Try.checked os 4 .any (Rows.fnExactShaNewSpec.pre6 enc Try.prog Try.f4 Rows.fnExactShaNewRow.domain false) (Rows.fnExactShaNewSpec.post enc Try.prog Try.f4 false true false false) := by
  refine returnsInHanded_of_change (C := Try.checked) Try.own started (by kernel_rfl) Try.func4
    (ChangeSpec.witness6 (enc := enc) (C := Try.checked) false ⟨#[], #[], []⟩ 8 (by kernel_rfl) (by kernel_rfl) (by kernel_rfl) (by kernel_rfl)) ?_
  intro W base args ds gs before hval0 hW hcnd _
  have hval : ∀ (j : Nat) t v, Try.f4.params[j]? = some t → args[j]? = some v → Value.okWide Try.prog W .any base t v := hval0
  have hW' := hW
  obtain ⟨p, q, hA0, hV, rfl, hfz, hnd⟩ := hW
  have hA : DataW.TrodAll enc Try.prog W 0 (fun _ => true) true Try.f4.params.toList args.toList ds p := hA0
  rw [Try.params4] at hA hval
  obtain ⟨hargs, rfl, rfl⟩ := trodAll_nil hA
  obtain rfl : args = #[] := by cases args; simp_all
  obtain ⟨rfl, rfl⟩ := trodVars_none hV
  clear hA0 hval0
  simp only [List.append_nil] at hW'
  refine (fnExactShaNew_walk  W ).mono fun e W' ⟨he, bel⟩ => ?_
  subst he
  exact ⟨_, rfl, _, _, _, [], [], [], hW', trodAll_mk1 (shut_bool Try.underlying4 _), trodAll_mk0, rfl, bel.frame _, fun h => by cases h⟩

/-- THE STATEMENT -/
theorem fnExactShaNew_holds : Rows.FnExactShaNewSaid :=
  OpenClaim.holds_of_wide 4 Try.f4 rfl rfl rfl rfl rfl rfl rfl ⟨rfl, rfl, rfl, rfl, rfl⟩ rfl rfl rfl rfl rfl (by kernel_rfl) Try.func4 (by kernel_rfl)
    (of_decide_eq_true (by kernel_rfl)) (by unfold Func.isWrapper; first | (rw [if_pos (by decide +kernel)]; kernel_rfl) | (rw [if_neg (by decide +kernel)]; exact ⟨rfl, rfl⟩))
    (fun os started H enc _ => fnExactShaNew_lifted os started H enc)
#print axioms fnExactShaNew_holds
end Go.Proofs.Ytohdfdbpmmeidab
