/-
  FnExactCompress: at every list and text impl.Compress answers as spec.Compress, writes into no argument and keeps nothing of one; its answer owns its memory, behind another call too. No condition (lists and texts above 2^20 are passed by the law itself).
-/
import Derived.Test.YtohdfdbpmmeidabRows
import Derived.Test.YtohdfdbpmmeidabE1
import Derived.Test.YtohdfdbpmmeidabE2
import Derived.Test.YtohdfdbpmmeidabD7
import Derived.Test.YtohdfdbpmmeidabOpenZ
namespace Go.Proofs.Ytohdfdbpmmeidab
set_option linter.unusedVariables false
set_option linter.unusedSimpArgs false
open Go.ChangeShapes Go.WideShapes Go.ChangeAt Go.RowKit
open Go.ChangeMaps (open_string shut_string)
set_option maxHeartbeats 4000000 in
theorem fnExactCompress_walk (a : Option Addr) (len cap : Nat) (zs : List Int) (s : ByteArray) (w : World) (hz : IsRow .i64 w a len cap zs) (hs : s.size ≤ maxLen) :
    Calls Try.prog 7 #[.slice a len cap, .string s] w fun e w' => e = .returned (.bool true) ∧ Below w.heap.size w w' := by
  have hs' := hs
  unfold maxLen at hs'
  obtain ⟨hx, hl⟩ := argZ_of hz
  have hl' := hl
  unfold maxLen at hl'
  generalize zs.take len = xs at *
  clear hz
  by_cases hbig : (1048576 : Int) < (len : Int)
  · go_enter Try.func7, Try.ntmps7
    go_wp2
    go_ret
    exact ⟨rfl, Below.refl _ _⟩
  · by_cases hbig2 : (1048576 : Int) < (s.size : Int)
    · go_enter Try.func7, Try.ntmps7
      go_wp2
      go_ret
      exact ⟨rfl, Below.refl _ _⟩
    · have hlm : len ≤ 1048576 := by omega
      have hlx := hx.1
      have hxm : xs.length ≤ 1048576 := by omega
      have HLX := hideB2 hlx
      clear hlx
      by_cases hq : fiveZ xs = true ∧ s.size = 64
      · obtain ⟨hf, h64⟩ := hq
        obtain ⟨h, h5, rfl⟩ := fiveZ_nat hf
        have e5 : len = 5 := by rw [← HLX.out, nz_len]; exact h5.1
        subst e5
        have hlen : (nz (comp h s.data.toList)).length = 5 := by rw [nz_len]; exact (comp_five _ _).1
        have hlh : (nz h).length = 5 := HLX.out
        go_enter Try.func7, Try.ntmps7
        go_wp2_with fail
        refine (toIntS_any a 5 cap (nz h) _ hx hlm).mono ?_
        rintro e w1 ⟨rfl, hr1, hb1⟩
        go_wp2_with fail
        refine (sCompress_any _ 5 h s _ hr1.n h5 h64).mono ?_
        rintro e w2 ⟨b2, rfl, hle2, hr2, hb2⟩
        have hB2 := below_then hb1 hb2
        go_wp2_with fail
        refine (toIntS_any a 5 cap (nz h) _ (hx.later hB2) hlm).mono ?_
        rintro e w3 ⟨rfl, hr3, hb3⟩
        go_wp2_with fail
        refine (Compress_any _ 5 h s _ hr3.n h5 h64).mono ?_
        rintro e w4 ⟨b4, rfl, hle4, hr4, hb4⟩
        have hB4 := below_then (below_then hB2 hb3) hb4
        have hs4 := ((hr2.z.keep hb3).keep hb4)
        have hx4 := hr3.keep hb4
        generalize hyy : comp h s.data.toList = ys at *
        have HY := hideB2 hyy
        clear hyy
        go_wp2_with fail
        refine (eqIntS_same _ _ (nz ys) _ (hr4.z.sl hlen 5) (hs4.sl hlen 5) (by rw [hlen]; omega)).mono ?_
        rintro e w5 ⟨rfl, m5, rfl⟩
        go_wp2_with fail
        refine (toIntS_any a 5 cap (nz h) _ (hx.later (below_drewN hB4 m5)) hlm).mono ?_
        rintro e w6 ⟨rfl, hr6, hb6⟩
        go_wp2_with fail
        refine (eqIntS_same _ _ (nz h) _ (((hx4.drewN m5).keep hb6).sl hlh 5) (hr6.sl hlh 5) hxm).mono ?_
        rintro e w7 ⟨rfl, m7, rfl⟩
        have hx7 := ((hx4.drewN m5).keep hb6).drewN m7
        have hs7 := ((hs4.drewN m5).keep hb6).drewN m7
        have hg7 := ((hr4.z.drewN m5).keep hb6).drewN m7
        have hB7 := below_drewN (below_then (below_drewN hB4 m5) hb6) m7
        have n23 : b2 < w2.heap.size := hr2.lt
        have n34 : w2.heap.size < w3.heap.size := hr3.lt
        go_wp2_with fail
        refine (markIntS_row w2.heap.size 5 5 _ _ hx7 hlh (by omega)).mono ?_
        rintro e w8 ⟨rfl, hm8, hk8⟩
        have hs8 := hs7.kb hk8 (by omega)
        have hg8 := hg7.kb hk8 (by omega)
        have hB8 : Below w.heap.size w w8 := hB7.trans (hk8.below hB2.size (Nat.le_of_lt hx7.lt))
        go_wp2_with fail
        refine (eqIntS_same _ _ (nz ys) _ (hg8.sl hlen 5) (hs8.sl hlen 5) (by rw [hlen]; omega)).mono ?_
        rintro e w9 ⟨rfl, m9, rfl⟩
        go_wp2_with fail
        refine (markIntS_row b4 5 5 _ _ (hg8.drewN m9) hlen (by omega)).mono ?_
        rintro e w10 ⟨rfl, hm10, hk10⟩
        have hs10 := (hs8.drewN m9).kb hk10 (by omega)
        have hB10 : Below w.heap.size w w10 := (below_drewN hB8 m9).trans (hk10.below (by have := hB2.size; have := hb3.size; omega) (Nat.le_of_lt (hg8.drewN m9).lt))
        go_wp2_with fail
        refine (heldIntS_row b4 5 5 _ hm10 (by omega)).mono ?_
        rintro e w11 ⟨rfl, rfl⟩
        go_wp2_with fail
        refine (toIntS_any a 5 cap (nz h) _ (hx.later hB10) hlm).mono ?_
        rintro e w12 ⟨rfl, hr12, hb12⟩
        go_wp2_with fail
        refine (Compress_any _ 5 h s _ hr12.n h5 h64).mono ?_
        rintro e w13 ⟨b13, rfl, hle13, hr13, hb13⟩
        rw [HY.out] at hr13
        have hs13 := (hs10.keep hb12).keep hb13
        have hm13 := (hm10.keep hb12).keep hb13
        have hB13 := below_then (below_then hB10 hb12) hb13
        go_wp2_with fail
        refine (eqIntS_same _ _ (nz ys) _ (hr13.z.sl hlen 5) (hs13.sl hlen 5) (by rw [hlen]; omega)).mono ?_
        rintro e w14 ⟨rfl, m14, rfl⟩
        go_wp2_with fail
        refine (heldIntS_row b4 5 5 _ (hm13.drewN m14) (by omega)).mono ?_
        rintro e w15 ⟨rfl, rfl⟩
        go_wp2
        go_ret
        exact ⟨rfl, below_drewN hB13 m14⟩
      · have hno : fiveZ xs = false ∨ s.size ≠ 64 := by
          cases h5 : fiveZ xs with
          | false => exact .inl rfl
          | true => exact .inr (fun h => hq ⟨h5, h⟩)
        clear hq
        go_enter Try.func7, Try.ntmps7
        go_wp2_with fail
        refine (toIntS_any a len cap xs _ hx hlm).mono ?_
        rintro e w1 ⟨rfl, hr1, hb1⟩
        go_wp2_with fail
        refine (sCompress_no _ len len xs s _ hr1 HLX.out hl hs hno).mono ?_
        rintro e w2 ⟨rfl, rfl⟩
        go_wp2_with fail
        refine (toIntS_any a len cap xs _ (hx.later hb1) hlm).mono ?_
        rintro e w3 ⟨rfl, hr3, hb3⟩
        go_wp2_with fail
        refine (Compress_no _ len len xs s _ hr3 HLX.out hl hs hno).mono ?_
        rintro e w4 ⟨rfl, hb4⟩
        have hB4 := below_then (below_then hb1 hb3) hb4
        have hx4 := hr3.keep hb4
        go_wp2_with fail
        refine (eqIntS_same _ _ [] _ (.inl ⟨rfl, rfl⟩) (.inl ⟨rfl, rfl⟩) (by simp)).mono ?_
        rintro e w5 ⟨rfl, m5, rfl⟩
        go_wp2_with fail
        refine (toIntS_any a len cap xs _ (hx.later (below_drewN hB4 m5)) hlm).mono ?_
        rintro e w6 ⟨rfl, hr6, hb6⟩
        go_wp2_with fail
        refine (eqIntS_same _ _ xs _ (((hx4.drewN m5).keep hb6).sl HLX.out len) (hr6.sl HLX.out len) hxm).mono ?_
        rintro e w7 ⟨rfl, m7, rfl⟩
        have hx7 := ((hx4.drewN m5).keep hb6).drewN m7
        have hB7 := below_drewN (below_then (below_drewN hB4 m5) hb6) m7
        go_wp2_with fail
        refine (markIntS_row _ len len _ _ hx7 HLX.out hlm).mono ?_
        rintro e w8 ⟨rfl, hm8, hk8⟩
        have hB8 : Below w.heap.size w w8 := hB7.trans (hk8.below hb1.size (Nat.le_of_lt hx7.lt))
        go_wp2_with fail
        refine (eqIntS_same _ _ [] _ (.inl ⟨rfl, rfl⟩) (.inl ⟨rfl, rfl⟩) (by simp)).mono ?_
        rintro e w9 ⟨rfl, m9, rfl⟩
        go_wp2_with fail
        refine (markIntS_nil _).mono ?_
        rintro e w10 ⟨rfl, rfl⟩
        go_wp2_with fail
        refine (heldIntS_nil _).mono ?_
        rintro e w11 ⟨rfl, rfl⟩
        go_wp2_with fail
        refine (toIntS_any a len cap xs _ (hx.later (below_drewN hB8 m9)) hlm).mono ?_
        rintro e w12 ⟨rfl, hr12, hb12⟩
        go_wp2_with fail
        refine (Compress_no _ len len xs s _ hr12 HLX.out hl hs hno).mono ?_
        rintro e w13 ⟨rfl, hb13⟩
        go_wp2_with fail
        refine (eqIntS_same _ _ [] _ (.inl ⟨rfl, rfl⟩) (.inl ⟨rfl, rfl⟩) (by simp)).mono ?_
        rintro e w14 ⟨rfl, m14, rfl⟩
        go_wp2_with fail
        refine (heldIntS_nil _).mono ?_
        rintro e w15 ⟨rfl, rfl⟩
        go_wp2
        go_ret
        exact ⟨rfl, below_drewN (below_then (below_then (below_drewN hB8 m9) hb12) hb13) m14⟩

set_option maxRecDepth 100000 in
theorem fnExactCompress_lifted (os : Os) (started : os.Started) (H : Type) (enc : TypeId × Value → H) :
    ReturnsInHanded {} Try.checked os 7 .any (Rows.fnExactCompressSpec.pre6 enc Try.prog Try.f7 Rows.fnExactCompressRow.domain false) (Rows.fnExactCompressSpec.post enc Try.prog Try.f7 false true false false) := by
  refine returnsInHanded_of_change (C := Try.checked) Try.own started (by kernel_rfl) Try.func7
    (ChangeSpec.witness6 (enc := enc) (C := Try.checked) false ⟨#[], #[.slice none 0 0, .string ByteArray.empty], []⟩ 8 (by kernel_rfl) (by kernel_rfl) (by kernel_rfl) (by kernel_rfl)) ?_
  intro W base args ds gs before hval0 hW hcnd _
  have hval : ∀ (j : Nat) t v, Try.f7.params[j]? = some t → args[j]? = some v → Value.okWide Try.prog W .any base t v := hval0
  have hW' := hW
  obtain ⟨p, q, hA0, hV, rfl, hfz, hnd⟩ := hW
  have hA : DataW.TrodAll enc Try.prog W 0 (fun _ => true) true Try.f7.params.toList args.toList ds p := hA0
  rw [Try.params7] at hA hval
  obtain ⟨v0, vs0, d0, ds0, p0, q0, hargs, rfl, rfl, h0, r0⟩ := trodAll_cons hA
  obtain ⟨v1, vs1, d1, ds1, p1, q1, rfl, rfl, rfl, h1, r1⟩ := trodAll_cons r0
  obtain ⟨rfl, rfl, rfl⟩ := trodAll_nil r1
  obtain rfl : args = #[v0, v1] := by cases args; simp_all
  obtain ⟨rfl, rfl⟩ := trodVars_none hV
  obtain ⟨a0, len0, cap0, rfl⟩ := okWide_slice Try.underlying22 (hval 0 22 v0 rfl rfl)
  have k0 := h0
  have lt0 : ∀ x ∈ p0, x.block < W.heap.size := by obtain ⟨m, hm⟩ := k0; exact DataW.trod_lt m _ _ _ hm
  obtain ⟨z0, w0⟩ : ∃ zs, IsRow .i64 W a0 len0 cap0 zs := by
    obtain ⟨fuel, hf⟩ := h0
    rcases open_ints Try.underlying22 Try.underlying3 (by kernel_rfl) hf with ⟨hcs, _⟩ | ⟨x, l, c, zs, hcs, _, hl, hm, hz, _, hcell, hwz⟩
    · simp [Value.cells] at hcs
      obtain ⟨rfl, rfl, rfl⟩ := hcs
      exact ⟨[], .inl ⟨rfl, rfl, rfl, rfl⟩⟩
    · simp [Value.cells] at hcs
      obtain ⟨rfl, rfl, rfl⟩ := hcs
      exact ⟨zs, .inr ⟨_, rfl, hl, hm, by simpa using hz, hcell, hwz⟩⟩
  obtain ⟨a1, rfl, rfl, rfl, w1⟩ := open_string Try.underlying9 (hval 1 9 v1 rfl rfl) h1
  clear hA0 hval0
  refine (fnExactCompress_walk a0 len0 cap0 z0 a1 W w0 w1).mono fun e W' ⟨he, bel⟩ => ?_
  subst he
  exact ⟨_, rfl, _, _, _, [], _, [], hW', trodAll_mk1 (shut_bool Try.underlying4 _), (trodAll_cons_mk (Below.trod Try.laidOut (by kernel_rfl) (of_decide_eq_true (by kernel_rfl)) k0 bel lt0) (trodAll_cons_mk (shut_string Try.underlying9 w1) trodAll_mk0)), rfl, bel.frame _, fun h => by cases h⟩

/-- THE STATEMENT -/
theorem fnExactCompress_holds : Rows.FnExactCompressSaid :=
  OpenClaim.holds_of_wide 7 Try.f7 rfl rfl rfl rfl rfl rfl rfl ⟨rfl, rfl, rfl, rfl, rfl⟩ rfl rfl rfl rfl rfl (by kernel_rfl) Try.func7 (by kernel_rfl)
    (of_decide_eq_true (by kernel_rfl)) (by unfold Func.isWrapper; first | (rw [if_pos (by decide +kernel)]; kernel_rfl) | (rw [if_neg (by decide +kernel)]; exact ⟨rfl, rfl⟩))
    (fun os started H enc _ => fnExactCompress_lifted os started H enc)
#print axioms fnExactCompress_holds
end Go.Proofs.Ytohdfdbpmmeidab
