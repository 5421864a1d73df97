/-
  FnExactShaAdd: at every digest under way and text impl.ShaAdd answers as spec.ShaAdd, writes into no argument and keeps nothing of one; its answer owns its memory, behind another call too. No condition (what is greater than 2^20 is passed by the law itself).
-/
import Derived.Test.YtohdfdbpmmeidabRows
import Derived.Test.YtohdfdbpmmeidabE4
import Derived.Test.YtohdfdbpmmeidabOpenZ
import Derived.Deep.DeepCutAuto
namespace Go.Proofs.Ytohdfdbpmmeidab
set_option linter.unusedVariables false
set_option linter.unusedSimpArgs false
open Go.ChangeShapes Go.WideShapes Go.ChangeAt Go.RowKit
open Go.ChangeMaps (open_string shut_string)
set_option maxHeartbeats 4000000 in
theorem fnExactShaAdd_walk (a : Option Addr) (len cap : Nat) (zs : List Int) (r : ByteArray) (n : Int) (t : ByteArray) (w : World) (hz : IsRow .i64 w a len cap zs) (hr : r.size ≤ maxLen) (hn : (Lit.int .i64 n).wf = true) (ht : t.size ≤ maxLen) :
    Calls Try.prog 8 #[.agg #[.slice a len cap, .string r, .int .i64 n], .string t] w fun e w' => e = .returned (.bool true) ∧ Below w.heap.size w w' := by
  obtain ⟨hx, hl⟩ := argZ_of hz
  have ht' := ht
  unfold maxLen at ht'
  generalize zs.take len = xs at *
  have ha1 := below_a1 w (.cells #[.slice a len cap, .string r, .int .i64 n] 24)
  clear hz
  by_cases hbig : (1048576 : Int) < (t.size : Int)
  · go_enter Try.func8, Try.ntmps8
    go_wp2
    go_ret
    exact ⟨rfl, ha1⟩
  · go_enter Try.func8, Try.ntmps8
    go_wp2_with fail
    refine (szSha_any a len cap r n _ hl hr).mono ?_
    rintro e w1 ⟨rfl, hb1⟩
    by_cases hs : len + r.size ≤ 1048576
    · rw [if_pos hs]
      have hlx : xs.length = len := hx.1
      have hlm : len ≤ 1048576 := by omega
      have hge : ¬ 1048576 - (len : Int) - (r.size : Int) < 0 := by omega
      obtain ⟨ys, rr, nn, hyl, hrl, hyz, hadd⟩ := add_all xs r t n (by omega) (by omega)
      have hrrm : rr.size ≤ maxLen := by unfold maxLen; omega
      have hzz : ∀ (u : Value) (W : World), SlZ W u ys → u = .slice none 0 0 → rr = ⟨#[]⟩ ∧ nn = 0 := by
        intro u W h e
        rcases h with ⟨_, h0⟩ | ⟨b, cp, e2, _⟩
        · exact hyz h0
        · rw [e2] at e; cases e
      have HADD := hideB2 hadd
      have HZZ := hideB2 hzz
      clear hadd hzz hyz
      have A1 := (Blk.new w #[.slice a len cap, .string r, .int .i64 n] 24).later hb1
      have hbw1 := below_then ha1 hb1
      obtain ⟨p0, p1, p2⟩ := A1.c3
      go_wp2_with fail
      refine (toSha_any a len cap xs r n _ (hx.later hbw1) hlm).mono ?_
      rintro e w2 ⟨b2, rfl, hle2, hr2, hb2⟩
      go_wp2_with fail
      refine ((HADD.out b2 len _ hr2 hlx hl).2).mono ?_
      rintro e w3 ⟨vs, rfl, hs3, hf3, hb3⟩
      obtain ⟨oa, ms, cp, rfl⟩ := hs3.form
      have ha3 := below_a1 w3 (.cells #[.slice oa ms cp, .string rr, .int .i64 nn] 27)
      have S3 := Blk.new w3 #[.slice oa ms cp, .string rr, .int .i64 nn] 27
      have A3 := (((A1.later hb2).later hb3).later ha3)
      have hbw3 := below_then (below_then (below_then hbw1 hb2) hb3) ha3
      have hs3' := hs3.later ha3
      clear p0 p1 p2
      obtain ⟨p0, p1, p2⟩ := A3.c3
      go_wp2_with fail
      generalize w3.alloc (.cells #[.slice oa ms cp, .string rr, .int .i64 nn] 27) = W3 at *
      refine (toSha_any a len cap xs r n _ (hx.later hbw3) hlm).mono ?_
      rintro e w4 ⟨b4, rfl, hle4, hr4, hb4⟩
      have ha4 := below_a1 w4 (.cells #[.slice (some ⟨b4, 0, none⟩) len len, .string r, .int .i64 n] 27)
      have X4 := Blk.new w4 #[.slice (some ⟨b4, 0, none⟩) len len, .string r, .int .i64 n] 27
      have S4 := (S3.later hb4).later ha4
      have A4 := (A3.later hb4).later ha4
      have hs4 := (hs3'.later hb4).later ha4
      have hr4' := hr4.keep ha4
      have hbw4 := below_then (below_then hbw3 hb4) ha4
      have hb4lt := hr4.lt
      clear p0 p1 p2
      unfold shaV
      go_wp2_with fail
      generalize w4.alloc (.cells #[.slice (some ⟨b4, 0, none⟩) len len, .string r, .int .i64 n] 27) = W4 at *
      refine ((HADD.out b4 len _ hr4' hlx hl).1).mono ?_
      rintro e w5 ⟨vg, rfl, hg5, hf5, hb5⟩
      obtain ⟨og, mg, cg, rfl⟩ := hg5.form
      have ha5 := below_a1 w5 (.cells #[.slice og mg cg, .string rr, .int .i64 nn] 27)
      have G5 := Blk.new w5 #[.slice og mg cg, .string rr, .int .i64 nn] 27
      have S5 := (S4.later hb5).later ha5
      have A5 := (A4.later hb5).later ha5
      have X5 := (X4.later hb5).later ha5
      have hs5 := (hs4.later hb5).later ha5
      have hg5' := hg5.later ha5
      have hr5 := (hr4'.keep hb5).keep ha5
      have hbw5 := below_then (below_then hbw4 hb5) ha5
      have hglt : ∀ g, own (.slice og mg cg) = some g → g < w5.heap.size := fun g h => hg5.lt h
      obtain ⟨q0, q1, q2⟩ := S5.c3
      go_wp2_with fail
      generalize w5.alloc (.cells #[.slice og mg cg, .string rr, .int .i64 nn] 27) = W5 at *
      refine (eqSha_same _ _ ys rr nn _ hg5' hs5 (by omega) hrrm).mono ?_
      rintro e w6 ⟨rfl, hb6⟩
      clear q0 q1 q2
      have A6 := A5.later hb6
      have X6 := X5.later hb6
      have S6 := S5.later hb6
      have G6 := G5.later hb6
      have hs6 := hs5.later hb6
      have hg6 := hg5'.later hb6
      have hr6 := hr5.keep hb6
      have hbw6 := below_then hbw5 hb6
      obtain ⟨p0, p1, p2⟩ := A6.c3
      obtain ⟨q0, q1, q2⟩ := X6.c3
      have hx6 := hx.later hbw6.drew
      have hxm : xs.length ≤ 1048576 := by rw [hlx]; exact hlm
      go_wp2
      have n3 := S3.lt
      have n4 := ha4.size
      have n5 := hb5.size
      have n4' := hb4.size
      have n0 := A3.lt
      have hxp : ∀ g, own (.slice oa ms cp) = some g → g < w3.heap.size := fun g h => hs3.lt h
      have HX6 := hideB2 X6
      have HLX := hideB2 hlx
      clear hlx
      go_cut [38] (fun c wc => c = .bool false ∧ Below w6.heap.size w6 wc)
      case first =>
        go_region_with (first | (go_at_call 11; refine (toSha_any a len cap xs r n _ ?_ hlm).mono ?_; exact hx6; rintro e w7 ⟨b7, rfl, hle7, hr7, hb7⟩; obtain ⟨t0, t1, t2⟩ := (HX6.out.drew.later hb7).c3; unfold shaV) | (go_at_call 13; refine (eqSha_same _ _ xs r n _ ?_ ?_ hxm hr).mono ?_; exact ((hr6.drewN 1).keep hb7).sl HLX.out len; exact hr7.sl HLX.out len; rintro e w8 ⟨rfl, hb8⟩))
        all_goals
          go_wp2_with fail
          go_meet
          exact ⟨rfl, below_then (below_then (Below.refl _ _).drew hb7) hb8⟩
      case rest =>
        rename_i w8
        obtain ⟨rfl, hb8⟩ := hcut
        have A8 := A6.later hb8
        have X8 := X6.later hb8
        have S8 := S6.later hb8
        have G8 := G6.later hb8
        have hs8 := hs6.later hb8
        have hg8 := hg6.later hb8
        have hr8 := hr6.keep hb8
        have hbw8 := below_then hbw6 hb8
        clear p0 p1 p2 q0 q1 q2
        obtain ⟨q0, q1, q2⟩ := X8.c3
        go_wp2_with fail
        refine (markSha_row b4 len len xs r n _ hr8 HLX.out hlm).mono ?_
        rintro e w9 ⟨rfl, _, hk9⟩
        have A9 := A8.kb hk9 (by omega)
        have S9 := S8.kb hk9 (by omega)
        have G9 := G8.kb hk9 (by omega)
        have hs9 := hs8.kb hk9 (fun g h => by have := hxp g h; omega)
        have hg9 := hg8.kb hk9 (fun g h => by have := hf5 g h; omega)
        have hbw9 : Below w.heap.size w w9 := hbw8.trans (hk9.below (by omega) (Nat.le_of_lt hr8.lt))
        clear q0 q1 q2
        obtain ⟨q0, q1, q2⟩ := G9.c3
        obtain ⟨u0, u1, u2⟩ := S9.c3
        have hkp : ¬ 1 + (len : Int) < 0 := by omega
        go_wp2_with fail
        refine (eqSha_same _ _ ys rr nn _ hg9 hs9 (by omega) hrrm).mono ?_
        rintro e w10 ⟨rfl, hb10⟩
        have A10 := A9.later hb10
        have S10 := S9.later hb10
        have G10 := G9.later hb10
        have hs10 := hs9.later hb10
        have hg10 := hg9.later hb10
        have hbw10 := below_then hbw9 hb10
        clear q0 q1 q2 u0 u1 u2
        obtain ⟨q0, q1, q2⟩ := G10.c3
        go_wp2_with fail
        refine (markSha_v _ ys rr nn _ hg10 (by omega) (HZZ.out _ _ hg10)).mono ?_
        rintro e w11 ⟨rfl, hm11, hk11⟩
        have A11 := A10.kv hk11 (fun h => by have := hf5 _ h; omega)
        have S11 := S10.kv hk11 (fun h => by have := hf5 _ h; omega)
        have G11 := G10.kv hk11 (fun h => by have := hglt _ h; omega)
        have hs11 := hs10.kv hk11 (fun g h h' => by have := hxp g h; have := hf5 g h'; omega)
        have hsz10 := hbw10.size
        have hbw11 : Below w.heap.size w w11 := hbw10.trans (hk11.below (fun g h => by have := hf5 g h; omega) hsz10)
        clear q0 q1 q2
        obtain ⟨q0, q1, q2⟩ := G11.c3
        go_wp2_with fail
        refine (heldSha_v _ ys.length rr nn _ hm11 (by omega) (HZZ.out _ _ hg10)).mono ?_
        rintro e w12 ⟨rfl, hb12⟩
        have A12 := A11.later hb12
        have S12 := S11.later hb12
        have G12 := G11.later hb12
        have hs12 := hs11.later hb12
        have hm12 := hm11.later hb12
        have hbw12 := below_then hbw11 hb12
        clear q0 q1 q2
        obtain ⟨p0, p1, p2⟩ := A12.c3
        have hqp : ¬ 1 + (ys.length : Int) < 0 := by omega
        go_wp2_with fail
        refine (toSha_any a len cap xs r n _ (hx.later hbw12) hlm).mono ?_
        rintro e w13 ⟨b13, rfl, hle13, hr13, hb13⟩
        go_wp2_with fail
        refine ((HADD.out b13 len _ hr13 HLX.out hl).1).mono ?_
        rintro e w14 ⟨vh, rfl, hh14, hf14, hb14⟩
        obtain ⟨oh, mh, ch, rfl⟩ := hh14.form
        have ha14 := below_a1 w14 (.cells #[.slice oh mh ch, .string rr, .int .i64 nn] 27)
        have S14 := ((S12.later hb13).later hb14).later ha14
        have G14 := ((G12.later hb13).later hb14).later ha14
        have hs14 := ((hs12.later hb13).later hb14).later ha14
        have hm14 := ((hm12.later hb13).later hb14).later ha14
        have hh14' := hh14.later ha14
        have hbw14 := below_then (below_then (below_then hbw12 hb13) hb14) ha14
        clear p0 p1 p2
        obtain ⟨u0, u1, u2⟩ := S14.c3
        go_wp2_with fail
        generalize w14.alloc (.cells #[.slice oh mh ch, .string rr, .int .i64 nn] 27) = W14 at *
        refine (eqSha_same _ _ ys rr nn _ hh14' hs14 (by omega) hrrm).mono ?_
        rintro e w15 ⟨rfl, hb15⟩
        clear u0 u1 u2
        obtain ⟨q0, q1, q2⟩ := (G14.later hb15).c3
        go_wp2_with fail
        refine (heldSha_v _ ys.length rr nn _ (hm14.later hb15) (by omega) (HZZ.out _ _ hg10)).mono ?_
        rintro e w16 ⟨rfl, hb16⟩
        go_wp2
        go_ret
        exact ⟨rfl, below_then (below_then hbw14 hb15) hb16⟩
    · rw [if_neg hs]
      go_wp2
      go_ret
      exact ⟨rfl, below_then ha1 hb1⟩

set_option maxRecDepth 100000 in
theorem fnExactShaAdd_lifted (os : Os) (started : os.Started) (H : Type) (enc : TypeId × Value → H) :
    ReturnsInHanded {} Try.checked os 8 .any (Rows.fnExactShaAddSpec.pre6 enc Try.prog Try.f8 Rows.fnExactShaAddRow.domain false) (Rows.fnExactShaAddSpec.post enc Try.prog Try.f8 false true false false) := by
  refine returnsInHanded_of_change (C := Try.checked) Try.own started (by kernel_rfl) Try.func8
    (ChangeSpec.witness6 (enc := enc) (C := Try.checked) false ⟨#[], #[.agg #[.slice none 0 0, .string ByteArray.empty, .int .i64 0], .string ByteArray.empty], []⟩ 8 (by kernel_rfl) (by kernel_rfl) (by kernel_rfl) (by kernel_rfl)) ?_
  intro W base args ds gs before hval0 hW hcnd _
  have hval : ∀ (j : Nat) t v, Try.f8.params[j]? = some t → args[j]? = some v → Value.okWide Try.prog W .any base t v := hval0
  have hW' := hW
  obtain ⟨p, q, hA0, hV, rfl, hfz, hnd⟩ := hW
  have hA : DataW.TrodAll enc Try.prog W 0 (fun _ => true) true Try.f8.params.toList args.toList ds p := hA0
  rw [Try.params8] at hA hval
  obtain ⟨v0, vs0, d0, ds0, p0, q0, hargs, rfl, rfl, h0, r0⟩ := trodAll_cons hA
  obtain ⟨v1, vs1, d1, ds1, p1, q1, rfl, rfl, rfl, h1, r1⟩ := trodAll_cons r0
  obtain ⟨rfl, rfl, rfl⟩ := trodAll_nil r1
  obtain rfl : args = #[v0, v1] := by cases args; simp_all
  obtain ⟨rfl, rfl⟩ := trodVars_none hV
  have k0 := h0
  have lt0 : ∀ x ∈ p0, x.block < W.heap.size := by obtain ⟨m, hm⟩ := k0; exact DataW.trod_lt m _ _ _ hm
  obtain ⟨c0, e0, g0, y0, z0, x0, m0, hv0, _, _, hy0, hz0, hx0⟩ := Joins.open_agg3 Try.underlying24 (by kernel_rfl) (by kernel_rfl) (hval 0 24 v0 rfl rfl) h0
  obtain ⟨a0, len0, cap0, zs0, ec0, w0⟩ : ∃ a len cap zs, c0 = .slice a len cap ∧ IsRow .i64 W a len cap zs := by
    rcases open_ints Try.underlying22 Try.underlying3 (by kernel_rfl) hy0 with ⟨hcs, _⟩ | ⟨x, l, c, zs, hcs, _, hl, hm, hz, _, hcell, hwz⟩
    · simp at hcs
      exact ⟨none, 0, 0, [], hcs, .inl ⟨rfl, rfl, rfl, rfl⟩⟩
    · simp at hcs
      exact ⟨_, _, _, zs, hcs, .inr ⟨_, rfl, hl, hm, by simpa using hz, hcell, hwz⟩⟩
  obtain ⟨s0, es0, _, ws0⟩ := DataW.trod_string Try.underlying9 hz0
  obtain ⟨n0, en0, _, wn0⟩ := DataW.trod_int Try.underlying3 hx0
  simp at es0 en0
  subst es0 en0 ec0
  subst hv0
  obtain ⟨a1, rfl, rfl, rfl, w1⟩ := open_string Try.underlying9 (hval 1 9 v1 rfl rfl) h1
  clear hA0 hval0
  refine (fnExactShaAdd_walk a0 len0 cap0 zs0 s0 n0 a1 W w0 ws0 wn0 w1).mono fun e W' ⟨he, bel⟩ => ?_
  subst he
  exact ⟨_, rfl, _, _, _, [], _, [], hW', trodAll_mk1 (shut_bool Try.underlying4 _), (trodAll_cons_mk (Below.trod Try.laidOut (by kernel_rfl) (of_decide_eq_true (by kernel_rfl)) k0 bel lt0) (trodAll_cons_mk (shut_string Try.underlying9 w1) trodAll_mk0)), rfl, bel.frame _, fun h => by cases h⟩

/-- THE STATEMENT -/
theorem fnExactShaAdd_holds : Rows.FnExactShaAddSaid :=
  OpenClaim.holds_of_wide 8 Try.f8 rfl rfl rfl rfl rfl rfl rfl ⟨rfl, rfl, rfl, rfl, rfl⟩ rfl rfl rfl rfl rfl (by kernel_rfl) Try.func8 (by kernel_rfl)
    (of_decide_eq_true (by kernel_rfl)) (by unfold Func.isWrapper; first | (rw [if_pos (by decide +kernel)]; kernel_rfl) | (rw [if_neg (by decide +kernel)]; exact ⟨rfl, rfl⟩))
    (fun os started H enc _ => fnExactShaAdd_lifted os started H enc)
#print axioms fnExactShaAdd_holds
end Go.Proofs.Ytohdfdbpmmeidab
