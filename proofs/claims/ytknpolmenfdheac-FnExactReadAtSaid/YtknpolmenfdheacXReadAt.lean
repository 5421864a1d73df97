/-
  FnExactReadAt: at every store, number of a segment, place and number impl.ReadAt answers as spec.ReadAt, and writes into no argument. No condition (what is greater than 2^20 is passed by the law itself).
-/
import Derived.Test.YtknpolmenfdheacRows
import Derived.Test.YtknpolmenfdheacG14
import Derived.Test.YtknpolmenfdheacOpenG
import Derived.Deep.DeepCutAuto
namespace Go.Proofs.Ytknpolmenfdheac
set_option linter.unusedVariables false
set_option linter.unusedSimpArgs false
open Go.ChangeShapes Go.WideShapes Go.ChangeAt Go.RowKit
open Go.ChangeMaps (open_string shut_string)
set_option maxHeartbeats 4000000 in
theorem fnExactReadAt_walk (a : Option Addr) (len cap : Nat) (l : List Sg) (c : Int) (s x n : Int) (w : World) (hx : ArgG w a len l) (hl : len ≤ maxLen) (hd : ∀ j, j < len → (sgAt l j).1.size ≤ maxLen) (ws : (Lit.int .i64 s).wf = true) (wx : (Lit.int .i64 x).wf = true) (wn : (Lit.int .i64 n).wf = true) :
    Calls Try.prog 5 #[.agg #[.slice a len cap, .int .i64 c], .int .i64 s, .int .i64 x, .int .i64 n] w fun e w' => e = .returned (.bool true) ∧ Below w.heap.size w w' := by
  have ha1 := below_a1 w (.cells #[.slice a len cap, .int .i64 c] 24)
  go_enter Try.func5, Try.ntmps5
  go_wp2_with fail
  refine (szStore_any a len cap l c _ (hx.later ha1) hl hd).mono ?_
  rintro e w1 ⟨rfl, hb1⟩
  by_cases hs : len + totG l ≤ 1048576
  · rw [if_pos hs]
    have hlx : l.length = len := hx.1
    have hlm : len ≤ 1048576 := by omega
    have htm : totG l ≤ 1099511627776 := by omega
    have hge : ¬ 1048576 - (len : Int) - (totG l : Int) < 0 := by omega
    have A1 := (Blk.new w #[.slice a len cap, .int .i64 c] 24).later hb1
    have hbw1 := below_then ha1 hb1
    obtain ⟨p0, p1⟩ := A1.c2
    have HS := hideB2 (fun (b : Nat) (W : World) (h : SlG W (.slice (some ⟨b, 0, none⟩) len len) l) => sReadAt_any (.slice (some ⟨b, 0, none⟩) len len) l c s x n W h (by omega) htm (bounds_i64 wx) (bounds_i64 wn))
    have HI := hideB2 (fun (b : Nat) (W : World) (h : SlG W (.slice (some ⟨b, 0, none⟩) len len) l) => ReadAt_any (.slice (some ⟨b, 0, none⟩) len len) l c s x n W h (by omega) htm (bounds_i64 wx) (bounds_i64 wn))
    have HLX := hideB2 hlx
    generalize hR : (if readQ l c s x n = true then readB l s x n else ⟨#[]⟩) = R at *
    clear hR
    generalize hQ : readQ l c s x n = Q at *
    clear hQ
    have hdd : (R.toList == R.toList) = true := by simp
    go_wp2_with fail
    refine (toStore_any a len cap l c _ (hx.later hbw1) hlm).mono ?_
    rintro e w2 ⟨b2, rfl, hle2, hr2, hb2⟩
    go_wp2_with fail
    refine (HS.out b2 _ (hr2.sl HLX.out len)).mono ?_
    rintro e w3 ⟨rfl, hb3⟩
    have A3 := (A1.later hb2).later hb3
    have hbw3 := below_then (below_then hbw1 hb2) hb3
    clear p0 p1
    obtain ⟨p0, p1⟩ := A3.c2
    go_wp2_with fail
    refine (toStore_any a len cap l c _ (hx.later hbw3) hlm).mono ?_
    rintro e w4 ⟨b4, rfl, hle4, hr4, hb4⟩
    have ha4 := below_a1 w4 (.cells #[.slice (some ⟨b4, 0, none⟩) len len, .int .i64 c] 28)
    have X4 := Blk.new w4 #[.slice (some ⟨b4, 0, none⟩) len len, .int .i64 c] 28
    have A4 := (A3.later hb4).later ha4
    have hr4' := hr4.keep ha4
    have hbw4 := below_then (below_then hbw3 hb4) ha4
    clear p0 p1
    go_wp2_with fail
    generalize w4.alloc (.cells #[.slice (some ⟨b4, 0, none⟩) len len, .int .i64 c] 28) = W4 at *
    refine (HI.out b4 _ (hr4'.sl HLX.out len)).mono ?_
    rintro e w5 ⟨rfl, hb5⟩
    have A5 := A4.later hb5
    have X5 := X4.later hb5
    have hr5 := hr4'.keep hb5
    have hbw5 := below_then hbw4 hb5
    obtain ⟨p0, p1⟩ := A5.c2
    obtain ⟨q0, q1⟩ := X5.c2
    have hx5 := hx.later hbw5.drew
    have hm5 : l.length ≤ 1048576 := by rw [HLX.out]; exact hlm
    have HX5 := hideB2 X5
    have HR5 := hideB2 hr5
    have HBW := hideB2 hbw5
    clear A1 A3 A4 X4 X5 hr2 hr4 hr4' hr5 hbw1 hbw3 hbw4 hb1 hb2 hb3 hb4 hb5 ha1 ha4 hlx HS HI hle2 hle4 hx hd hbw5 A5
    go_wp2
    go_region_with (first | (go_at_call 8; refine (toStore_any a len cap l c _ ?_ hlm).mono ?_; exact hx5; rintro e w7 ⟨b7, rfl, hle7, hr7, hb7⟩; obtain ⟨t0, t1⟩ := (HX5.out.drew.later hb7).c2) | (go_at_call 10; refine (eqStore_same _ _ l c _ ?_ ?_ hm5).mono ?_; exact ((HR5.out.drewN 1).keep hb7).sl HLX.out len; exact hr7.sl HLX.out len; rintro e w8 ⟨rfl, hb8⟩))
    all_goals
      go_wp2
      go_ret
      exact ⟨rfl, below_then (below_then HBW.out.drew hb7) hb8⟩
  · rw [if_neg hs]
    go_wp2
    go_ret
    exact ⟨rfl, below_then ha1 hb1⟩

set_option maxRecDepth 100000 in
theorem fnExactReadAt_lifted (os : Os) (started : os.Started) (H : Type) (enc : TypeId × Value → H) :
    ReturnsInHanded {} Try.checked os 5 .any (Rows.fnExactReadAtSpec.pre6 enc Try.prog Try.f5 Rows.fnExactReadAtRow.domain false) (Rows.fnExactReadAtSpec.post enc Try.prog Try.f5 false true false false) := by
  refine returnsInHanded_of_change (C := Try.checked) Try.own started (by kernel_rfl) Try.func5
    (ChangeSpec.witness6 (enc := enc) (C := Try.checked) false ⟨#[], #[.agg #[.slice none 0 0, .int .i64 0], .int .i64 0, .int .i64 0, .int .i64 0], []⟩ 8 (by kernel_rfl) (by kernel_rfl) (by kernel_rfl) (by kernel_rfl)) ?_
  intro W base args ds gs before hval0 hW hcnd _
  have hval : ∀ (j : Nat) t v, Try.f5.params[j]? = some t → args[j]? = some v → Value.okWide Try.prog W .any base t v := hval0
  have hW' := hW
  obtain ⟨p, q, hA0, hV, rfl, hfz, hnd⟩ := hW
  have hA : DataW.TrodAll enc Try.prog W 0 (fun _ => true) true Try.f5.params.toList args.toList ds p := hA0
  rw [Try.params5] at hA hval
  obtain ⟨v0, vs0, d0, ds0, p0, q0, hargs, rfl, rfl, h0, r0⟩ := trodAll_cons hA
  obtain ⟨v1, vs1, d1, ds1, p1, q1, rfl, rfl, rfl, h1, r1⟩ := trodAll_cons r0
  obtain ⟨v2, vs2, d2, ds2, p2, q2, rfl, rfl, rfl, h2, r2⟩ := trodAll_cons r1
  obtain ⟨v3, vs3, d3, ds3, p3, q3, rfl, rfl, rfl, h3, r3⟩ := trodAll_cons r2
  obtain ⟨rfl, rfl, rfl⟩ := trodAll_nil r3
  obtain rfl : args = #[v0, v1, v2, v3] := by cases args; simp_all
  obtain ⟨rfl, rfl⟩ := trodVars_none hV
  have k0 := h0
  have lt0 : ∀ x ∈ p0, x.block < W.heap.size := by obtain ⟨m, hm⟩ := k0; exact DataW.trod_lt m _ _ _ hm
  obtain ⟨c0, e0, y0, z0, m0, hv0, _, _, hy0, hz0⟩ := Joins.open_agg2 Try.underlying24 (by kernel_rfl) (by kernel_rfl) (hval 0 24 v0 rfl rfl) h0
  obtain ⟨a0, len0, cap0, l0, ec0, w0, wl0, wd0⟩ := argG_of hy0
  obtain ⟨n0, en0, _, x0⟩ := DataW.trod_int Try.underlying3 hz0
  simp at en0
  subst en0 ec0
  subst hv0
  obtain ⟨a1, rfl, rfl, rfl, w1⟩ := open_int Try.underlying3 (hval 1 3 v1 rfl rfl) h1
  obtain ⟨a2, rfl, rfl, rfl, w2⟩ := open_int Try.underlying3 (hval 2 3 v2 rfl rfl) h2
  obtain ⟨a3, rfl, rfl, rfl, w3⟩ := open_int Try.underlying3 (hval 3 3 v3 rfl rfl) h3
  clear hA0 hval0
  refine (fnExactReadAt_walk a0 len0 cap0 l0 n0 a1 a2 a3 W w0 wl0 wd0 w1 w2 w3).mono fun e W' ⟨he, bel⟩ => ?_
  subst he
  exact ⟨_, rfl, _, _, _, [], _, [], hW', trodAll_mk1 (shut_bool Try.underlying4 _), (trodAll_cons_mk (Below.trod Try.laidOut (by kernel_rfl) (of_decide_eq_true (by kernel_rfl)) k0 bel lt0) (trodAll_cons_mk (shut_int Try.underlying3 w1) (trodAll_cons_mk (shut_int Try.underlying3 w2) (trodAll_cons_mk (shut_int Try.underlying3 w3) trodAll_mk0)))), rfl, bel.frame _, fun h => by cases h⟩

/-- THE STATEMENT -/
theorem fnExactReadAt_holds : Rows.FnExactReadAtSaid :=
  OpenClaim.holds_of_wide 5 Try.f5 rfl rfl rfl rfl rfl rfl rfl ⟨rfl, rfl, rfl, rfl, rfl⟩ rfl rfl rfl rfl rfl (by kernel_rfl) Try.func5 (by kernel_rfl)
    (of_decide_eq_true (by kernel_rfl)) (by unfold Func.isWrapper; first | (rw [if_pos (by decide +kernel)]; kernel_rfl) | (rw [if_neg (by decide +kernel)]; exact ⟨rfl, rfl⟩))
    (fun os started H enc _ => fnExactReadAt_lifted os started H enc)
#print axioms fnExactReadAt_holds
end Go.Proofs.Ytknpolmenfdheac
