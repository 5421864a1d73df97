/-
  FnExactShaEnd: at every digest under way impl.ShaEnd answers as spec.ShaEnd, and writes into no argument. No condition (what is greater than 2^20 in all is passed by the law itself).
-/
import Derived.Test.YtohdfdbpmmeidacRows
import Derived.Test.YtohdfdbpmmeidacE3
import Derived.Test.YtohdfdbpmmeidacD13
import Derived.Test.YtohdfdbpmmeidacD16
import Derived.Test.YtohdfdbpmmeidacOpenZ
namespace Go.Proofs.Ytohdfdbpmmeidac
set_option linter.unusedVariables false
set_option linter.unusedSimpArgs false
open Go.ChangeShapes Go.WideShapes Go.ChangeAt Go.RowKit
open Go.ChangeMaps (open_string shut_string)
theorem shaQ_nat {xs : List Int} {rl : Nat} {n : Int} (h : shaQ xs rl n = true) : ∃ (l : List Nat) (m : Nat), Five l ∧ xs = nz l ∧ n = (m : Int) ∧ m ≤ 999999999999999 ∧ rl = m % 64 := by
  obtain ⟨h1, ⟨h2, h3⟩, h4⟩ := shaQ_iff.1 h
  obtain ⟨l, f, rfl⟩ := fiveZ_nat h1
  obtain ⟨m, rfl⟩ := Int.eq_ofNat_of_zero_le h2
  exact ⟨l, m, f, rfl, rfl, by omega, by omega⟩
/-- What ShaEnd answers. -/
theorem end_all {xs : List Int} {r : ByteArray} {n : Int} : ∃ t : ByteArray, ∀ (b len : Nat) (w : World), RowZ w b xs → xs.length = len → len ≤ maxLen → r.size ≤ maxLen →
    (Calls Try.prog 10 #[shaV b len len r n] w fun e w' => e = .returned (.string t) ∧ Below w.heap.size w w') ∧ (Calls Try.prog 8 #[shaV b len len r n] w fun e w' => e = .returned (.string t) ∧ Below w.heap.size w w') := by
  cases h : shaQ xs r.size n with
  | false => exact ⟨_, fun b len w hr hl hm hs => ⟨ShaEnd_no b len len xs r n w hr hl hm hs h, sShaEnd_no b len len xs r n w hr hl hm hs h⟩⟩
  | true =>
    obtain ⟨l, m, f, rfl, rfl, hm, hs⟩ := shaQ_nat h
    refine ⟨⟨(endS l r.data.toList m).toArray⟩, fun b len w hr hl _ _ => ?_⟩
    have e5 : len = 5 := by rw [← hl, nz_len]; exact f.1
    subst e5
    exact ⟨ShaEnd_any b 5 l r m w hr.n f hs hm, sShaEnd_any b 5 l r m w hr.n f hs hm⟩
set_option maxHeartbeats 2000000 in
theorem fnExactShaEnd_walk (a : Option Addr) (len cap : Nat) (zs : List Int) (r : ByteArray) (n : Int) (w : World) (hz : IsRow .i64 w a len cap zs) (hr : r.size ≤ maxLen) (hn : (Lit.int .i64 n).wf = true) :
    Calls Try.prog 3 #[.agg #[.slice a len cap, .string r, .int .i64 n]] w fun e w' => e = .returned (.bool true) ∧ Below w.heap.size w w' := by
  obtain ⟨hx, hl⟩ := argZ_of hz
  generalize zs.take len = xs at *
  have ha1 := below_a1 w (.cells #[.slice a len cap, .string r, .int .i64 n] 24)
  clear hz
  obtain ⟨tx, hall⟩ := end_all (xs := xs) (r := r) (n := n)
  have HALL := hideB2 hall
  clear hall
  go_enter Try.func3, Try.ntmps3
  go_wp2_with fail
  refine (szSha_any a len cap r n _ hl hr).mono ?_
  rintro e w1 ⟨rfl, hb1⟩
  by_cases hs : len + r.size ≤ 1048576
  · rw [if_pos hs]
    have hlx : xs.length = len := hx.1
    have hlm : len ≤ 1048576 := by omega
    have hge : ¬ 1048576 - (len : Int) - (r.size : Int) < 0 := by omega
    have A1 := (Blk.new w #[.slice a len cap, .string r, .int .i64 n] 24).later hb1
    have hbw1 := below_then ha1 hb1
    obtain ⟨p0, p1, p2⟩ := A1.c3
    go_wp2_with fail
    refine (toSha_any a len cap xs r n _ (hx.later hbw1) hlm).mono ?_
    rintro e w2 ⟨b2, rfl, hle2, hr2, hb2⟩
    go_wp2_with fail
    refine ((HALL.out b2 len _ hr2 hlx hl hr).2).mono ?_
    rintro e w3 ⟨rfl, hb3⟩
    have A3 := (A1.later hb2).later hb3
    have hbw3 := below_then (below_then hbw1 hb2) hb3
    clear p0 p1 p2
    obtain ⟨p0, p1, p2⟩ := A3.c3
    go_wp2_with fail
    refine (toSha_any a len cap xs r n _ (hx.later hbw3) hlm).mono ?_
    rintro e w4 ⟨b4, rfl, hle4, hr4, hb4⟩
    have hbw4 := below_then hbw3 hb4
    have ha4 := below_a1 w4 (.cells #[.slice (some ⟨b4, 0, none⟩) len len, .string r, .int .i64 n] 27)
    have X4 := Blk.new w4 #[.slice (some ⟨b4, 0, none⟩) len len, .string r, .int .i64 n] 27
    clear p0 p1 p2
    unfold shaV
    go_wp2_with fail
    refine ((HALL.out b4 len _ (hr4.keep ha4) hlx hl hr).1).mono ?_
    rintro e w5 ⟨rfl, hb5⟩
    have hbw5 := below_then (below_then hbw4 ha4) hb5
    have A5 := ((A3.later hb4).later ha4).later hb5
    have X5 := X4.later hb5
    obtain ⟨p0, p1, p2⟩ := A5.c3
    obtain ⟨q0, q1, q2⟩ := X5.c3
    have hx5 := hx.later hbw5.drew
    have hr5 := ((hr4.keep ha4).keep hb5)
    have hxm : xs.length ≤ 1048576 := by rw [hlx]; exact hlm
    have HX5 := hideB2 X5
    have HLX := hideB2 hlx
    clear hlx X5 A5 hx
    go_wp2
    go_region_with (first | (go_at_call 9; refine (toSha_any a len cap xs r n _ ?_ hlm).mono ?_; exact hx5; rintro e w6 ⟨b6, rfl, hle6, hr6, hb6⟩; obtain ⟨t0, t1, t2⟩ := (HX5.out.drew.later hb6).c3; unfold shaV) | (go_at_call 11; refine (eqSha_same _ _ xs r n _ ?_ ?_ hxm hr).mono ?_; exact ((hr5.drewN 1).keep hb6).sl HLX.out len; exact hr6.sl HLX.out len; rintro e w7 ⟨rfl, hb7⟩))
    all_goals
      go_wp2
      go_ret
      exact ⟨rfl, below_then (below_then hbw5.drew hb6) hb7⟩
  · rw [if_neg hs]
    go_wp2
    go_ret
    exact ⟨rfl, below_then ha1 hb1⟩

set_option maxRecDepth 100000 in
theorem fnExactShaEnd_lifted (os : Os) (started : os.Started) (H : Type) (enc : TypeId × Value → H) :
    ReturnsInHanded {} Try.checked os 3 .any (Rows.fnExactShaEndSpec.pre6 enc Try.prog Try.f3 Rows.fnExactShaEndRow.domain false) (Rows.fnExactShaEndSpec.post enc Try.prog Try.f3 false true false false) := by
  refine returnsInHanded_of_change (C := Try.checked) Try.own started (by kernel_rfl) Try.func3
    (ChangeSpec.witness6 (enc := enc) (C := Try.checked) false ⟨#[], #[.agg #[.slice none 0 0, .string ByteArray.empty, .int .i64 0]], []⟩ 8 (by kernel_rfl) (by kernel_rfl) (by kernel_rfl) (by kernel_rfl)) ?_
  intro W base args ds gs before hval0 hW hcnd _
  have hval : ∀ (j : Nat) t v, Try.f3.params[j]? = some t → args[j]? = some v → Value.okWide Try.prog W .any base t v := hval0
  have hW' := hW
  obtain ⟨p, q, hA0, hV, rfl, hfz, hnd⟩ := hW
  have hA : DataW.TrodAll enc Try.prog W 0 (fun _ => true) true Try.f3.params.toList args.toList ds p := hA0
  rw [Try.params3] at hA hval
  obtain ⟨v0, vs0, d0, ds0, p0, q0, hargs, rfl, rfl, h0, r0⟩ := trodAll_cons hA
  obtain ⟨rfl, rfl, rfl⟩ := trodAll_nil r0
  obtain rfl : args = #[v0] := by cases args; simp_all
  obtain ⟨rfl, rfl⟩ := trodVars_none hV
  have k0 := h0
  have lt0 : ∀ x ∈ p0, x.block < W.heap.size := by obtain ⟨m, hm⟩ := k0; exact DataW.trod_lt m _ _ _ hm
  obtain ⟨c0, e0, g0, y0, z0, x0, m0, hv0, _, _, hy0, hz0, hx0⟩ := Joins.open_agg3 Try.underlying24 (by kernel_rfl) (by kernel_rfl) (hval 0 24 v0 rfl rfl) h0
  obtain ⟨a0, len0, cap0, zs0, ec0, w0⟩ : ∃ a len cap zs, c0 = .slice a len cap ∧ IsRow .i64 W a len cap zs := by
    rcases open_ints Try.underlying22 Try.underlying3 (by kernel_rfl) hy0 with ⟨hcs, _⟩ | ⟨x, l, c, zs, hcs, _, hl, hm, hz, _, hcell, hwz⟩
    · simp at hcs
      exact ⟨none, 0, 0, [], hcs, .inl ⟨rfl, rfl, rfl, rfl⟩⟩
    · simp at hcs
      exact ⟨_, _, _, zs, hcs, .inr ⟨_, rfl, hl, hm, by simpa using hz, hcell, hwz⟩⟩
  obtain ⟨s0, es0, _, ws0⟩ := DataW.trod_string Try.underlying9 hz0
  obtain ⟨n0, en0, _, wn0⟩ := DataW.trod_int Try.underlying3 hx0
  simp at es0 en0
  subst es0 en0 ec0
  subst hv0
  clear hA0 hval0
  refine (fnExactShaEnd_walk a0 len0 cap0 zs0 s0 n0 W w0 ws0 wn0).mono fun e W' ⟨he, bel⟩ => ?_
  subst he
  exact ⟨_, rfl, _, _, _, [], _, [], hW', trodAll_mk1 (shut_bool Try.underlying4 _), (trodAll_cons_mk (Below.trod Try.laidOut (by kernel_rfl) (of_decide_eq_true (by kernel_rfl)) k0 bel lt0) trodAll_mk0), rfl, bel.frame _, fun h => by cases h⟩

/-- THE STATEMENT -/
theorem fnExactShaEnd_holds : Rows.FnExactShaEndSaid :=
  OpenClaim.holds_of_wide 3 Try.f3 rfl rfl rfl rfl rfl rfl rfl ⟨rfl, rfl, rfl, rfl, rfl⟩ rfl rfl rfl rfl rfl (by kernel_rfl) Try.func3 (by kernel_rfl)
    (of_decide_eq_true (by kernel_rfl)) (by unfold Func.isWrapper; first | (rw [if_pos (by decide +kernel)]; kernel_rfl) | (rw [if_neg (by decide +kernel)]; exact ⟨rfl, rfl⟩))
    (fun os started H enc _ => fnExactShaEnd_lifted os started H enc)
#print axioms fnExactShaEnd_holds
end Go.Proofs.Ytohdfdbpmmeidac
