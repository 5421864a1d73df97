/-
  FnExactCompare: at any two lines impl.Compare answers as spec.Compare. Lines whose texts are longer than 2^20 bytes together are passed by the law itself.
-/
import Derived.Test.YtenjbgpndkodmabN6
import Derived.Test.YtenjbgpndkodmabN5
import Derived.Test.YtenjbgpndkodmabOpenX
namespace Go.Proofs.Ytenjbgpndkodmab
set_option linter.unusedVariables false
set_option linter.unusedSimpArgs false
open Go.ChangeShapes Go.WideShapes Go.ChangeAt Go.RowKit
open Go.ChangeMaps (open_string shut_string)
set_option maxRecDepth 100000 in
set_option maxHeartbeats 2000000 in
theorem fnExactCompare_walk (x y : Lx) (w : World) (hx : ZX x) (hy : ZX y) :
    Calls Try.prog 3 #[lxV x, lxV y] w fun e w' => e = .returned (.bool true) ∧ Below w.heap.size w w' := by
  have HS1 := hideB2 (fun W => szLine_any x 1048576 W hx (by omega) (by omega))
  have HS2 := hideB2 (fun (left : Int) W h0 h1 => szLine_any y left W hy h0 h1)
  have HC := hideB2 (fun W => Compare_any x y W)
  have HCS := hideB2 (fun W => sCompare_any x y W)
  clear hx hy
  generalize szX x = z1 at *
  generalize szX y = z2 at *
  generalize cmpX x y = r at *
  have HB2 := hideB2 (below_a2 w (.cells (lxC x) 23) (.cells (lxC y) 23))
  have B1 := (Blk.new w (lxC x) 23).alloc (.cells (lxC y) 23)
  have B2 := Blk.new (w.alloc (.cells (lxC x) 23)) (lxC y) 23
  rw [show (w.alloc (.cells (lxC x) 23)).heap.size = w.heap.size + 1 by simp] at B2
  obtain ⟨ke, ti, si, me, st, la, rv, se, wh, sz⟩ := x
  obtain ⟨yke, yti, ysi, yme, yst, yla, yrv, yse, ywh, ysz⟩ := y
  unfold lxV at *
  unfold lxC at *
  simp only at *
  go_enter Try.func3, Try.ntmps3
  go_wp2_with fail
  generalize (w.alloc (.cells #[.string ke, .int .i64 ti, .int .i64 si, .string me, .int .i64 st, .string la, .bool rv, .int .i64 se, .int .i64 wh, .int .i64 sz] 23)).alloc (.cells #[.string yke, .int .i64 yti, .int .i64 ysi, .string yme, .int .i64 yst, .string yla, .bool yrv, .int .i64 yse, .int .i64 ywh, .int .i64 ysz] 23) = W at *
  refine (HS1.out _).mono ?_
  rintro e1 w1 ⟨rfl, hb1⟩
  have hB1 := B1.later hb1
  have hB2 := B2.later hb1
  have hb1' := below_then HB2.out hb1
  clear HS1 B1 B2 HB2 hb1
  by_cases h1 : (z1 : Int) ≤ 1048576
  · rw [if_pos h1]
    obtain ⟨q0, q1, q2, q3, q4, q5, q6, q7, q8, q9⟩ := hB2.c10
    have HB1 := hideB2 hB1
    have HBB := hideB2 hB2
    clear hB1 hB2
    go_wp2_with fail
    refine (HS2.out _ _ (by omega) (by omega)).mono ?_
    rintro e2 w2 ⟨rfl, hb2⟩
    have hB1 := HB1.out.later hb2
    have hB2 := HBB.out.later hb2
    have HB2' := hideB2 (below_then hb1' hb2)
    clear HB1 HBB hb2 HS2 hb1' q0 q1 q2 q3 q4 q5 q6 q7 q8 q9
    by_cases h2 : (z2 : Int) ≤ 1048576 - z1
    · rw [if_pos h2]
      have HA1 := hideB2 hB1
      have HA2 := hideB2 hB2
      obtain ⟨p0, p1, p2, p3, p4, p5, p6, p7, p8, p9⟩ := hB1.c10
      obtain ⟨q0, q1, q2, q3, q4, q5, q6, q7, q8, q9⟩ := hB2.c10
      have a0 := fun V => grw_some p0 V
      have a1 := fun V => grw_some p1 V
      have a2 := fun V => grw_some p2 V
      have a3 := fun V => grw_some p3 V
      have a4 := fun V => grw_some p4 V
      have a5 := fun V => grw_some p5 V
      have a6 := fun V => grw_some p6 V
      have a7 := fun V => grw_some p7 V
      have a8 := fun V => grw_some p8 V
      have a9 := fun V => grw_some p9 V
      have b0 := fun V => grw_some q0 V
      have b1 := fun V => grw_some q1 V
      have b2 := fun V => grw_some q2 V
      have b3 := fun V => grw_some q3 V
      have b4 := fun V => grw_some q4 V
      have b5 := fun V => grw_some q5 V
      have b6 := fun V => grw_some q6 V
      have b7 := fun V => grw_some q7 V
      have b8 := fun V => grw_some q8 V
      have b9 := fun V => grw_some q9 V
      clear p0 p1 p2 p3 p4 p5 p6 p7 p8 p9 q0 q1 q2 q3 q4 q5 q6 q7 q8 q9 hB1 hB2
      go_wp2_with fail
      refine wp_region_grow ?_ ?_ ?_
      · kernel_rfl
      · kernel_rfl
      · intro hne
        repeat (go_big_quiet_step (first
          | (go_at_call 6; exact grow_call (toLine_fl _ _ _ _ _ _ _ _ _ _ _))
          | (go_at_call 5; exact grow_call (HCS.out _))))
        refine wpQuiet_nil ?_
        rintro _ ⟨V, rfl⟩
        have hB1 := HA1.out.later (grw_below w2 V)
        have hB2 := HA2.out.later (grw_below w2 V)
        have HB3 := hideB2 (below_then HB2'.out (grw_below w2 V))
        clear a0 a1 a2 a3 a4 a5 a6 a7 a8 a9 b0 b1 b2 b3 b4 b5 b6 b7 b8 b9 HA1 HA2 HB2' HCS
        generalize grw w2 V = w3 at *
        obtain ⟨p0, p1, p2, p3, p4, p5, p6, p7, p8, p9⟩ := hB1.c10
        obtain ⟨q0, q1, q2, q3, q4, q5, q6, q7, q8, q9⟩ := hB2.c10
        have a0 := fun V => grw_some p0 V
        have a1 := fun V => grw_some p1 V
        have a2 := fun V => grw_some p2 V
        have a3 := fun V => grw_some p3 V
        have a4 := fun V => grw_some p4 V
        have a5 := fun V => grw_some p5 V
        have a6 := fun V => grw_some p6 V
        have a7 := fun V => grw_some p7 V
        have a8 := fun V => grw_some p8 V
        have a9 := fun V => grw_some p9 V
        have b0 := fun V => grw_some q0 V
        have b1 := fun V => grw_some q1 V
        have b2 := fun V => grw_some q2 V
        have b3 := fun V => grw_some q3 V
        have b4 := fun V => grw_some q4 V
        have b5 := fun V => grw_some q5 V
        have b6 := fun V => grw_some q6 V
        have b7 := fun V => grw_some q7 V
        have b8 := fun V => grw_some q8 V
        have b9 := fun V => grw_some q9 V
        clear p0 p1 p2 p3 p4 p5 p6 p7 p8 p9 q0 q1 q2 q3 q4 q5 q6 q7 q8 q9 hB1 hB2
        go_wp2_with fail
        refine wp_region_grow ?_ ?_ ?_
        · kernel_rfl
        · kernel_rfl
        · intro hne
          repeat (go_big_quiet_step (first
            | (go_at_call 6; exact grow_call (toLine_fl _ _ _ _ _ _ _ _ _ _ _))
            | (go_at_call 7; exact grow_call (HC.out _))))
          refine wpQuiet_nil ?_
          rintro _ ⟨V, rfl⟩
          have HB4 := hideB2 (below_then HB3.out (grw_below w3 V))
          clear a0 a1 a2 a3 a4 a5 a6 a7 a8 a9 b0 b1 b2 b3 b4 b5 b6 b7 b8 b9 HB3 HC
          generalize grw w3 V = w4 at *
          have hr : (r != r) = false := by simp
          go_wp2
          go_ret
          exact ⟨rfl, HB4.out⟩
    · rw [if_neg h2]
      clear hB1 hB2
      go_wp2
      go_ret
      exact ⟨rfl, HB2'.out⟩
  · rw [if_neg h1]
    clear hB1 hB2
    go_wp2
    go_ret
    exact ⟨rfl, hb1'⟩

set_option maxRecDepth 100000 in
theorem fnExactCompare_lifted (os : Os) (started : os.Started) (H : Type) (enc : TypeId × Value → H) :
    ReturnsInHanded {} Try.checked os 3 .any (Rows.fnExactCompareSpec.pre6 enc Try.prog Try.f3 Rows.fnExactCompareRow.domain false) (Rows.fnExactCompareSpec.post enc Try.prog Try.f3 false true false false) := by
  refine returnsInHanded_of_change (C := Try.checked) Try.own started (by kernel_rfl) Try.func3
    (ChangeSpec.witness6 (enc := enc) (C := Try.checked) false ⟨#[], #[.agg #[.string ByteArray.empty, .int .i64 0, .int .i64 0, .string ByteArray.empty, .int .i64 0, .string ByteArray.empty, .bool false, .int .i64 0, .int .i64 0, .int .i64 0], .agg #[.string ByteArray.empty, .int .i64 0, .int .i64 0, .string ByteArray.empty, .int .i64 0, .string ByteArray.empty, .bool false, .int .i64 0, .int .i64 0, .int .i64 0]], []⟩ 8 (by kernel_rfl) (by kernel_rfl) (by kernel_rfl) (by kernel_rfl)) ?_
  intro W base args ds gs before hval0 hW hcnd _
  have hval : ∀ (j : Nat) t v, Try.f3.params[j]? = some t → args[j]? = some v → Value.okWide Try.prog W .any base t v := hval0
  have hW' := hW
  obtain ⟨p, q, hA0, hV, rfl, hfz, hnd⟩ := hW
  have hA : DataW.TrodAll enc Try.prog W 0 (fun _ => true) true Try.f3.params.toList args.toList ds p := hA0
  rw [Try.params3] at hA hval
  obtain ⟨v0, vs0, d0, ds0, p0, q0, hargs, rfl, rfl, h0, r0⟩ := trodAll_cons hA
  obtain ⟨v1, vs1, d1, ds1, p1, q1, rfl, rfl, rfl, h1, r1⟩ := trodAll_cons r0
  obtain ⟨rfl, rfl, rfl⟩ := trodAll_nil r1
  obtain rfl : args = #[v0, v1] := by cases args; simp_all
  obtain ⟨rfl, rfl⟩ := trodVars_none hV
  have k0 := h0
  have lt0 : ∀ x ∈ p0, x.block < W.heap.size := by obtain ⟨m, hm⟩ := k0; exact DataW.trod_lt m _ _ _ hm
  obtain ⟨x0, rfl, w0⟩ := open_line (hval 0 23 v0 rfl rfl) h0
  have k1 := h1
  have lt1 : ∀ x ∈ p1, x.block < W.heap.size := by obtain ⟨m, hm⟩ := k1; exact DataW.trod_lt m _ _ _ hm
  obtain ⟨x1, rfl, w1⟩ := open_line (hval 1 23 v1 rfl rfl) h1
  clear hA0 hval0
  refine (fnExactCompare_walk x0 x1 W w0 w1).mono fun e W' ⟨he, bel⟩ => ?_
  subst he
  exact ⟨_, rfl, _, _, _, [], _, [], hW', trodAll_mk1 (shut_bool Try.underlying4 _), (trodAll_cons_mk (Below.trod Try.laidOut (by kernel_rfl) (of_decide_eq_true (by kernel_rfl)) k0 bel lt0) (trodAll_cons_mk (Below.trod Try.laidOut (by kernel_rfl) (of_decide_eq_true (by kernel_rfl)) k1 bel lt1) trodAll_mk0)), rfl, bel.frame _, fun h => by cases h⟩

/-- THE STATEMENT -/
theorem fnExactCompare_holds : Rows.FnExactCompareSaid :=
  OpenClaim.holds_of_wide 3 Try.f3 rfl rfl rfl rfl rfl rfl rfl ⟨rfl, rfl, rfl, rfl, rfl⟩ rfl rfl rfl rfl rfl (by kernel_rfl) Try.func3 (by kernel_rfl)
    (of_decide_eq_true (by kernel_rfl)) (by unfold Func.isWrapper; first | (rw [if_pos (by decide +kernel)]; kernel_rfl) | (rw [if_neg (by decide +kernel)]; exact ⟨rfl, rfl⟩))
    (fun os started H enc _ => fnExactCompare_lifted os started H enc)
#print axioms fnExactCompare_holds
end Go.Proofs.Ytenjbgpndkodmab
