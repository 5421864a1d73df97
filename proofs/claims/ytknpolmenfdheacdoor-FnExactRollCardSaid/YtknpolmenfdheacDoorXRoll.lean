/-
  FnExactRoll: at every store impl.Roll answers as spec.Roll, writes into no argument and keeps nothing of one; its answer owns its memory, behind another call too. No condition (what is greater than 2^20 is passed by the law itself); what the library's type of errors holds is laid by the program's own text (the card).
-/
import Derived.Test.YtknpolmenfdheacDoorRows
import Derived.Test.YtknpolmenfdheacDoorTie
import Derived.Test.YtknpolmenfdheacDoorCards
import Derived.Test.YtknpolmenfdheacDoorG15
import Derived.Test.YtknpolmenfdheacDoorG16
import Derived.Test.YtknpolmenfdheacDoorG18
import Derived.Test.YtknpolmenfdheacDoorOpenG
import Derived.Test.YtknpolmenfdheacDoorOpenE
import Derived.Deep.DeepCutAuto
namespace Go.Proofs.YtknpolmenfdheacDoor
set_option linter.unusedVariables false
set_option linter.unusedSimpArgs false
open Go.ChangeShapes Go.WideShapes Go.ChangeAt Go.RowKit
open Go.ChangeMaps (open_string shut_string)
set_option maxRecDepth 10000 in
set_option maxHeartbeats 8000000 in
theorem fnExactRoll_walk (a : Option Addr) (len cap : Nat) (l : List Sg) (c : Int) (w : World) (hx : ArgG w a len l) (hl : len ≤ maxLen) (hd : ∀ j, j < len → (sgAt l j).1.size ≤ maxLen) (hE : EG w) :
    Calls Tryd.prog 3 #[.agg #[.slice a len cap, .int .i64 c]] w fun e w' => e = .returned (.bool true) ∧ Below w.heap.size w w' := by
  have ha1 := below_a1 w (.cells #[.slice a len cap, .int .i64 c] 24)
  go_enter Tryd.func3, Tryd.ntmps3
  go_wp2_with fail
  refine (szStore_any a len cap l c _ (hx.later ha1) hl hd).mono ?_
  rintro e w1 ⟨rfl, hb1⟩
  by_cases hs : len + totG l ≤ 1048576
  · rw [if_pos hs]
    have hlx : l.length = len := hx.1
    have hlm : len ≤ 1048576 := by omega
    have htm : totG l ≤ 1099511627776 := by omega
    have hge : ¬ 1048576 - (len : Int) - (totG l : Int) < 0 := by omega
    have hLm : (outL (rollR l c).1).length ≤ 1048576 := by exact rollR_len
    generalize hL : outL (rollR l c).1 = L at *
    generalize hC : outC (rollR l c).1 c = C at *
    generalize hD : (rollR l c).2 = D at *
    have HS := hideB2 (show ∀ (b : Nat) (W : World) (h : SlG W (.slice (some ⟨b, 0, none⟩) len len) l), Calls Tryd.prog 6 #[.agg #[.slice (some ⟨b, 0, none⟩) len len, .int .i64 c]] W (fun e w' => ∃ s, e = .returned (.tuple #[.agg #[s, .int .i64 C], .int .i64 D]) ∧ Ans W w' s L ∧ Below W.heap.size W w') from fun b W h => by
      refine (sRoll_any _ l c W h (by omega) htm).mono ?_
      rintro e w' ⟨r, rfl, ho, hb⟩
      obtain ⟨s, rfl, ha⟩ := ho.ans
      rw [hL] at ha
      rw [hC, hD]
      exact ⟨s, rfl, ha, hb⟩)
    have HI := hideB2 (show ∀ (b : Nat) (W : World) (hE : EG W) (h : SlG W (.slice (some ⟨b, 0, none⟩) len len) l), Calls Tryd.prog 8 #[.agg #[.slice (some ⟨b, 0, none⟩) len len, .int .i64 c]] W (fun e w' => ∃ s, e = .returned (.tuple #[.agg #[s, .int .i64 C], .int .i64 D]) ∧ Ans W w' s L ∧ Below W.heap.size W w') from fun b W hE h => by
      refine (Roll_any _ l c W hE h (by omega) htm).mono ?_
      rintro e w' ⟨r, rfl, ho, hb⟩
      obtain ⟨s, rfl, ha⟩ := ho.ans
      rw [hL] at ha
      rw [hC, hD]
      exact ⟨s, rfl, ha, hb⟩)
    have A1 := (Blk.new w #[.slice a len cap, .int .i64 c] 24).later hb1
    have hbw1 := below_then ha1 hb1
    obtain ⟨p0, p1⟩ := A1.c2
    have HLX := hideB2 hlx
    clear hlx hL hC hD
    go_wp2_with fail
    refine (toStore_any a len cap l c _ (hx.later hbw1) hlm).mono ?_
    rintro e w2 ⟨b2, rfl, hle2, hr2, hb2⟩
    go_wp2_with fail
    refine (HS.out b2 _ (hr2.sl HLX.out len)).mono ?_
    rintro e w3 ⟨vs, rfl, ⟨hs3, hf3⟩, hb3⟩
    obtain ⟨oa, cp, rfl⟩ := hs3.form
    have ha3 := below_a1 w3 (.cells #[.slice oa L.length cp, .int .i64 C] 28)
    have S3 := Blk.new w3 #[.slice oa L.length cp, .int .i64 C] 28
    have A3 := ((A1.later hb2).later hb3).later ha3
    have hbw3 := below_then (below_then (below_then hbw1 hb2) hb3) ha3
    have hs3' := hs3.later ha3
    have hxp : ∀ g, (Value.slice oa L.length cp).ownBlock = some g → g < w3.heap.size := fun g h => hs3.own_lt h
    clear p0 p1
    obtain ⟨p0, p1⟩ := A3.c2
    go_wp2_with fail
    generalize w3.alloc (.cells #[.slice oa L.length cp, .int .i64 C] 28) = W3 at *
    refine (toStore_any a len cap l c _ (hx.later hbw3) hlm).mono ?_
    rintro e w4 ⟨b4, rfl, hle4, hr4, hb4⟩
    have ha4 := below_a1 w4 (.cells #[.slice (some ⟨b4, 0, none⟩) len len, .int .i64 c] 28)
    have X4 := Blk.new w4 #[.slice (some ⟨b4, 0, none⟩) len len, .int .i64 c] 28
    have S4 := (S3.later hb4).later ha4
    have A4 := (A3.later hb4).later ha4
    have hs4 := (hs3'.later hb4).later ha4
    have hr4' := hr4.keep ha4
    have hbw4 := below_then (below_then hbw3 hb4) ha4
    have hb4lt := hr4.lt
    clear p0 p1
    go_wp2_with fail
    generalize w4.alloc (.cells #[.slice (some ⟨b4, 0, none⟩) len len, .int .i64 c] 28) = W4 at *
    refine (HI.out b4 _ (hE.later hbw4) (hr4'.sl HLX.out len)).mono ?_
    rintro e w5 ⟨vg, rfl, ⟨hg5, hf5⟩, hb5⟩
    obtain ⟨og, cg, rfl⟩ := hg5.form
    have ha5 := below_a1 w5 (.cells #[.slice og L.length cg, .int .i64 C] 28)
    have G5 := Blk.new w5 #[.slice og L.length cg, .int .i64 C] 28
    have S5 := (S4.later hb5).later ha5
    have A5 := (A4.later hb5).later ha5
    have X5 := (X4.later hb5).later ha5
    have hs5 := (hs4.later hb5).later ha5
    have hg5' := hg5.later ha5
    have hr5 := (hr4'.keep hb5).keep ha5
    have hbw5 := below_then (below_then hbw4 hb5) ha5
    have hglt : ∀ g, (Value.slice og L.length cg).ownBlock = some g → g < w5.heap.size := fun g h => hg5.own_lt h
    obtain ⟨q0, q1⟩ := S5.c2
    go_wp2_with fail
    generalize w5.alloc (.cells #[.slice og L.length cg, .int .i64 C] 28) = W5 at *
    refine (eqStore_same _ _ L C _ hg5' hs5 hLm).mono ?_
    rintro e w6 ⟨rfl, hb6⟩
    clear q0 q1
    have A6 := A5.later hb6
    have X6 := X5.later hb6
    have S6 := S5.later hb6
    have G6 := G5.later hb6
    have hs6 := hs5.later hb6
    have hg6 := hg5'.later hb6
    have hr6 := hr5.keep hb6
    have hbw6 := below_then hbw5 hb6
    obtain ⟨p0, p1⟩ := A6.c2
    obtain ⟨q0, q1⟩ := X6.c2
    have hx6 := hx.later hbw6.drew
    have hxm : l.length ≤ 1048576 := by rw [HLX.out]; exact hlm
    have n3 := S3.lt
    have n4 := ha4.size
    have n5 := hb5.size
    have n4' := hb4.size
    have n0 := A3.lt
    have HX6 := hideB2 X6
    go_wp2
    go_cut [45] (fun c wc => c = .bool false ∧ Below w6.heap.size w6 wc)
    case first =>
      go_region_with (first | (go_at_call 7; refine (toStore_any a len cap l c _ ?_ hlm).mono ?_; exact hx6; rintro e w7 ⟨b7, rfl, hle7, hr7, hb7⟩; obtain ⟨t0, t1⟩ := (HX6.out.drew.later hb7).c2) | (go_at_call 9; refine (eqStore_same _ _ l c _ ?_ ?_ hxm).mono ?_; exact ((hr6.drewN 1).keep hb7).sl HLX.out len; exact hr7.sl HLX.out len; rintro e w8 ⟨rfl, hb8⟩))
      all_goals
        go_wp2_with fail
        go_meet
        exact ⟨rfl, below_then (below_then (Below.refl _ _).drew hb7) hb8⟩
    case rest =>
      rename_i w8
      obtain ⟨rfl, hb8⟩ := hcut
      have A8 := A6.later hb8
      have X8 := X6.later hb8
      have S8 := S6.later hb8
      have G8 := G6.later hb8
      have hs8 := hs6.later hb8
      have hg8 := hg6.later hb8
      have hr8 := hr6.keep hb8
      have hbw8 := below_then hbw6 hb8
      clear p0 p1 q0 q1
      obtain ⟨q0, q1⟩ := X8.c2
      go_wp2_with fail
      refine (markStore_any _ l c _ (hr8.sl HLX.out len) hxm).mono ?_
      rintro e w9 ⟨rfl, _, hk9'⟩
      have hk9 : World.grownBy _ w9 (some b4) := hk9'
      clear hk9'
      rw [HLX.out]
      have A9 := A8.gb hk9 (fun h => by injection h with h; omega)
      have S9 := S8.gb hk9 (fun h => by injection h with h; omega)
      have G9 := G8.gb hk9 (fun h => by injection h with h; omega)
      have hs9 := hs8.gb hk9 (fun g h h' => by have := hxp g h; injection h' with h'; omega)
      have hg9 := hg8.gb hk9 (fun g h h' => by have := hf5 g h; injection h' with h'; omega)
      have hbw9 : Below w.heap.size w w9 := grown_below hbw8 hk9 (fun g h => by injection h with h; omega) hbw8.size
      clear q0 q1
      obtain ⟨q0, q1⟩ := G9.c2
      obtain ⟨u0, u1⟩ := S9.c2
      have hkp : ¬ 1 + 2 * (len : Int) < 0 := by omega
      go_wp2_with fail
      refine (eqStore_same _ _ L C _ hg9 hs9 hLm).mono ?_
      rintro e w10 ⟨rfl, hb10⟩
      have A10 := A9.later hb10
      have S10 := S9.later hb10
      have G10 := G9.later hb10
      have hs10 := hs9.later hb10
      have hg10 := hg9.later hb10
      have hbw10 := below_then hbw9 hb10
      clear q0 q1 u0 u1
      obtain ⟨q0, q1⟩ := G10.c2
      go_wp2_with fail
      refine (markStore_any _ L C _ hg10 hLm).mono ?_
      rintro e w11 ⟨rfl, hm11, hk11⟩
      have A11 := A10.gb hk11 (fun h => by have := hf5 _ h; omega)
      have S11 := S10.gb hk11 (fun h => by have := hf5 _ h; omega)
      have G11 := G10.gb hk11 (fun h => by have := hglt _ h; omega)
      have hs11 := hs10.gb hk11 (fun g h h' => by have := hxp g h; have := hf5 g h'; omega)
      have hsz10 := hbw10.size
      have hbw11 : Below w.heap.size w w11 := grown_below hbw10 hk11 (fun g h => by have := hf5 g h; omega) hsz10
      clear q0 q1
      obtain ⟨q0, q1⟩ := G11.c2
      go_wp2_with fail
      refine (heldStore_any _ L.length C _ hm11 hLm).mono ?_
      rintro e w12 ⟨rfl, hb12⟩
      have A12 := A11.later hb12
      have S12 := S11.later hb12
      have G12 := G11.later hb12
      have hs12 := hs11.later hb12
      have hm12 := hm11.later hb12
      have hbw12 := below_then hbw11 hb12
      clear q0 q1
      obtain ⟨p0, p1⟩ := A12.c2
      have hqp : ¬ 1 + 2 * (L.length : Int) < 0 := by omega
      go_wp2_with fail
      refine (toStore_any a len cap l c _ (hx.later hbw12) hlm).mono ?_
      rintro e w13 ⟨b13, rfl, hle13, hr13, hb13⟩
      go_wp2_with fail
      refine (HI.out b13 _ (hE.later (below_then hbw12 hb13)) (hr13.sl HLX.out len)).mono ?_
      rintro e w14 ⟨vh, rfl, ⟨hh14, hf14⟩, hb14⟩
      obtain ⟨oh, ch, rfl⟩ := hh14.form
      have ha14 := below_a1 w14 (.cells #[.slice oh L.length ch, .int .i64 C] 28)
      have S14 := ((S12.later hb13).later hb14).later ha14
      have G14 := ((G12.later hb13).later hb14).later ha14
      have hs14 := ((hs12.later hb13).later hb14).later ha14
      have hm14 := ((hm12.later hb13).later hb14).later ha14
      have hh14' := hh14.later ha14
      have hbw14 := below_then (below_then (below_then hbw12 hb13) hb14) ha14
      clear p0 p1
      obtain ⟨u0, u1⟩ := S14.c2
      go_wp2_with fail
      generalize w14.alloc (.cells #[.slice oh L.length ch, .int .i64 C] 28) = W14 at *
      refine (eqStore_same _ _ L C _ hh14' hs14 hLm).mono ?_
      rintro e w15 ⟨rfl, hb15⟩
      clear u0 u1
      obtain ⟨q0, q1⟩ := (G14.later hb15).c2
      go_wp2_with fail
      refine (heldStore_any _ L.length C _ (hm14.later hb15) hLm).mono ?_
      rintro e w16 ⟨rfl, hb16⟩
      go_wp2
      go_ret
      exact ⟨rfl, below_then (below_then hbw14 hb15) hb16⟩
  · rw [if_neg hs]
    go_wp2
    go_ret
    exact ⟨rfl, below_then ha1 hb1⟩

theorem fnExactRoll_tabs {W : World} (h : laidMetH Tryd.prog Rows.fnExactRollRow.laid W) : EG W := eg_of_laid h
/-- A world that meets the condition: the settled one, the listed tables laid. -/
theorem fnExactRoll_laid_met (os : Os) (args : Array Value) : laidMetH Tryd.prog Rows.fnExactRollRow.laid (({ (World.holding Tryd.prog os ⟨#[], #[], []⟩) with heap := ((World.holding Tryd.prog os ⟨#[], #[], []⟩).heap.modify 0 (laidRow #[.iface 82 (.agg #[.pointer (some ⟨1, 44, none⟩)])])) } : World).forCall (fun _ _ => 0) ⟨#[], args, []⟩).memory :=
  laidMetH_of_parts (laidMet_nil _ _) (by kernel_rfl)
set_option maxRecDepth 100000 in
theorem fnExactRoll_lifted (os : Os) (started : os.Started) (H : Type) (enc : TypeId × Value → H) :
    ReturnsInHanded {} Tryd.checked os 3 .any (fun w args => (Rows.fnExactRollSpec.pre enc Tryd.prog Tryd.f3 [] false w args ∧ laidMetH Tryd.prog Rows.fnExactRollRow.laid w) ∧ sizedMet enc Tryd.prog Tryd.f3 (OpenSpec.ofChange Rows.fnExactRollSpec) false w args)
      (Rows.fnExactRollSpec.post enc Tryd.prog Tryd.f3 false true false false) := by
  refine returnsInHanded_of_change_and (C := Tryd.checked) (X := fun w _ => laidMetH Tryd.prog Rows.fnExactRollRow.laid w) (fun _ _ _ hh h => h.of_heap hh) Tryd.own started (by kernel_rfl) Tryd.func3
    (ChangeSpec.witness_at (enc := enc) (C := Tryd.checked) (os := os) (X := fun w _ => laidMetH Tryd.prog Rows.fnExactRollRow.laid w) false ({ (World.holding Tryd.prog os ⟨#[], #[], []⟩) with heap := ((World.holding Tryd.prog os ⟨#[], #[], []⟩).heap.modify 0 (laidRow #[.iface 82 (.agg #[.pointer (some ⟨1, 44, none⟩)])])) } : World) #[.agg #[.slice none 0 0, .int .i64 0]] 8 rfl (by kernel_rfl) (by kernel_rfl) (by kernel_rfl) (by kernel_rfl) (by kernel_rfl) (fnExactRoll_laid_met os _)) ?_
  intro W base args ds gs before hval0 hW _ _ hL _
  have hval : ∀ (j : Nat) t v, Tryd.f3.params[j]? = some t → args[j]? = some v → Value.okWide Tryd.prog W .any base t v := hval0
  have hW' := hW
  obtain ⟨p, q, hA0, hV, rfl, hfz, hnd⟩ := hW
  have hA : DataW.TrodAll enc Tryd.prog W 0 (fun _ => true) true Tryd.f3.params.toList args.toList ds p := hA0
  rw [Tryd.params3] at hA hval
  obtain ⟨v0, vs0, d0, ds0, p0, q0, hargs, rfl, rfl, h0, r0⟩ := trodAll_cons hA
  obtain ⟨rfl, rfl, rfl⟩ := trodAll_nil r0
  obtain rfl : args = #[v0] := by cases args; simp_all
  obtain ⟨rfl, rfl⟩ := trodVars_none hV
  have k0 := h0
  have lt0 : ∀ x ∈ p0, x.block < W.heap.size := by obtain ⟨m, hm⟩ := k0; exact DataW.trod_lt m _ _ _ hm
  obtain ⟨c0, e0, y0, z0, m0, hv0, _, _, hy0, hz0⟩ := Joins.open_agg2 Tryd.underlying24 (by kernel_rfl) (by kernel_rfl) (hval 0 24 v0 rfl rfl) h0
  obtain ⟨a0, len0, cap0, l0, ec0, w0, wl0, wd0⟩ := argG_of hy0
  obtain ⟨n0, en0, _, x0⟩ := DataW.trod_int Tryd.underlying3 hz0
  simp at en0
  subst en0 ec0
  subst hv0
  have tabs := fnExactRoll_tabs (W := W) hL
  clear hA0 hval0
  refine (fnExactRoll_walk a0 len0 cap0 l0 n0 W w0 wl0 wd0 tabs).mono fun e W' ⟨he, bel⟩ => ?_
  subst he
  exact ⟨_, rfl, _, _, _, [], _, [], hW', trodAll_mk1 (shut_bool Tryd.underlying4 _), (trodAll_cons_mk (Below.trod Tryd.laidOut (by kernel_rfl) (of_decide_eq_true (by kernel_rfl)) k0 bel lt0) trodAll_mk0), rfl, bel.frame _, fun h => by cases h⟩
theorem fnExactRoll_row : Rows.FnExactRollSaid :=
  OpenClaim.holds_of_wide 3 Tryd.f3 rfl rfl rfl rfl rfl rfl rfl ⟨rfl, rfl, rfl, rfl, rfl⟩ rfl rfl rfl rfl rfl (by kernel_rfl) Tryd.func3 (by kernel_rfl)
    (of_decide_eq_true (by kernel_rfl)) (by unfold Func.isWrapper; first | (rw [if_pos (by decide +kernel)]; kernel_rfl) | (rw [if_neg (by decide +kernel)]; exact ⟨rfl, rfl⟩))
    (fun os started H enc _ => fnExactRoll_lifted os started H enc)
/-- THE STATEMENT: the card. -/
theorem fnExactRoll_holds : Rows.FnExactRollCardSaid :=
  Claim7.holds_tied_plain_at .later [] [.handle] true (true, "af8f4088a9e883b499f7d60cb88c1e73ade0e066f0beb1e4eeaf2089ce35f090") true
    fnExactRoll_row (fun _ h => by cases h) (by kernel_rfl) (fun _ h => by cases h) fnExactRoll_row_tie rfl ⟨rfl, rfl⟩ (by kernel_rfl) rfl
    (fun f fn hf hfn => by
      obtain rfl : f = 3 := Option.some.inj ((show Tryd.prog.funcNamed "loop.example/g00651/laws.FnExactRoll" = some 3 by kernel_rfl).symm.trans hf) |>.symm
      obtain rfl : fn = Tryd.f3 := (Option.some.inj (Tryd.func3.symm.trans hfn)).symm
      exact ⟨by kernel_rfl, fun j t ht => by
        rw [Tryd.params3] at ht
        rcases j with _ | j
        · have h3 : t = 24 := by simpa using ht.symm
          subst h3
          exact (show Tryd.prog.wantsStandIn 24 = false by kernel_rfl)
        · simp at ht⟩)
    (by kernel_rfl)
#print axioms fnExactRoll_holds
end Go.Proofs.YtknpolmenfdheacDoor
