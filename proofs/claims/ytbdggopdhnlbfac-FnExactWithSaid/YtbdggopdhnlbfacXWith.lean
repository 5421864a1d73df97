/-
  FnExactWith: at every argument impl.With answers as spec.With, writes into no argument and keeps nothing of one; its answer owns its memory, behind another call too. No condition (what is greater than 2^20 is passed by the law itself).
-/
import Derived.Test.YtbdggopdhnlbfacRows
import Derived.Test.YtbdggopdhnlbfacF8
import Derived.Test.YtbdggopdhnlbfacOpenF
import Derived.Deep.DeepCutAuto
namespace Go.Proofs.Ytbdggopdhnlbfac
set_option linter.unusedVariables false
set_option linter.unusedSimpArgs false
open Go.ChangeShapes Go.WideShapes Go.ChangeAt Go.RowKit
open Go.ChangeMaps (open_string shut_string)
set_option maxRecDepth 10000 in
set_option maxHeartbeats 8000000 in
theorem fnExactWith_walk (a : Option Addr) (len cap : Nat) (l : List Fd) (d s : ByteArray) (w : World) (hx0 : ArgF w a len l) (hl : len ≤ maxLen) (hd : ∀ j, j < len → ((fdAt l j).1.size ≤ maxLen ∧ (fdAt l j).2.size ≤ maxLen)) (wd : d.size ≤ maxLen) (ws : s.size ≤ maxLen) :
    Calls Try.prog 6 #[.slice a len cap, .agg #[.string d, .string s]] w fun e w' => e = .returned (.bool true) ∧ Below w.heap.size w w' := by
  have ha0 := below_a1 w (.cells #[.string d, .string s] 36)
  have A0 := Blk.new w #[.string d, .string s] 36
  have hx := hx0.later ha0
  go_enter Try.func6, Try.ntmps6
  go_wp2_with fail
  refine (szFieldS_any a len cap l _ hx hl hd).mono ?_
  rintro e w1 ⟨rfl, hb1⟩
  have A1 := A0.later hb1
  have hbw1 := below_then ha0 hb1
  by_cases hs : len + totF l ≤ 1048576
  · rw [if_pos hs]
    have hlx : l.length = len := hx.1
    have hlm : len ≤ 1048576 := by omega
    have htm : totF l ≤ 1099511627776 := by omega
    have hge : ¬ 1048576 - (len : Int) - (totF l : Int) < 0 := by omega
    have hlm' : l.length ≤ 1048576 := by omega
    have hLm : (withL l (d, s)).length ≤ 1048576 := by have := withL_len l (d, s); omega
    have HS := hideB2 (fun (b : Nat) (W : World) (h : SlF W (.slice (some ⟨b, 0, none⟩) len len) l) => sWith_any (.slice (some ⟨b, 0, none⟩) len len) l d s W h hlm' htm wd ws)
    have HI := hideB2 (fun (b : Nat) (W : World) (h : SlF W (.slice (some ⟨b, 0, none⟩) len len) l) => With_any (.slice (some ⟨b, 0, none⟩) len len) l d s W h hlm' htm wd ws)
    generalize withL l (d, s) = L at *
    have HLX := hideB2 hlx
    have hR0 : 0 ≤ 1048576 - (len : Int) - (totF l : Int) ∧ 1048576 - (len : Int) - (totF l : Int) ≤ 1048576 := by omega
    generalize 1048576 - (len : Int) - (totF l : Int) = R at *
    obtain ⟨p0, p1⟩ := A1.c2
    clear hlx hd hs A0
    go_wp2_with fail
    refine (szField_any d s _ _ wd ws hR0.1 hR0.2).mono ?_
    rintro e wz ⟨rfl, hbz⟩
    have Az := A1.later hbz
    have hbwz := below_then hbw1 hbz
    clear p0 p1 A1
    by_cases hz : (szF (d, s) : Int) ≤ R
    · rw [if_pos hz]
      have hgez : ¬ R - (szF (d, s) : Int) < 0 := by omega
      generalize R - (szF (d, s) : Int) = R2 at *
      have hw3 := hbwz
      have HX := hideB2 (fun W (k : Below wz.heap.size wz W) => (hx0.later hbwz).later k)
      have HA := hideB2 Az
      obtain ⟨p0, p1⟩ := Az.c2
      have ka : ∀ W, Below wz.heap.size wz W → True := fun _ _ => trivial
      clear hb1 hbz hz wd ws
      go_wp2
      go_cut [6] (fun t wc => SlF wc t L ∧ (∀ g, t.ownBlock = some g → wz.heap.size ≤ g) ∧ Below wz.heap.size wz wc)
      case first =>
        go_region_with (first
          | (go_at_call 9; refine (toFieldS_any a len cap l _ ?_ hlm).mono ?_; (first | exact HX.out _ (Below.refl _ wz).drew | exact HX.out _ (below_then (Below.refl _ wz).drew hbF)); rintro e wS ⟨rfl, hrS, hbS⟩; (have hu : wS.cell? ⟨w.heap.size, 0, none⟩ = some (.string d) ∧ wS.cell? ⟨w.heap.size, 1, none⟩ = some (.string s) := by first | exact (HA.out.drew.later hbS).c2 | exact ((HA.out.drew.later hbF).later hbS).c2); obtain ⟨u0, u1⟩ := hu)
          | (go_at_call 23; refine (toField_any d s _).mono ?_; rintro e wF ⟨rfl, hbF⟩)
          | (go_at_call 22; refine (HS.out _ _ ?_).mono ?_; (first | exact hrS.sl HLX.out len | exact (hrS.keep hbF).sl HLX.out len); rintro e wR ⟨vr, rfl, hR⟩))
        all_goals
          go_wp2_with fail
          go_meet
          obtain ⟨hR1, hR2, hR3⟩ := hR.ans
          first
            | exact ⟨hR1, fun g h => Nat.le_trans (below_then (below_then (Below.refl _ wz).drew hbS) hbF).size (hR2 g h), below_then (below_then (below_then (Below.refl _ wz).drew hbS) hbF) hR3⟩
            | exact ⟨hR1, fun g h => Nat.le_trans (below_then (below_then (Below.refl _ wz).drew hbF) hbS).size (hR2 g h), below_then (below_then (below_then (Below.refl _ wz).drew hbF) hbS) hR3⟩
      case rest =>
        rename World => w3
        obtain ⟨hs3, hf3, hb3⟩ := hcut
        have hbw3 := below_then hbwz hb3
        have A3 := Az.later hb3
        go_wp2_with fail
        refine (toFieldS_any a len cap l _ (hx0.later hbw3) hlm).mono ?_
        rintro e w4 ⟨rfl, hr4, hb4⟩
        have hs4 := hs3.later hb4
        have hslt : ∀ g, u6.ownBlock = some g → g < w3.heap.size := fun g h => hs3.own_lt h
        have hbw4 := below_then hbw3 hb4
        generalize hb : w3.heap.size = b at *
        have A4 := A3.later (by rw [hb]; exact hb4)
        clear p0 p1
        obtain ⟨p0, p1⟩ := A4.c2
        go_wp2_with fail
        refine (toField_any d s _).mono ?_
        rintro e wt ⟨rfl, hbt⟩
        go_wp2_with fail
        refine (HI.out b _ ((hr4.keep hbt).sl HLX.out len)).mono ?_
        rintro e w5 ⟨vg, rfl, hg5⟩
        obtain ⟨hg5, hf5', hb5'⟩ := hg5.ans
        have hb5 := below_then hbt hb5'
        have hf5 : ∀ g, vg.ownBlock = some g → w4.heap.size ≤ g := fun g h => Nat.le_trans hbt.size (hf5' g h)
        clear hbt hb5' hf5'
        have hs5 := hs4.later hb5
        have hr5 := hr4.keep hb5
        have hbw5 := below_then hbw4 hb5
        have hglt : ∀ g, vg.ownBlock = some g → g < w5.heap.size := fun g h => hg5.own_lt h
        have hblt := hr4.lt
        have hbge := hbw3.size
        obtain ⟨oa, cs, rfl⟩ := hs5.form
        obtain ⟨og, cg, rfl⟩ := hg5.form
        go_wp2_with fail
        refine (eqFieldS_same _ _ L _ hg5 hs5 hLm).mono ?_
        rintro e w6 ⟨rfl, hb6⟩
        have hs6 := hs5.later hb6
        have hg6 := hg5.later hb6
        have hr6 := hr5.keep hb6
        have hbw6 := below_then hbw5 hb6
        clear hb3 hs3 hs4 hs5 hr4 hr5
        go_wp2_with fail
        refine (toFieldS_any a len cap l _ (hx0.later hbw6) hlm).mono ?_
        rintro e w7 ⟨rfl, hr7, hb7⟩
        go_wp2_with fail
        refine (eqFieldS_same _ _ l _ ((hr6.keep hb7).sl HLX.out len) (hr7.sl HLX.out len) hlm').mono ?_
        rintro e w8 ⟨rfl, hb8⟩
        have hs8 := (hs6.later hb7).later hb8
        have hg8 := (hg6.later hb7).later hb8
        have hr8 := (hr6.keep hb7).keep hb8
        have hbw8 := below_then (below_then hbw6 hb7) hb8
        clear hs6 hg6 hr6 hr7
        go_wp2_with fail
        refine (markFieldS_any _ l _ (hr8.sl HLX.out len) hlm').mono ?_
        rintro e w9 ⟨rfl, _, hk9'⟩
        have hk9 : World.grownBy _ w9 (some b) := hk9'
        clear hk9'
        rw [HLX.out]
        have A9 := ((((A4.later hb5).later hb6).later hb7).later hb8).gb hk9 (fun h => by injection h with h; have := A3.lt; omega)
        have hs9 := hs8.gb hk9 (fun g h h' => by have := hslt g h; injection h' with h'; omega)
        have hg9 := hg8.gb hk9 (fun g h h' => by have := hf5 g h; injection h' with h'; omega)
        have hbw9 : Below w.heap.size w w9 := grown_below hbw8 hk9 (fun g h => by injection h with h; omega) hbw8.size
        have hkp : ¬ 1 + 2 * (len : Int) < 0 := by omega
        clear hs8 hg8 hr8 hk9
        go_wp2_with fail
        refine (eqFieldS_same _ _ L _ hg9 hs9 hLm).mono ?_
        rintro e w10 ⟨rfl, hb10⟩
        have hs10 := hs9.later hb10
        have hg10 := hg9.later hb10
        have hbw10 := below_then hbw9 hb10
        have A10 := A9.later hb10
        clear hs9 hg9 hb10
        go_wp2_with fail
        refine (markFieldS_any _ L _ hg10 hLm).mono ?_
        rintro e w11 ⟨rfl, hm11, hk11⟩
        have hsz10 := hbw10.size
        have A11 := A10.gb hk11 (fun h => by have := hf5 _ h; have := A4.lt; omega)
        have hs11 := hs10.gb hk11 (fun g h h' => by have := hslt g h; have := hf5 g h'; omega)
        have hbw11 : Below w.heap.size w w11 := grown_below hbw10 hk11 (fun g h => by have := hf5 g h; omega) hsz10
        clear hs10 hg10 hk11
        go_wp2_with fail
        refine (heldFieldS_any _ L.length _ hm11 hLm).mono ?_
        rintro e w12 ⟨rfl, hb12⟩
        have hs12 := hs11.later hb12
        have hm12 := hm11.later hb12
        have hbw12 := below_then hbw11 hb12
        have hqp : ¬ (1 + 2 * (L.length : Int)) < 0 := by omega
        have hqq : ((1 + 2 * (L.length : Int)) != (1 + 2 * (L.length : Int))) = false := by simp
        have A12 := A11.later hb12
        clear hs11 hm11 hb12
        have HX2 := hideB2 (fun W (k : Below w12.heap.size w12 W) => (hx0.later hbw12).later k)
        have HA2 := hideB2 A12
        clear p0 p1
        obtain ⟨p0, p1⟩ := A12.c2
        go_wp2
        go_cut [12] (fun t wc => SlF wc t L ∧ (∀ g, t.ownBlock = some g → w12.heap.size ≤ g) ∧ Below w12.heap.size w12 wc)
        case first =>
          go_region_with (first
            | (go_at_call 9; refine (toFieldS_any a len cap l _ ?_ hlm).mono ?_; (first | exact HX2.out _ (Below.refl _ w12).drew | exact HX2.out _ (below_then (Below.refl _ w12).drew hbF)); rintro e wS ⟨rfl, hrS, hbS⟩; (have hu : wS.cell? ⟨w.heap.size, 0, none⟩ = some (.string d) ∧ wS.cell? ⟨w.heap.size, 1, none⟩ = some (.string s) := by first | exact (HA2.out.drew.later hbS).c2 | exact ((HA2.out.drew.later hbF).later hbS).c2); obtain ⟨u0, u1⟩ := hu)
            | (go_at_call 23; refine (toField_any d s _).mono ?_; rintro e wF ⟨rfl, hbF⟩)
            | (go_at_call 24; refine (HI.out _ _ ?_).mono ?_; (first | exact hrS.sl HLX.out len | exact (hrS.keep hbF).sl HLX.out len); rintro e wR ⟨vr, rfl, hR⟩))
          all_goals
            go_wp2_with fail
            go_meet
            obtain ⟨hR1, hR2, hR3⟩ := hR.ans
            first
              | exact ⟨hR1, fun g h => Nat.le_trans (below_then (below_then (Below.refl _ w12).drew hbS) hbF).size (hR2 g h), below_then (below_then (below_then (Below.refl _ w12).drew hbS) hbF) hR3⟩
              | exact ⟨hR1, fun g h => Nat.le_trans (below_then (below_then (Below.refl _ w12).drew hbF) hbS).size (hR2 g h), below_then (below_then (below_then (Below.refl _ w12).drew hbF) hbS) hR3⟩
        case rest =>
          rename World => w14
          obtain ⟨hh14, hf14, hb14⟩ := hcut
          have hs14 := hs12.later hb14
          have hm14 := hm12.later hb14
          have hbw14 := below_then hbw12 hb14
          obtain ⟨oh, ch, rfl⟩ := hh14.form
          clear hs12 hm12
          go_wp2_with fail
          refine (eqFieldS_same _ _ L _ hh14 hs14 hLm).mono ?_
          rintro e w15 ⟨rfl, hb15⟩
          have hm15 := hm14.later hb15
          go_wp2_with fail
          refine (heldFieldS_any _ L.length _ hm15 hLm).mono ?_
          rintro e w16 ⟨rfl, hb16⟩
          have HB := hideB2 (below_then (below_then hbw14 hb15) hb16)
          clear hm15 hm14 hs14 hbw14 hb15 hb16 hh14
          go_wp2
          go_ret
          exact ⟨rfl, HB.out⟩
    · rw [if_neg hz]
      go_wp2
      go_ret
      exact ⟨rfl, hbwz⟩
  · rw [if_neg hs]
    go_wp2
    go_ret
    exact ⟨rfl, hbw1⟩

set_option maxRecDepth 100000 in
theorem fnExactWith_lifted (os : Os) (started : os.Started) (H : Type) (enc : TypeId × Value → H) :
    ReturnsInHanded {} Try.checked os 6 .any (Rows.fnExactWithSpec.pre6 enc Try.prog Try.f6 Rows.fnExactWithRow.domain false) (Rows.fnExactWithSpec.post enc Try.prog Try.f6 false true false false) := by
  refine returnsInHanded_of_change (C := Try.checked) Try.own started (by kernel_rfl) Try.func6
    (ChangeSpec.witness6 (enc := enc) (C := Try.checked) false ⟨#[], #[.slice none 0 0, .agg #[.string ByteArray.empty, .string ByteArray.empty]], []⟩ 8 (by kernel_rfl) (by kernel_rfl) (by kernel_rfl) (by kernel_rfl)) ?_
  intro W base args ds gs before hval0 hW hcnd _
  have hval : ∀ (j : Nat) t v, Try.f6.params[j]? = some t → args[j]? = some v → Value.okWide Try.prog W .any base t v := hval0
  have hW' := hW
  obtain ⟨p, q, hA0, hV, rfl, hfz, hnd⟩ := hW
  have hA : DataW.TrodAll enc Try.prog W 0 (fun _ => true) true Try.f6.params.toList args.toList ds p := hA0
  rw [Try.params6] at hA hval
  obtain ⟨v0, vs0, d0, ds0, p0, q0, hargs, rfl, rfl, h0, r0⟩ := trodAll_cons hA
  obtain ⟨v1, vs1, d1, ds1, p1, q1, rfl, rfl, rfl, h1, r1⟩ := trodAll_cons r0
  obtain ⟨rfl, rfl, rfl⟩ := trodAll_nil r1
  obtain rfl : args = #[v0, v1] := by cases args; simp_all
  obtain ⟨rfl, rfl⟩ := trodVars_none hV
  obtain ⟨a0, len0, cap0, rfl⟩ := okWide_slice Try.underlying22 (hval 0 22 v0 rfl rfl)
  have k0 := h0
  have lt0 : ∀ x ∈ p0, x.block < W.heap.size := by obtain ⟨m, hm⟩ := k0; exact DataW.trod_lt m _ _ _ hm
  obtain ⟨l0, w0, wl0, wd0⟩ := argF_in h0
  have k1 := h1
  have lt1 : ∀ x ∈ p1, x.block < W.heap.size := by obtain ⟨m, hm⟩ := k1; exact DataW.trod_lt m _ _ _ hm
  obtain ⟨c1, e1, y1, z1, m1, hv1, _, _, hy1, hz1⟩ := Joins.open_agg2 Try.underlying36 (by kernel_rfl) (by kernel_rfl) (hval 1 36 v1 rfl rfl) h1
  obtain ⟨s1, es1, _, w1⟩ := DataW.trod_string Try.underlying9 hy1
  obtain ⟨n1, en1, _, x1⟩ := DataW.trod_string Try.underlying9 hz1
  simp at es1 en1
  subst es1 en1
  subst hv1
  clear hA0 hval0
  refine (fnExactWith_walk a0 len0 cap0 l0 s1 n1 W w0 wl0 wd0 w1 x1).mono fun e W' ⟨he, bel⟩ => ?_
  subst he
  exact ⟨_, rfl, _, _, _, [], _, [], hW', trodAll_mk1 (shut_bool Try.underlying4 _), (trodAll_cons_mk (Below.trod Try.laidOut (by kernel_rfl) (of_decide_eq_true (by kernel_rfl)) k0 bel lt0) (trodAll_cons_mk (Below.trod Try.laidOut (by kernel_rfl) (of_decide_eq_true (by kernel_rfl)) k1 bel lt1) trodAll_mk0)), rfl, bel.frame _, fun h => by cases h⟩

/-- THE STATEMENT -/
theorem fnExactWith_holds : Rows.FnExactWithSaid :=
  OpenClaim.holds_of_wide 6 Try.f6 rfl rfl rfl rfl rfl rfl rfl ⟨rfl, rfl, rfl, rfl, rfl⟩ rfl rfl rfl rfl rfl (by kernel_rfl) Try.func6 (by kernel_rfl)
    (of_decide_eq_true (by kernel_rfl)) (by unfold Func.isWrapper; first | (rw [if_pos (by decide +kernel)]; kernel_rfl) | (rw [if_neg (by decide +kernel)]; exact ⟨rfl, rfl⟩))
    (fun os started H enc _ => fnExactWith_lifted os started H enc)
#print axioms fnExactWith_holds
end Go.Proofs.Ytbdggopdhnlbfac
