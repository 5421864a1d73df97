/-
  The walk of:   FnExactMethodOf: at every argument impl.MethodOf answers as spec.MethodOf, and writes into no argument. The condition: the listed tables hold what the program's text lays (the card ties them); what is greater than 2^20 is passed by the law itself.
-/
import Derived.Test.YthdgeepedofleaaGreatDoorRows
import Derived.Test.YthdgeepedofleaaGreatDoorTie
import Derived.Test.YthdgeepedofleaaGreatDoorCards
import Derived.Test.YthdgeepedofleaaGreatDoorJ14
import Derived.Test.YthdgeepedofleaaGreatDoorJ9
import Derived.Test.YthdgeepedofleaaGreatDoorJ15
import Derived.LaidMore
import Derived.Lay
import Derived.LaidLaws
import Derived.SevenTiedAt
import Derived.Stop.Joined
namespace Go.Proofs.YthdgeepedofleaaGreatDoor
set_option linter.unusedVariables false
set_option linter.unusedSimpArgs false
open Go.ChangeShapes Go.WideShapes Go.ChangeAt Go.RowKit
open Go.ChangeMaps (open_string shut_string)
theorem fnExactMethodOf_tabs {W : World} (h : laidMetH Tryz.prog Rows.fnExactMethodOfRow.laid W) : Tab10 W := by
  rw [MakeChecks.laidMetH_plain _ _ _ (by kernel_rfl)] at h
  exact dectab_of_laid (by unfold Rows.fnExactMethodOfRow; simp only [List.mem_cons, List.mem_singleton, Prod.mk.injEq]; simp) h
set_option maxRecDepth 10000 in
set_option maxHeartbeats 4000000 in
theorem fnExactMethodOf_walk (x : Ex) (w : World) (hz : ZE x) (htab : Tab10 w) :
    Calls Tryz.prog 6 #[exV x] w fun e w' => e = .returned (.bool true) ∧ Below w.heap.size w w' := by
  have HS := hideB2 (fun W z1 z2 z3 => sMethodOf_any x W z1 z2 z3)
  have HI := hideB2 (fun W z1 z2 z3 (h : Tab10 W) => MethodOf_any x W z1 z2 z3 h)
  generalize (reqX x).me = R at *
  obtain ⟨si, ak, wh, ur, rq, an⟩ := x
  obtain ⟨d1, d2, d3⟩ := hz
  simp only at d1 d2 d3 HS HI
  unfold exV exC6 at *
  simp only at HS HI ⊢
  have hb0 := below_a1 w (.cells #[.int .i64 si, .int .i64 ak, .int .i64 wh, .string ur, .string rq, .string an] 42)
  have A0 := Blk.new w #[.int .i64 si, .int .i64 ak, .int .i64 wh, .string ur, .string rq, .string an] 42
  have HT := hideB2 htab
  clear htab
  go_enter Tryz.func6, Tryz.ntmps6
  go_wp2_with fail
  generalize hW : w.alloc (.cells #[.int .i64 si, .int .i64 ak, .int .i64 wh, .string ur, .string rq, .string an] 42) = W0 at *
  clear hW
  refine (szExch_any si ak wh ur rq an _ _ d1 d2 d3 (by omega) (by omega)).mono ?_
  rintro e w1 ⟨rfl, hb1⟩
  have A1 := A0.later hb1
  have hbw1 := below_then hb0 hb1
  by_cases hs : (ur.size : Int) + (rq.size : Int) + (an.size : Int) ≤ 1048576
  · rw [if_pos hs]
    have hge : ¬ (1048576 : Int) - (ur.size : Int) - (rq.size : Int) - (an.size : Int) < 0 := by omega
    have z1 : ur.size ≤ 1048576 := by omega
    have z2 : rq.size ≤ 1048576 := by omega
    have z3 : an.size ≤ 1048576 := by omega
    replace HS := hideB2 (fun W => HS.out W z1 z2 z3)
    replace HI := hideB2 (fun W h => HI.out W z1 z2 z3 h)
    obtain ⟨p0, p1, p2, p3, p4, p5⟩ := A1.c6
    clear hs d1 d2 d3 z1 z2 z3 A0 hb0 hb1
    go_wp2_with fail
    refine (toExch_any si ak wh ur rq an _).mono ?_
    rintro e w2 ⟨rfl, hb2⟩
    go_wp2_with fail
    refine (HS.out _).mono ?_
    rintro e w3 ⟨rfl, hb3⟩
    have A3 := (A1.later hb2).later hb3
    have hbw3 := below_then (below_then hbw1 hb2) hb3
    clear p0 p1 p2 p3 p4 p5 A1 hbw1 hb2 hb3
    obtain ⟨p0, p1, p2, p3, p4, p5⟩ := A3.c6
    go_wp2_with fail
    refine (toExch_any si ak wh ur rq an _).mono ?_
    rintro e w4 ⟨rfl, hb4⟩
    have hbw4 := below_then hbw3 hb4
    go_wp2_with fail
    refine (HI.out _ (tab_later HT.out hbw4)).mono ?_
    rintro e w5 ⟨rfl, hb5⟩
    have HB := hideB2 (below_then hbw4 hb5)
    clear p0 p1 p2 p3 p4 p5 A3 hbw3 hbw4 hb4 hb5
    have hdd : (R.toList == R.toList) = true := by simp
    go_wp2
    go_ret
    exact ⟨rfl, HB.out⟩
  · rw [if_neg hs]
    clear A0 A1
    go_wp2
    go_ret
    exact ⟨rfl, hbw1⟩

set_option maxRecDepth 100000 in
theorem fnExactMethodOf_lifted (os : Os) (started : os.Started) (H : Type) (enc : TypeId × Value → H) :
    ReturnsInHanded {} Tryz.checked os 6 .any (fun w args => (Rows.fnExactMethodOfSpec.pre enc Tryz.prog Tryz.f6 [] false w args ∧ laidMetH Tryz.prog Rows.fnExactMethodOfRow.laid w) ∧ sizedMet enc Tryz.prog Tryz.f6 (OpenSpec.ofChange Rows.fnExactMethodOfSpec) false w args)
      (Rows.fnExactMethodOfSpec.post enc Tryz.prog Tryz.f6 false true false false) := by
  refine returnsInHanded_of_change_and (C := Tryz.checked) (X := fun w _ => laidMetH Tryz.prog Rows.fnExactMethodOfRow.laid w) (fun _ _ _ hh h => h.of_heap hh) Tryz.own started (by kernel_rfl) Tryz.func6
    (ChangeSpec.witness_shaped (enc := enc) (C := Tryz.checked) (os := os) (X := fun w _ => laidMetH Tryz.prog Rows.fnExactMethodOfRow.laid w) false (World.laidAll Tryz.prog os Rows.fnExactMethodOfRow.laid) #[.agg #[.int .i64 0, .int .i64 0, .int .i64 0, .string ByteArray.empty, .string ByteArray.empty, .string ByteArray.empty]] 8 (World.laidAll_os _ _ _) (World.shaped_of_ZipB (by kernel_rfl) (by kernel_rfl)) (by kernel_rfl) (by kernel_rfl) (by kernel_rfl)
      (by rw [MakeChecks.laidMetH_plain _ _ _ (by kernel_rfl)]; exact laidMet_laidAll _ (by kernel_rfl) (by kernel_rfl))) ?_
  intro W base args ds gs before hval0 hW _ _ hL _
  have hval : ∀ (j : Nat) t v, Tryz.f6.params[j]? = some t → args[j]? = some v → Value.okWide Tryz.prog W .any base t v := hval0
  have hW' := hW
  obtain ⟨p, q, hA0, hV, rfl, hfz, hnd⟩ := hW
  have hA : DataW.TrodAll enc Tryz.prog W 0 (fun _ => true) true Tryz.f6.params.toList args.toList ds p := hA0
  rw [Tryz.params6] at hA hval
  obtain ⟨v0, vs0, d0, ds0, p0, q0, hargs, rfl, rfl, h0, r0⟩ := trodAll_cons hA
  obtain ⟨rfl, rfl, rfl⟩ := trodAll_nil r0
  obtain rfl : args = #[v0] := by cases args; simp_all
  obtain ⟨rfl, rfl⟩ := trodVars_none hV
  have k0 := h0
  have lt0 : ∀ x ∈ p0, x.block < W.heap.size := by obtain ⟨m, hm⟩ := k0; exact DataW.trod_lt m _ _ _ hm
  obtain ⟨x0, rfl, w0⟩ := open_exch (hval 0 42 v0 rfl rfl) h0
  have tabs := fnExactMethodOf_tabs (W := W) hL
  clear hA0 hval0
  refine (fnExactMethodOf_walk x0 W w0 tabs).mono fun e W' ⟨he, bel⟩ => ?_
  subst he
  exact ⟨_, rfl, _, _, _, [], _, [], hW', trodAll_mk1 (shut_bool Tryz.underlying4 _), (trodAll_cons_mk (Below.trod Tryz.laidOut (by kernel_rfl) (of_decide_eq_true (by kernel_rfl)) k0 bel lt0) trodAll_mk0), rfl, bel.frame _, fun h => by cases h⟩
end Go.Proofs.YthdgeepedofleaaGreatDoor
