/-
  FnExactMsgOk: at every argument impl.MsgOk answers as spec.MsgOk, and writes into no argument. The condition: the listed tables hold what the program's text lays (the card ties them); what is greater than 2^20 is passed by the law itself.
-/
import Derived.Test.YtaelopjalfapgabDoorRows
import Derived.Test.YtaelopjalfapgabDoorTie
import Derived.Test.YtaelopjalfapgabDoorCards
import Derived.Test.YtaelopjalfapgabDoorH5
import Derived.Test.YtaelopjalfapgabDoorOpenM
import Derived.Test.YtaelopjalfapgabDoorOpenL
import Derived.Test.YtaelopjalfapgabDoorOpenN
namespace Go.Proofs.YtaelopjalfapgabDoor
set_option linter.unusedVariables false
set_option linter.unusedSimpArgs false
open Go.ChangeShapes Go.WideShapes Go.ChangeAt Go.RowKit
open Go.ChangeMaps (open_string shut_string)
theorem fnExactMsgOk_tabs {W : World} (h : laidMetH Tryd.prog Rows.fnExactMsgOkRow.laid W) : Tab10 W := dectab_of_laid (.tail _ (.tail _ (.head _))) h
set_option maxHeartbeats 4000000 in
theorem fnExactMsgOk_walk (me ta re bo : ByteArray) (st : Int) (ba : Bool) (fa : Option Addr) (fn fc : Nat) (fs : List Fd) (w : World) (hm : ArgM w me ta re bo fa fn fs) (htab : Tab10 w) :
    Calls Tryd.prog 3 #[.agg #[.string me, .string ta, .int .i64 st, .string re, .bool ba, .slice fa fn fc, .string bo]] w fun e w' => e = .returned (.bool true) ∧ Below w.heap.size w w' := by
  have hb0 := below_a1 w (.cells #[.string me, .string ta, .int .i64 st, .string re, .bool ba, .slice fa fn fc, .string bo] 24)
  have A0 := Blk.new w #[.string me, .string ta, .int .i64 st, .string re, .bool ba, .slice fa fn fc, .string bo] 24
  go_enter Tryd.func3, Tryd.ntmps3
  go_wp2_with fail
  generalize hW : w.alloc (.cells #[.string me, .string ta, .int .i64 st, .string re, .bool ba, .slice fa fn fc, .string bo] 24) = W0 at *
  clear hW
  refine (szMsg_any me ta re bo st ba fa fn fc fs _ (hm.later hb0)).mono ?_
  rintro e w1 ⟨r, rfl, hsz, hb1⟩
  have A1 := A0.later hb1
  have hbw1 := below_then hb0 hb1
  by_cases hr : r < 0
  · clear hsz A0 A1
    go_wp2
    go_ret
    exact ⟨rfl, hbw1⟩
  · have ht := hsz hr
    have hx1 := hm.row.later hbw1
    have hlen : fs.length = fn := hm.row.1
    unfold totM at ht
    have z1 : me.size ≤ 1048576 := by omega
    have z2 : ta.size ≤ 1048576 := by omega
    have z3 : re.size ≤ 1048576 := by omega
    have z4 : bo.size ≤ 1048576 := by omega
    have z5 : fn ≤ 1048576 := by omega
    have z6 : totF fs ≤ 1099511627776 := by omega
    have z7 : fs.length ≤ 1048576 := by omega
    have HS := hideB2 (fun (g : Nat) (W : World) (h : SlF W (.slice (some ⟨g, 0, none⟩) fn fn) fs) => sMsgOk_any me ta re bo st ba (some ⟨g, 0, none⟩) fn fn fs W h hlen z7 z6 z1 z2 z3 z4)
    have HI := hideB2 (fun (g : Nat) (W : World) (h : SlF W (.slice (some ⟨g, 0, none⟩) fn fn) fs) (h' : Tab10 W) => MsgOk_any me ta re bo st ba (some ⟨g, 0, none⟩) fn fn fs W h hlen z7 z6 z1 z2 z3 z4 h')
    have HT := hideB2 htab
    have HLN := hideB2 hlen
    generalize msgQ ⟨me, ta, st, re, ba, fs, bo⟩ = R at *
    obtain ⟨p0, p1, p2, p3, p4, p5, p6⟩ := A1.c7
    clear hsz A0 hb0 hb1 ht z1 z2 z3 z4 z6 hm htab hlen
    go_wp2_with fail
    refine (toMsg_any me ta re bo st ba fa fn fc fs _ hx1 z5).mono ?_
    rintro e w2 ⟨g2, rfl, hrow2, _, hb2⟩
    go_wp2_with fail
    refine (HS.out g2 _ (hrow2.sl HLN.out fn)).mono ?_
    rintro e w3 ⟨rfl, hb3⟩
    have A3 := (A1.later hb2).later hb3
    have hbw3 := below_then (below_then hbw1 hb2) hb3
    have hx3 := (hx1.later hb2).later hb3
    clear p0 p1 p2 p3 p4 p5 p6 hrow2 hb2 hb3 A1 hbw1 hx1
    obtain ⟨p0, p1, p2, p3, p4, p5, p6⟩ := A3.c7
    go_wp2_with fail
    refine (toMsg_any me ta re bo st ba fa fn fc fs _ hx3 z5).mono ?_
    rintro e w4 ⟨g4, rfl, hrow4, _, hb4⟩
    have A4 := A3.later hb4
    have hbw4 := below_then hbw3 hb4
    have hx4 := hx3.later hb4
    have hlt4 := A4.lt
    clear p0 p1 p2 p3 p4 p5 p6 hb4 A3 hbw3 hx3
    have B5 := Blk.new w4 #[.string me, .string ta, .int .i64 st, .string re, .bool ba, .slice (some ⟨g4, 0, none⟩) fn fn, .string bo] 29
    have A5 := A4.alloc (.cells #[.string me, .string ta, .int .i64 st, .string re, .bool ba, .slice (some ⟨g4, 0, none⟩) fn fn, .string bo] 29)
    have hrow5 := hrow4.keep (below_a1 w4 (.cells #[.string me, .string ta, .int .i64 st, .string re, .bool ba, .slice (some ⟨g4, 0, none⟩) fn fn, .string bo] 29))
    have hbw5 := below_then hbw4 (below_a1 w4 (.cells #[.string me, .string ta, .int .i64 st, .string re, .bool ba, .slice (some ⟨g4, 0, none⟩) fn fn, .string bo] 29))
    have hx5 := hx4.later (below_a1 w4 (.cells #[.string me, .string ta, .int .i64 st, .string re, .bool ba, .slice (some ⟨g4, 0, none⟩) fn fn, .string bo] 29))
    go_wp2_with fail
    generalize hW : w4.alloc (.cells #[.string me, .string ta, .int .i64 st, .string re, .bool ba, .slice (some ⟨g4, 0, none⟩) fn fn, .string bo] 29) = W5 at *
    clear hW
    refine (HI.out g4 _ (hrow5.sl HLN.out fn) (tab_later HT.out hbw5)).mono ?_
    rintro e w6 ⟨rfl, hb6⟩
    have A6 := A5.later hb6
    have B6 := B5.later hb6
    have HB6 := hideB2 (below_then hbw5 hb6)
    have HR6 := hideB2 (hrow5.keep hb6)
    have HX6 := hideB2 (hx5.later hb6)
    have HA6 := hideB2 A6
    have HBB6 := hideB2 B6
    obtain ⟨p0, p1, p2, p3, p4, p5, p6⟩ := A6.c7
    obtain ⟨q0, q1, q2, q3, q4, q5, q6⟩ := B6.c7
    clear A4 A5 A6 B5 B6 hrow4 hrow5 hbw4 hbw5 hx4 hx5 hb6 HS HI
    generalize w4.heap.size = G at *
    cases R
    all_goals
      go_wp2
      go_cut [26] (fun c wc => c = .bool false ∧ Below w6.heap.size w6 wc)
      case first =>
        go_region_with (first
          | (go_at_call 9; refine (toMsg_any me ta re bo st ba fa fn fc fs _ (HX6.out.later (by first | exact Below.refl _ _ | exact (Below.refl _ _).drew)) z5).mono ?_; rintro e w7 ⟨g7, rfl, hrow7, _, hb7⟩; obtain ⟨r0, r1, r2, r3, r4, r5, r6⟩ := (HBB6.out.drew.later hb7).c7)
          | (go_at_call 11; refine (eqMsg_same me ta re bo st ba (some ⟨g4, 0, none⟩) fn fn fs (some ⟨g7, 0, none⟩) fn _ ((HR6.out.keep (below_then (Below.refl _ _).drew hb7)).sl HLN.out fn) (hrow7.sl HLN.out fn) z7).mono ?_; rintro e w8 ⟨rfl, hb8⟩))
        all_goals
          go_wp2_with fail
          go_meet
          exact ⟨rfl, below_then (below_then (Below.refl _ _).drew hb7) hb8⟩
      case rest =>
        obtain ⟨rfl, hb9⟩ := hcut
        go_wp2
        go_ret
        exact ⟨rfl, below_then HB6.out hb9⟩

/-- A world that meets the condition: the settled one, the listed tables laid. -/
theorem fnExactMsgOk_laid_met (os : Os) (args : Array Value) : laidMet Tryd.prog Rows.fnExactMsgOkRow.laid (({ (World.holding Tryd.prog os ⟨#[], #[], []⟩) with heap := ((((World.holding Tryd.prog os ⟨#[], #[], []⟩).heap.modify 2 (laidRow #[.int .u8 0, .int .u8 1, .int .u8 28, .int .u8 2, .int .u8 29, .int .u8 14, .int .u8 24, .int .u8 3, .int .u8 30, .int .u8 22, .int .u8 20, .int .u8 15, .int .u8 25, .int .u8 17, .int .u8 4, .int .u8 8, .int .u8 31, .int .u8 27, .int .u8 13, .int .u8 23, .int .u8 21, .int .u8 19, .int .u8 16, .int .u8 7, .int .u8 26, .int .u8 12, .int .u8 18, .int .u8 6, .int .u8 11, .int .u8 5, .int .u8 10, .int .u8 9])).modify 3 (laidRow #[.int .u8 0, .int .u8 1, .int .u8 56, .int .u8 2, .int .u8 57, .int .u8 49, .int .u8 28, .int .u8 3, .int .u8 61, .int .u8 58, .int .u8 42, .int .u8 50, .int .u8 38, .int .u8 29, .int .u8 17, .int .u8 4, .int .u8 62, .int .u8 47, .int .u8 59, .int .u8 36, .int .u8 45, .int .u8 43, .int .u8 51, .int .u8 22, .int .u8 53, .int .u8 39, .int .u8 33, .int .u8 30, .int .u8 24, .int .u8 18, .int .u8 12, .int .u8 5, .int .u8 63, .int .u8 55, .int .u8 48, .int .u8 27, .int .u8 60, .int .u8 41, .int .u8 37, .int .u8 16, .int .u8 46, .int .u8 35, .int .u8 44, .int .u8 21, .int .u8 52, .int .u8 32, .int .u8 23, .int .u8 11, .int .u8 54, .int .u8 26, .int .u8 40, .int .u8 15, .int .u8 34, .int .u8 20, .int .u8 31, .int .u8 10, .int .u8 25, .int .u8 14, .int .u8 19, .int .u8 9, .int .u8 13, .int .u8 8, .int .u8 7, .int .u8 6])).modify 0 (laidRow #[.int .u64 1, .int .u64 10, .int .u64 100, .int .u64 1000, .int .u64 10000, .int .u64 100000, .int .u64 1000000, .int .u64 10000000, .int .u64 100000000, .int .u64 1000000000, .int .u64 10000000000, .int .u64 100000000000, .int .u64 1000000000000, .int .u64 10000000000000, .int .u64 100000000000000, .int .u64 1000000000000000, .int .u64 10000000000000000, .int .u64 100000000000000000, .int .u64 1000000000000000000, .int .u64 10000000000000000000])) } : World).forCall (fun _ _ => 0) ⟨#[], args, []⟩).memory :=
  laidMet_of_run' 8 (by kernel_rfl) (by kernel_rfl)
set_option maxRecDepth 100000 in
theorem fnExactMsgOk_lifted (os : Os) (started : os.Started) (H : Type) (enc : TypeId × Value → H) :
    ReturnsInHanded {} Tryd.checked os 3 .any (fun w args => (Rows.fnExactMsgOkSpec.pre enc Tryd.prog Tryd.f3 [] false w args ∧ laidMetH Tryd.prog Rows.fnExactMsgOkRow.laid w) ∧ sizedMet enc Tryd.prog Tryd.f3 (OpenSpec.ofChange Rows.fnExactMsgOkSpec) false w args)
      (Rows.fnExactMsgOkSpec.post enc Tryd.prog Tryd.f3 false true false false) := by
  refine returnsInHanded_of_change_and (C := Tryd.checked) (X := fun w _ => laidMetH Tryd.prog Rows.fnExactMsgOkRow.laid w) (fun _ _ _ hh h => h.of_heap hh) Tryd.own started (by kernel_rfl) Tryd.func3
    (ChangeSpec.witness_at (enc := enc) (C := Tryd.checked) (os := os) (X := fun w _ => laidMetH Tryd.prog Rows.fnExactMsgOkRow.laid w) false ({ (World.holding Tryd.prog os ⟨#[], #[], []⟩) with heap := ((((World.holding Tryd.prog os ⟨#[], #[], []⟩).heap.modify 2 (laidRow #[.int .u8 0, .int .u8 1, .int .u8 28, .int .u8 2, .int .u8 29, .int .u8 14, .int .u8 24, .int .u8 3, .int .u8 30, .int .u8 22, .int .u8 20, .int .u8 15, .int .u8 25, .int .u8 17, .int .u8 4, .int .u8 8, .int .u8 31, .int .u8 27, .int .u8 13, .int .u8 23, .int .u8 21, .int .u8 19, .int .u8 16, .int .u8 7, .int .u8 26, .int .u8 12, .int .u8 18, .int .u8 6, .int .u8 11, .int .u8 5, .int .u8 10, .int .u8 9])).modify 3 (laidRow #[.int .u8 0, .int .u8 1, .int .u8 56, .int .u8 2, .int .u8 57, .int .u8 49, .int .u8 28, .int .u8 3, .int .u8 61, .int .u8 58, .int .u8 42, .int .u8 50, .int .u8 38, .int .u8 29, .int .u8 17, .int .u8 4, .int .u8 62, .int .u8 47, .int .u8 59, .int .u8 36, .int .u8 45, .int .u8 43, .int .u8 51, .int .u8 22, .int .u8 53, .int .u8 39, .int .u8 33, .int .u8 30, .int .u8 24, .int .u8 18, .int .u8 12, .int .u8 5, .int .u8 63, .int .u8 55, .int .u8 48, .int .u8 27, .int .u8 60, .int .u8 41, .int .u8 37, .int .u8 16, .int .u8 46, .int .u8 35, .int .u8 44, .int .u8 21, .int .u8 52, .int .u8 32, .int .u8 23, .int .u8 11, .int .u8 54, .int .u8 26, .int .u8 40, .int .u8 15, .int .u8 34, .int .u8 20, .int .u8 31, .int .u8 10, .int .u8 25, .int .u8 14, .int .u8 19, .int .u8 9, .int .u8 13, .int .u8 8, .int .u8 7, .int .u8 6])).modify 0 (laidRow #[.int .u64 1, .int .u64 10, .int .u64 100, .int .u64 1000, .int .u64 10000, .int .u64 100000, .int .u64 1000000, .int .u64 10000000, .int .u64 100000000, .int .u64 1000000000, .int .u64 10000000000, .int .u64 100000000000, .int .u64 1000000000000, .int .u64 10000000000000, .int .u64 100000000000000, .int .u64 1000000000000000, .int .u64 10000000000000000, .int .u64 100000000000000000, .int .u64 1000000000000000000, .int .u64 10000000000000000000])) } : World) #[.agg #[.string ByteArray.empty, .string ByteArray.empty, .int .i64 0, .string ByteArray.empty, .bool false, .slice none 0 0, .string ByteArray.empty]] 8 rfl (by kernel_rfl) (by kernel_rfl) (by kernel_rfl) (by kernel_rfl) (by kernel_rfl) (fnExactMsgOk_laid_met os _)) ?_
  intro W base args ds gs before hval0 hW _ _ hL _
  have hval : ∀ (j : Nat) t v, Tryd.f3.params[j]? = some t → args[j]? = some v → Value.okWide Tryd.prog W .any base t v := hval0
  have hW' := hW
  obtain ⟨p, q, hA0, hV, rfl, hfz, hnd⟩ := hW
  have hA : DataW.TrodAll enc Tryd.prog W 0 (fun _ => true) true Tryd.f3.params.toList args.toList ds p := hA0
  rw [Tryd.params3] at hA hval
  obtain ⟨v0, vs0, d0, ds0, p0, q0, hargs, rfl, rfl, h0, r0⟩ := trodAll_cons hA
  obtain ⟨rfl, rfl, rfl⟩ := trodAll_nil r0
  obtain rfl : args = #[v0] := by cases args; simp_all
  obtain ⟨rfl, rfl⟩ := trodVars_none hV
  have k0 := h0
  have lt0 : ∀ x ∈ p0, x.block < W.heap.size := by obtain ⟨m, hm⟩ := k0; exact DataW.trod_lt m _ _ _ hm
  obtain ⟨me0, ta0, re0, bo0, st0, ba0, fa0, fn0, fc0, fs0, rfl, w0⟩ := open_msg Tryd.underlying24 (by kernel_rfl) (by kernel_rfl) Tryd.underlying9 Tryd.underlying9 Tryd.underlying3 Tryd.underlying9 Tryd.underlying4 rfl Tryd.underlying9 (hval 0 24 v0 rfl rfl) h0
  have tabs := fnExactMsgOk_tabs (W := W) hL
  clear hA0 hval0
  refine (fnExactMsgOk_walk me0 ta0 re0 bo0 st0 ba0 fa0 fn0 fc0 fs0 W w0 tabs).mono fun e W' ⟨he, bel⟩ => ?_
  subst he
  exact ⟨_, rfl, _, _, _, [], _, [], hW', trodAll_mk1 (shut_bool Tryd.underlying4 _), (trodAll_cons_mk (Below.trod Tryd.laidOut (by kernel_rfl) (of_decide_eq_true (by kernel_rfl)) k0 bel lt0) trodAll_mk0), rfl, bel.frame _, fun h => by cases h⟩
theorem fnExactMsgOk_row : Rows.FnExactMsgOkSaid :=
  OpenClaim.holds_of_wide 3 Tryd.f3 rfl rfl rfl rfl rfl rfl rfl ⟨rfl, rfl, rfl, rfl, rfl⟩ rfl rfl rfl rfl rfl (by kernel_rfl) Tryd.func3 (by kernel_rfl)
    (of_decide_eq_true (by kernel_rfl)) (by unfold Func.isWrapper; first | (rw [if_pos (by decide +kernel)]; kernel_rfl) | (rw [if_neg (by decide +kernel)]; exact ⟨rfl, rfl⟩))
    (fun os started H enc _ => fnExactMsgOk_lifted os started H enc)
/-- THE STATEMENT: the card. -/
theorem fnExactMsgOk_holds : Rows.FnExactMsgOkCardSaid :=
  Claim7.holds_tied_plain_at .later [] [.data, .data, .data] true (true, "769832b401ba0dc25cf5c6c9154191ad3df916b49b4a399faf3b571773084397") true
    fnExactMsgOk_row (fun _ h => by cases h) (by kernel_rfl) (fun _ h => by cases h) fnExactMsgOk_row_tie rfl ⟨rfl, rfl⟩ (by kernel_rfl) rfl
    (fun f fn hf hfn => by
      obtain rfl : f = 3 := Option.some.inj ((show Tryd.prog.funcNamed "loop.example/g00651/laws.FnExactMsgOk" = some 3 by kernel_rfl).symm.trans hf) |>.symm
      obtain rfl : fn = Tryd.f3 := (Option.some.inj (Tryd.func3.symm.trans hfn)).symm
      exact ⟨by kernel_rfl, fun j t ht => by
        rw [Tryd.params3] at ht
        rcases j with _ | j
        · have h3 : t = 24 := by simpa using ht.symm
          subst h3
          exact (show Tryd.prog.wantsStandIn 24 = false by kernel_rfl)
        · simp at ht⟩)
    (by kernel_rfl)
#print axioms fnExactMsgOk_holds
end Go.Proofs.YtaelopjalfapgabDoor
