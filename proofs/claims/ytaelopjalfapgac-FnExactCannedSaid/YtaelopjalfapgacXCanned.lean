/-
  FnExactCanned: at every argument impl.Canned answers as spec.Canned, every field; its answer owns its memory. No condition.
-/
import Derived.Test.YtaelopjalfapgacRows
import Derived.Test.YtaelopjalfapgacH11
import Derived.Test.YtaelopjalfapgacOpen
namespace Go.Proofs.Ytaelopjalfapgac
set_option linter.unusedVariables false
set_option linter.unusedSimpArgs false
open Go.ChangeShapes Go.WideShapes Go.ChangeAt Go.RowKit
open Go.ChangeMaps (open_string shut_string)
theorem canA_form (n : Int) (b : Bool) : ∃ (st : Int) (re : ByteArray) (ba : Bool), canA n b = #[.string ⟨#[]⟩, .string ⟨#[]⟩, .int .i64 st, .string re, .bool ba, .slice none 0 0, .string ⟨#[]⟩] := by
  unfold canA
  split
  · exact ⟨_, _, _, rfl⟩
  · exact ⟨_, _, _, rfl⟩
set_option maxHeartbeats 1000000 in
theorem markFieldS_nil (w : World) : Calls Try.prog 27 #[.slice none 0 0, .int .i64 1] w fun e w' => e = .returned (.int .i64 1) ∧ w' = w := by
  go_enter Try.func27, Try.ntmps27
  go_wp2
  go_loop [1, 5] (fun k i => k = .int .i64 1 ∧ i = .int .i64 0) (fun _ _ => 0)
  case atStart => exact ⟨rfl, rfl⟩
  case round =>
    obtain ⟨rfl, rfl⟩ := hrel
    go_wp2
    go_ret
    exact ⟨rfl, rfl⟩
set_option maxHeartbeats 1000000 in
theorem heldFieldS_nil (w : World) : Calls Try.prog 28 #[.slice none 0 0, .int .i64 1] w fun e w' => e = .returned (.int .i64 1) ∧ w' = w := by
  go_enter Try.func28, Try.ntmps28
  go_wp2
  go_loop [1, 5] (fun k i => k = .int .i64 1 ∧ i = .int .i64 0) (fun _ _ => 0)
  case atStart => exact ⟨rfl, rfl⟩
  case round =>
    obtain ⟨rfl, rfl⟩ := hrel
    go_wp2
    go_ret
    exact ⟨rfl, rfl⟩
set_option maxHeartbeats 1000000 in
theorem markMsg_nil (me ta re bo : ByteArray) (st : Int) (ba : Bool) (w : World) : Calls Try.prog 13 #[.agg #[.string me, .string ta, .int .i64 st, .string re, .bool ba, .slice none 0 0, .string bo], .int .i64 1] w fun e w' => e = .returned (.int .i64 1) ∧ Below w.heap.size w w' := by
  have HB := hideB2 (below_a1 w (.cells #[.string me, .string ta, .int .i64 st, .string re, .bool ba, .slice none 0 0, .string bo] 29))
  go_enter Try.func13, Try.ntmps13
  go_wp2_with (go_at_call 27; refine (markFieldS_nil _).mono ?_; rintro e w' ⟨rfl, rfl⟩)
  go_ret
  exact ⟨rfl, HB.out⟩
set_option maxHeartbeats 1000000 in
theorem heldMsg_nil (me ta re bo : ByteArray) (st : Int) (ba : Bool) (w : World) : Calls Try.prog 14 #[.agg #[.string me, .string ta, .int .i64 st, .string re, .bool ba, .slice none 0 0, .string bo], .int .i64 1] w fun e w' => e = .returned (.int .i64 1) ∧ Below w.heap.size w w' := by
  have HB := hideB2 (below_a1 w (.cells #[.string me, .string ta, .int .i64 st, .string re, .bool ba, .slice none 0 0, .string bo] 29))
  go_enter Try.func14, Try.ntmps14
  go_wp2_with (go_at_call 28; refine (heldFieldS_nil _).mono ?_; rintro e w' ⟨rfl, rfl⟩)
  go_ret
  exact ⟨rfl, HB.out⟩
set_option maxHeartbeats 4000000 in
theorem fnExactCanned_walk (n : Int) (b : Bool) (w : World) (hn : (Lit.int .i64 n).wf = true) :
    Calls Try.prog 5 #[.int .i64 n, .bool b] w fun e w' => e = .returned (.bool true) ∧ Below w.heap.size w w' := by
  have HS := hideB2 (fun W => sCanned_any n b W)
  have HI := hideB2 (fun W => Canned_any n b W)
  obtain ⟨st, re, ba, hA⟩ := canA_form n b
  rw [hA] at HS HI
  clear hA
  have HE := hideB2 (fun W => eqMsg_same ⟨#[]⟩ ⟨#[]⟩ re ⟨#[]⟩ st ba none 0 0 [] none 0 W (.inl ⟨rfl, rfl⟩) (.inl ⟨rfl, rfl⟩) (Nat.zero_le _))
  have HM := hideB2 (fun W => markMsg_nil ⟨#[]⟩ ⟨#[]⟩ re ⟨#[]⟩ st ba W)
  have HH := hideB2 (fun W => heldMsg_nil ⟨#[]⟩ ⟨#[]⟩ re ⟨#[]⟩ st ba W)
  go_enter Try.func5, Try.ntmps5
  go_wp2_with fail
  refine (HS.out _).mono ?_
  rintro e w1 ⟨rfl, hb1⟩
  have A1 := Blk.new w1 #[.string ⟨#[]⟩, .string ⟨#[]⟩, .int .i64 st, .string re, .bool ba, .slice none 0 0, .string ⟨#[]⟩] 29
  have hB1 := below_then hb1 (below_a1 w1 (.cells #[.string ⟨#[]⟩, .string ⟨#[]⟩, .int .i64 st, .string re, .bool ba, .slice none 0 0, .string ⟨#[]⟩] 29))
  go_wp2_with fail
  generalize hW : w1.alloc (.cells #[.string ⟨#[]⟩, .string ⟨#[]⟩, .int .i64 st, .string re, .bool ba, .slice none 0 0, .string ⟨#[]⟩] 29) = W1 at *
  clear hW hb1
  refine (HI.out _).mono ?_
  rintro e w2 ⟨rfl, hb2⟩
  have A2 := (A1.later hb2).alloc (.cells #[.string ⟨#[]⟩, .string ⟨#[]⟩, .int .i64 st, .string re, .bool ba, .slice none 0 0, .string ⟨#[]⟩] 29)
  have B2 := Blk.new w2 #[.string ⟨#[]⟩, .string ⟨#[]⟩, .int .i64 st, .string re, .bool ba, .slice none 0 0, .string ⟨#[]⟩] 29
  have hB2 := below_then (below_then hB1 hb2) (below_a1 w2 (.cells #[.string ⟨#[]⟩, .string ⟨#[]⟩, .int .i64 st, .string re, .bool ba, .slice none 0 0, .string ⟨#[]⟩] 29))
  have hlt := (A1.later hb2).lt
  obtain ⟨p0, p1, p2, p3, p4, p5, p6⟩ := A2.c7
  obtain ⟨q0, q1, q2, q3, q4, q5, q6⟩ := B2.c7
  go_wp2_with fail
  generalize hW : w2.alloc (.cells #[.string ⟨#[]⟩, .string ⟨#[]⟩, .int .i64 st, .string re, .bool ba, .slice none 0 0, .string ⟨#[]⟩] 29) = W2 at *
  clear hW hb2 hB1 A1 p0 p1 p2 p3 p4 p5 p6 q0 q1 q2 q3 q4 q5 q6
  generalize w1.heap.size = G1 at *
  generalize w2.heap.size = G2 at *
  refine (HE.out _).mono ?_
  rintro e w3 ⟨rfl, hb3⟩
  have A3 := A2.later hb3
  have B3 := B2.later hb3
  have hB3 := below_then hB2 hb3
  obtain ⟨q0, q1, q2, q3, q4, q5, q6⟩ := B3.c7
  clear A2 B2 hB2 hb3
  go_wp2_with fail
  refine (HM.out _).mono ?_
  rintro e w4 ⟨rfl, hb4⟩
  have A4 := A3.later hb4
  have B4 := B3.later hb4
  have hB4 := below_then hB3 hb4
  clear q0 q1 q2 q3 q4 q5 q6
  obtain ⟨q0, q1, q2, q3, q4, q5, q6⟩ := B4.c7
  clear A3 B3 hB3 hb4
  go_wp2_with fail
  refine (HH.out _).mono ?_
  rintro e w5 ⟨rfl, hb5⟩
  have A5 := A4.later hb5
  have B5 := B4.later hb5
  have hB5 := below_then hB4 hb5
  clear A4 B4 hB4 hb5 q0 q1 q2 q3 q4 q5 q6
  go_wp2_with fail
  refine (HI.out _).mono ?_
  rintro e w6 ⟨rfl, hb6⟩
  have A6 := (A5.later hb6).alloc (.cells #[.string ⟨#[]⟩, .string ⟨#[]⟩, .int .i64 st, .string re, .bool ba, .slice none 0 0, .string ⟨#[]⟩] 29)
  have B6 := (B5.later hb6).alloc (.cells #[.string ⟨#[]⟩, .string ⟨#[]⟩, .int .i64 st, .string re, .bool ba, .slice none 0 0, .string ⟨#[]⟩] 29)
  have C6 := Blk.new w6 #[.string ⟨#[]⟩, .string ⟨#[]⟩, .int .i64 st, .string re, .bool ba, .slice none 0 0, .string ⟨#[]⟩] 29
  have hB6 := below_then (below_then hB5 hb6) (below_a1 w6 (.cells #[.string ⟨#[]⟩, .string ⟨#[]⟩, .int .i64 st, .string re, .bool ba, .slice none 0 0, .string ⟨#[]⟩] 29))
  have hlt6 := (A5.later hb6).lt
  have hlt7 := (B5.later hb6).lt
  obtain ⟨p0, p1, p2, p3, p4, p5, p6⟩ := A6.c7
  obtain ⟨r0, r1, r2, r3, r4, r5, r6⟩ := C6.c7
  clear A5 B5 hB5 hb6
  go_wp2_with fail
  generalize hW : w6.alloc (.cells #[.string ⟨#[]⟩, .string ⟨#[]⟩, .int .i64 st, .string re, .bool ba, .slice none 0 0, .string ⟨#[]⟩] 29) = W6 at *
  clear hW p0 p1 p2 p3 p4 p5 p6 r0 r1 r2 r3 r4 r5 r6
  generalize w6.heap.size = G6 at *
  refine (HE.out _).mono ?_
  rintro e w7 ⟨rfl, hb7⟩
  have B7 := B6.later hb7
  have hB7 := below_then hB6 hb7
  obtain ⟨q0, q1, q2, q3, q4, q5, q6⟩ := B7.c7
  clear A6 B6 C6 hB6 hb7
  go_wp2_with fail
  refine (HH.out _).mono ?_
  rintro e w8 ⟨rfl, hb8⟩
  have HB := hideB2 (below_then hB7 hb8)
  clear B7 hB7 hb8 q0 q1 q2 q3 q4 q5 q6
  go_wp2
  go_ret
  exact ⟨rfl, HB.out⟩

set_option maxRecDepth 100000 in
theorem fnExactCanned_lifted (os : Os) (started : os.Started) (H : Type) (enc : TypeId × Value → H) :
    ReturnsInHanded {} Try.checked os 5 .any (Rows.fnExactCannedSpec.pre6 enc Try.prog Try.f5 Rows.fnExactCannedRow.domain false) (Rows.fnExactCannedSpec.post enc Try.prog Try.f5 false true false false) := by
  refine returnsInHanded_of_change (C := Try.checked) Try.own started (by kernel_rfl) Try.func5
    (ChangeSpec.witness6 (enc := enc) (C := Try.checked) false ⟨#[], #[.int .i64 0, .bool false], []⟩ 8 (by kernel_rfl) (by kernel_rfl) (by kernel_rfl) (by kernel_rfl)) ?_
  intro W base args ds gs before hval0 hW hcnd _
  have hval : ∀ (j : Nat) t v, Try.f5.params[j]? = some t → args[j]? = some v → Value.okWide Try.prog W .any base t v := hval0
  have hW' := hW
  obtain ⟨p, q, hA0, hV, rfl, hfz, hnd⟩ := hW
  have hA : DataW.TrodAll enc Try.prog W 0 (fun _ => true) true Try.f5.params.toList args.toList ds p := hA0
  rw [Try.params5] at hA hval
  obtain ⟨v0, vs0, d0, ds0, p0, q0, hargs, rfl, rfl, h0, r0⟩ := trodAll_cons hA
  obtain ⟨v1, vs1, d1, ds1, p1, q1, rfl, rfl, rfl, h1, r1⟩ := trodAll_cons r0
  obtain ⟨rfl, rfl, rfl⟩ := trodAll_nil r1
  obtain rfl : args = #[v0, v1] := by cases args; simp_all
  obtain ⟨rfl, rfl⟩ := trodVars_none hV
  obtain ⟨a0, rfl, rfl, rfl, w0⟩ := open_int Try.underlying3 (hval 0 3 v0 rfl rfl) h0
  obtain ⟨a1, rfl, rfl, rfl⟩ := open_bool Try.underlying4 (hval 1 4 v1 rfl rfl) h1
  clear hA0 hval0
  simp only [List.append_nil] at hW'
  refine (fnExactCanned_walk a0 a1 W w0).mono fun e W' ⟨he, bel⟩ => ?_
  subst he
  exact ⟨_, rfl, _, _, _, [], [], [], hW', trodAll_mk1 (shut_bool Try.underlying4 _), (trodAll_cons_mk (shut_int Try.underlying3 w0) (trodAll_cons_mk (shut_bool Try.underlying4 a1) trodAll_mk0)), rfl, bel.frame _, fun h => by cases h⟩

/-- THE STATEMENT -/
theorem fnExactCanned_holds : Rows.FnExactCannedSaid :=
  OpenClaim.holds_of_wide 5 Try.f5 rfl rfl rfl rfl rfl rfl rfl ⟨rfl, rfl, rfl, rfl, rfl⟩ rfl rfl rfl rfl rfl (by kernel_rfl) Try.func5 (by kernel_rfl)
    (of_decide_eq_true (by kernel_rfl)) (by unfold Func.isWrapper; first | (rw [if_pos (by decide +kernel)]; kernel_rfl) | (rw [if_neg (by decide +kernel)]; exact ⟨rfl, rfl⟩))
    (fun os started H enc _ => fnExactCanned_lifted os started H enc)
#print axioms fnExactCanned_holds
end Go.Proofs.Ytaelopjalfapgac
