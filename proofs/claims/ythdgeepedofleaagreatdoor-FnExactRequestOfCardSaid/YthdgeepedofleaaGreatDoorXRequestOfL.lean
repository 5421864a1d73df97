/-
  The walk of:   FnExactRequestOf: at every argument impl.RequestOf answers as spec.RequestOf; its answer owns its memory, behind another call too, and writes into no argument. The condition: the listed tables hold what the program's text lays (the card ties them); what is greater than 2^20 is passed by the law itself.
-/
import Derived.Test.YthdgeepedofleaaGreatDoorRows
import Derived.Test.YthdgeepedofleaaGreatDoorTie
import Derived.Test.YthdgeepedofleaaGreatDoorCards
import Derived.Test.YthdgeepedofleaaGreatDoorJ14
import Derived.Test.YthdgeepedofleaaGreatDoorJ9
import Derived.Test.YthdgeepedofleaaGreatDoorJ15
import Derived.LaidMore
import Derived.Lay
import Derived.LaidLaws
import Derived.SevenTiedAt
import Derived.Stop.Joined
namespace Go.Proofs.YthdgeepedofleaaGreatDoor
set_option linter.unusedVariables false
set_option linter.unusedSimpArgs false
open Go.ChangeShapes Go.WideShapes Go.ChangeAt Go.RowKit
open Go.ChangeMaps (open_string shut_string)
theorem fnExactRequestOf_tabs {W : World} (h : laidMetH Tryz.prog Rows.fnExactRequestOfRow.laid W) : Tab10 W := by
  rw [MakeChecks.laidMetH_plain _ _ _ (by kernel_rfl)] at h
  exact dectab_of_laid (by unfold Rows.fnExactRequestOfRow; simp only [List.mem_cons, List.mem_singleton, Prod.mk.injEq]; simp) h
set_option maxRecDepth 10000 in
set_option maxHeartbeats 4000000 in
theorem fnExactRequestOf_walk (x : Ex) (w : World) (hz : ZE x) (htab : Tab10 w) :
    Calls Tryz.prog 8 #[exV x] w fun e w' => e = .returned (.bool true) ∧ Below w.heap.size w w' := by
  have HS := hideB2 (fun W z1 z2 z3 => sRequestOf_any x W z1 z2 z3)
  have HI := hideB2 (fun W z1 z2 z3 (h : Tab10 W) => RequestOf_any x W z1 z2 z3 h)
  have HL := reqX_bds x
  generalize reqX x = R at *
  obtain ⟨me, ta, st, re, ba, fs, bo⟩ := R
  have hLm : fs.length ≤ 1048576 := Nat.le_trans HL.fs (by decide)
  have HLM := hideB2 hLm
  have hqp : ¬ 1 + 2 * (fs.length : Int) < 0 := by omega
  have hqq : ((1 + 2 * (fs.length : Int)) != (1 + 2 * (fs.length : Int))) = false := by simp
  clear HL hLm
  simp only [mgV] at HS HI
  obtain ⟨si, ak, wh, ur, rq, an⟩ := x
  obtain ⟨d1, d2, d3⟩ := hz
  simp only at d1 d2 d3 HS HI
  unfold exV exC6 at *
  simp only at HS HI ⊢
  have hb0 := below_a1 w (.cells #[.int .i64 si, .int .i64 ak, .int .i64 wh, .string ur, .string rq, .string an] 42)
  have A0 := Blk.new w #[.int .i64 si, .int .i64 ak, .int .i64 wh, .string ur, .string rq, .string an] 42
  have HT := hideB2 htab
  clear htab
  go_enter Tryz.func8, Tryz.ntmps8
  go_wp2_with fail
  generalize hW : w.alloc (.cells #[.int .i64 si, .int .i64 ak, .int .i64 wh, .string ur, .string rq, .string an] 42) = W0 at *
  clear hW
  refine (szExch_any si ak wh ur rq an _ _ d1 d2 d3 (by omega) (by omega)).mono ?_
  rintro e w1 ⟨rfl, hb1⟩
  have A1 := A0.later hb1
  have hbw1 := below_then hb0 hb1
  by_cases hs : (ur.size : Int) + (rq.size : Int) + (an.size : Int) ≤ 1048576
  · rw [if_pos hs]
    have hge : ¬ (1048576 : Int) - (ur.size : Int) - (rq.size : Int) - (an.size : Int) < 0 := by omega
    have z1 : ur.size ≤ 1048576 := by omega
    have z2 : rq.size ≤ 1048576 := by omega
    have z3 : an.size ≤ 1048576 := by omega
    replace HS := hideB2 (fun W => HS.out W z1 z2 z3)
    replace HI := hideB2 (fun W h => HI.out W z1 z2 z3 h)
    obtain ⟨p0, p1, p2, p3, p4, p5⟩ := A1.c6
    clear hs d1 d2 d3 z1 z2 z3 A0 hb0 hb1
    go_wp2_with fail
    refine (toExch_any si ak wh ur rq an _).mono ?_
    rintro e w2 ⟨rfl, hb2⟩
    go_wp2_with fail
    refine (HS.out _).mono ?_
    rintro e u1 ⟨v1, rfl, hbuf1⟩
    obtain ⟨hs1, hf1, hb1'⟩ := hbuf1.ans
    obtain ⟨o1, c1, rfl⟩ := hs1.form
    have E3 := (A1.later hb2).later hb1'
    have hbw3 := below_then (below_then hbw1 hb2) hb1'
    have hal := below_a1 u1 (.cells #[.string me, .string ta, .int .i64 st, .string re, .bool ba, .slice o1 fs.length c1, .string bo] 50)
    have A1' := Blk.new u1 #[.string me, .string ta, .int .i64 st, .string re, .bool ba, .slice o1 fs.length c1, .string bo] 50
    have E4 := E3.alloc (.cells #[.string me, .string ta, .int .i64 st, .string re, .bool ba, .slice o1 fs.length c1, .string bo] 50)
    have hltE := E3.lt
    have hB1 := below_then hbw3 hal
    have s1 := hs1.later hal
    have hlt1 : ∀ g, (Value.slice o1 fs.length c1).ownBlock = some g → g < u1.heap.size := fun g h => hs1.own_lt h
    clear hbuf1 hs1 hf1 p0 p1 p2 p3 p4 p5 A1 hbw1 hb2 E3 hbw3 hb1'
    obtain ⟨p0, p1, p2, p3, p4, p5⟩ := E4.c6
    go_wp2_with fail
    generalize hW : u1.alloc (.cells #[.string me, .string ta, .int .i64 st, .string re, .bool ba, .slice o1 fs.length c1, .string bo] 50) = W1 at *
    clear hW hal
    refine (toExch_any si ak wh ur rq an _).mono ?_
    rintro e w4 ⟨rfl, hb4⟩
    have E5 := E4.later hb4
    have A2' := A1'.later hb4
    have s2 := s1.later hb4
    have hB2 := below_then hB1 hb4
    have hltA := A1'.lt
    have hwW : w.heap.size ≤ w4.heap.size := hB2.size
    have hA4 := A2'.lt
    clear p0 p1 p2 p3 p4 p5 E4 A1' s1 hB1 hb4
    go_wp2_with fail
    refine (HI.out _ (tab_later HT.out hB2)).mono ?_
    rintro e w5 ⟨v2, rfl, hbuf2⟩
    obtain ⟨hs2, hf2, hb5⟩ := hbuf2.ans
    obtain ⟨o2, c2, rfl⟩ := hs2.form
    have hal := below_a1 w5 (.cells #[.string me, .string ta, .int .i64 st, .string re, .bool ba, .slice o2 fs.length c2, .string bo] 50)
    have E6 := (E5.later hb5).alloc (.cells #[.string me, .string ta, .int .i64 st, .string re, .bool ba, .slice o2 fs.length c2, .string bo] 50)
    have A3' := (A2'.later hb5).alloc (.cells #[.string me, .string ta, .int .i64 st, .string re, .bool ba, .slice o2 fs.length c2, .string bo] 50)
    have B3 := Blk.new w5 #[.string me, .string ta, .int .i64 st, .string re, .bool ba, .slice o2 fs.length c2, .string bo] 50
    have hB3 := below_then (below_then hB2 hb5) hal
    have s3 := (s2.later hb5).later hal
    have t3 := hs2.later hal
    have hlA := (A2'.later hb5).lt
    have hlE := (E5.later hb5).lt
    have hlt2 : ∀ g, (Value.slice o2 fs.length c2).ownBlock = some g → g < w5.heap.size := fun g h => hs2.own_lt h
    obtain ⟨p0, p1, p2, p3, p4, p5, p6⟩ := A3'.c7
    obtain ⟨q0, q1, q2, q3, q4, q5, q6⟩ := B3.c7
    clear hbuf2 hs2 s2 E5 A2'
    go_wp2_with fail
    generalize hW : w5.alloc (.cells #[.string me, .string ta, .int .i64 st, .string re, .bool ba, .slice o2 fs.length c2, .string bo] 50) = W2 at *
    clear hW hb5 hB2 hal p0 p1 p2 p3 p4 p5 p6 q0 q1 q2 q3 q4 q5 q6
    generalize hG1 : u1.heap.size = G1 at *
    generalize hG2 : w5.heap.size = G2 at *
    refine (eqMsg_same me ta re bo st ba o2 fs.length c2 fs o1 c1 _ t3 s3 HLM.out).mono ?_
    rintro e w6 ⟨rfl, hb6⟩
    have A6 := A3'.later hb6
    have B6 := B3.later hb6
    have E7 := E6.later hb6
    have s6 := s3.later hb6
    have t6 := t3.later hb6
    have hB6 := hB3.trans (hb6.mono hB3.size)
    obtain ⟨q0, q1, q2, q3, q4, q5, q6⟩ := B6.c7
    clear A3' B3 E6 hB3 hb6 s3 t3
    go_wp2_with fail
    refine (markMsg_any me ta re bo st ba o2 fs.length c2 fs _ t6 HLM.out).mono ?_
    rintro e w7 ⟨rfl, m7, hk7⟩
    have hB7 : Below w.heap.size w w7 := grown_below hB6 hk7 (fun g h => by have := hf2 g h; omega) hB6.size
    have A7 : Blk w7 G1 #[.string me, .string ta, .int .i64 st, .string re, .bool ba, .slice o1 fs.length c1, .string bo] 50 := (hk7.block G1 A6.lt (fun h => by have := hf2 G1 h.symm; omega)).trans A6
    have B7 : Blk w7 G2 #[.string me, .string ta, .int .i64 st, .string re, .bool ba, .slice o2 fs.length c2, .string bo] 50 := (hk7.block G2 B6.lt (fun h => by have := hlt2 G2 h.symm; omega)).trans B6
    have E8 : Blk w7 w.heap.size #[.int .i64 si, .int .i64 ak, .int .i64 wh, .string ur, .string rq, .string an] 42 := (hk7.block w.heap.size E7.lt (fun h => by have := hf2 w.heap.size h.symm; omega)).trans E7
    have s7 := s6.gb hk7 (fun g h h' => by have := hlt1 g h; have := hf2 g h'; omega)
    clear q0 q1 q2 q3 q4 q5 q6
    obtain ⟨q0, q1, q2, q3, q4, q5, q6⟩ := B7.c7
    clear A6 B6 E7 hB6 hk7 s6 t6
    go_wp2_with fail
    refine (heldMsg_any me ta re bo st ba o2 fs.length c2 fs.length _ m7 HLM.out).mono ?_
    rintro e w8 ⟨rfl, hb8⟩
    have A8 := A7.later hb8
    have B8 := B7.later hb8
    have E9 := E8.later hb8
    have s8 := s7.later hb8
    have m8 := m7.later hb8
    have hB8 := hB7.trans (hb8.mono hB7.size)
    clear A7 B7 E8 hB7 hb8 s7 m7 q0 q1 q2 q3 q4 q5 q6
    obtain ⟨p0, p1, p2, p3, p4, p5⟩ := E9.c6
    go_wp2_with fail
    refine (toExch_any si ak wh ur rq an _).mono ?_
    rintro e w9 ⟨rfl, hb9⟩
    have A9 := A8.later hb9
    have B9 := B8.later hb9
    have s9 := s8.later hb9
    have m9 := m8.later hb9
    have hB9 := hB8.trans (hb9.mono hB8.size)
    clear A8 B8 E9 hB8 hb9 s8 m8 p0 p1 p2 p3 p4 p5
    go_wp2_with fail
    refine (HI.out _ (tab_later HT.out hB9)).mono ?_
    rintro e wa ⟨v3, rfl, hbufa⟩
    obtain ⟨hsa, hfa, hba⟩ := hbufa.ans
    obtain ⟨o3, c3, rfl⟩ := hsa.form
    have hal := below_a1 wa (.cells #[.string me, .string ta, .int .i64 st, .string re, .bool ba, .slice o3 fs.length c3, .string bo] 50)
    have Aa := (A9.later hba).alloc (.cells #[.string me, .string ta, .int .i64 st, .string re, .bool ba, .slice o3 fs.length c3, .string bo] 50)
    have Ba := (B9.later hba).alloc (.cells #[.string me, .string ta, .int .i64 st, .string re, .bool ba, .slice o3 fs.length c3, .string bo] 50)
    have Ca := Blk.new wa #[.string me, .string ta, .int .i64 st, .string re, .bool ba, .slice o3 fs.length c3, .string bo] 50
    have hBa : Below w.heap.size w (wa.alloc (.cells #[.string me, .string ta, .int .i64 st, .string re, .bool ba, .slice o3 fs.length c3, .string bo] 50)) := (hB9.trans (hba.mono hB9.size)).trans (hal.mono (Nat.le_trans hB9.size hba.size))
    have sa := (s9.later hba).later hal
    have ma := (m9.later hba).later hal
    have ta' := hsa.later hal
    have hla := (A9.later hba).lt
    have hlb := (B9.later hba).lt
    obtain ⟨p0, p1, p2, p3, p4, p5, p6⟩ := Aa.c7
    obtain ⟨r0, r1, r2, r3, r4, r5, r6⟩ := Ca.c7
    clear A9 B9 hB9 hba s9 m9 hsa hbufa
    go_wp2_with fail
    generalize hW : wa.alloc (.cells #[.string me, .string ta, .int .i64 st, .string re, .bool ba, .slice o3 fs.length c3, .string bo] 50) = Wa at *
    clear hW hal p0 p1 p2 p3 p4 p5 p6 r0 r1 r2 r3 r4 r5 r6
    generalize wa.heap.size = G6 at *
    refine (eqMsg_same me ta re bo st ba o3 fs.length c3 fs o1 c1 _ ta' sa HLM.out).mono ?_
    rintro e wb ⟨rfl, hbb⟩
    have Bb := Ba.later hbb
    have mb := ma.later hbb
    have hBb := hBa.trans (hbb.mono hBa.size)
    obtain ⟨q0, q1, q2, q3, q4, q5, q6⟩ := Bb.c7
    clear Aa Ba Ca hBa hbb sa ma ta'
    go_wp2_with fail
    refine (heldMsg_any me ta re bo st ba o2 fs.length c2 fs.length _ mb HLM.out).mono ?_
    rintro e wc ⟨rfl, hbc⟩
    have HB := hideB2 (hBb.trans (hbc.mono hBb.size))
    clear Bb hBb hbc mb q0 q1 q2 q3 q4 q5 q6
    go_wp2
    go_ret
    exact ⟨rfl, HB.out⟩
  · rw [if_neg hs]
    clear A0 A1
    go_wp2
    go_ret
    exact ⟨rfl, hbw1⟩

set_option maxRecDepth 100000 in
theorem fnExactRequestOf_lifted (os : Os) (started : os.Started) (H : Type) (enc : TypeId × Value → H) :
    ReturnsInHanded {} Tryz.checked os 8 .any (fun w args => (Rows.fnExactRequestOfSpec.pre enc Tryz.prog Tryz.f8 [] false w args ∧ laidMetH Tryz.prog Rows.fnExactRequestOfRow.laid w) ∧ sizedMet enc Tryz.prog Tryz.f8 (OpenSpec.ofChange Rows.fnExactRequestOfSpec) false w args)
      (Rows.fnExactRequestOfSpec.post enc Tryz.prog Tryz.f8 false true false false) := by
  refine returnsInHanded_of_change_and (C := Tryz.checked) (X := fun w _ => laidMetH Tryz.prog Rows.fnExactRequestOfRow.laid w) (fun _ _ _ hh h => h.of_heap hh) Tryz.own started (by kernel_rfl) Tryz.func8
    (ChangeSpec.witness_shaped (enc := enc) (C := Tryz.checked) (os := os) (X := fun w _ => laidMetH Tryz.prog Rows.fnExactRequestOfRow.laid w) false (World.laidAll Tryz.prog os Rows.fnExactRequestOfRow.laid) #[.agg #[.int .i64 0, .int .i64 0, .int .i64 0, .string ByteArray.empty, .string ByteArray.empty, .string ByteArray.empty]] 8 (World.laidAll_os _ _ _) (World.shaped_of_ZipB (by kernel_rfl) (by kernel_rfl)) (by kernel_rfl) (by kernel_rfl) (by kernel_rfl)
      (by rw [MakeChecks.laidMetH_plain _ _ _ (by kernel_rfl)]; exact laidMet_laidAll _ (by kernel_rfl) (by kernel_rfl))) ?_
  intro W base args ds gs before hval0 hW _ _ hL _
  have hval : ∀ (j : Nat) t v, Tryz.f8.params[j]? = some t → args[j]? = some v → Value.okWide Tryz.prog W .any base t v := hval0
  have hW' := hW
  obtain ⟨p, q, hA0, hV, rfl, hfz, hnd⟩ := hW
  have hA : DataW.TrodAll enc Tryz.prog W 0 (fun _ => true) true Tryz.f8.params.toList args.toList ds p := hA0
  rw [Tryz.params8] at hA hval
  obtain ⟨v0, vs0, d0, ds0, p0, q0, hargs, rfl, rfl, h0, r0⟩ := trodAll_cons hA
  obtain ⟨rfl, rfl, rfl⟩ := trodAll_nil r0
  obtain rfl : args = #[v0] := by cases args; simp_all
  obtain ⟨rfl, rfl⟩ := trodVars_none hV
  have k0 := h0
  have lt0 : ∀ x ∈ p0, x.block < W.heap.size := by obtain ⟨m, hm⟩ := k0; exact DataW.trod_lt m _ _ _ hm
  obtain ⟨x0, rfl, w0⟩ := open_exch (hval 0 42 v0 rfl rfl) h0
  have tabs := fnExactRequestOf_tabs (W := W) hL
  clear hA0 hval0
  refine (fnExactRequestOf_walk x0 W w0 tabs).mono fun e W' ⟨he, bel⟩ => ?_
  subst he
  exact ⟨_, rfl, _, _, _, [], _, [], hW', trodAll_mk1 (shut_bool Tryz.underlying4 _), (trodAll_cons_mk (Below.trod Tryz.laidOut (by kernel_rfl) (of_decide_eq_true (by kernel_rfl)) k0 bel lt0) trodAll_mk0), rfl, bel.frame _, fun h => by cases h⟩
end Go.Proofs.YthdgeepedofleaaGreatDoor
