/-
  FnExactReadAnswer: at every argument impl.ReadAnswer answers as spec.ReadAnswer, every field; its answer owns its memory, behind another call too. The condition: the listed tables hold what the program's text lays (the card ties them); what is greater than 2^20 is passed by the law itself.
-/
import Derived.Test.YtodandipfjamnaaGreatDoorRows
import Derived.Test.YtodandipfjamnaaGreatDoorTie
import Derived.Test.YtodandipfjamnaaGreatDoorCards
import Derived.Test.YtodandipfjamnaaGreatDoorJ4
import Derived.Test.YtodandipfjamnaaGreatDoorJ9
import Derived.LaidMore
import Derived.Lay
import Derived.LaidLaws
import Derived.SevenTiedAt
import Derived.Stop.Joined
namespace Go.Proofs.YtodandipfjamnaaGreatDoor
set_option linter.unusedVariables false
set_option linter.unusedSimpArgs false
open Go.ChangeShapes Go.WideShapes Go.ChangeAt Go.RowKit
open Go.ChangeMaps (open_string shut_string)
theorem fnExactReadAnswer_tabs {W : World} (h : laidMetH Tryz.prog Rows.fnExactReadAnswerRow.laid W) : Tab10 W := by
  rw [MakeChecks.laidMetH_plain _ _ _ (by kernel_rfl)] at h
  exact dectab_of_laid (by unfold Rows.fnExactReadAnswerRow; simp only [List.mem_cons, List.mem_singleton, Prod.mk.injEq]; simp) h
set_option maxRecDepth 10000 in
set_option maxHeartbeats 4000000 in
theorem fnExactReadAnswer_walk (s : ByteArray) (head : Bool) (w : World) (hs0 : s.size ≤ maxLen) (htab : Tab10 w) :
    Calls Tryz.prog 4 #[.string s, .bool head] w fun e w' => e = .returned (.bool true) ∧ Below w.heap.size w w' := by
  have hs1 := hs0
  unfold maxLen at hs1
  by_cases hbig : (1048576 : Int) < (s.size : Int)
  · go_enter Tryz.func4, Tryz.ntmps4
    go_wp2
    go_ret
    exact ⟨rfl, Below.refl _ _⟩
  · have hs2 : s.size ≤ 1048576 := by omega
    have HS := hideB2 (fun W => sReadAnswer_any s head W hs2)
    have HI := hideB2 (fun W (h : Tab10 W) => ReadAnswer_any s head W hs2 h)
    have HL := exM_len true head s
    have HT := hideB2 htab
    clear htab
    generalize exM (msX true head s) = g at *
    generalize exC (msX true head s) = z0 at *
    have hz0 : (z0 != z0) = false := by simp
    obtain ⟨me, ta, st, re, ba, fs, bo⟩ := g
    simp only [mgV] at HS HI
    have hLm : fs.length ≤ 1048576 := Nat.le_trans HL (by decide)
    have HLM := hideB2 hLm
    have hqp : ¬ 1 + 2 * (fs.length : Int) < 0 := by omega
    have hqq : ((1 + 2 * (fs.length : Int)) != (1 + 2 * (fs.length : Int))) = false := by simp
    clear HL hs0 hs1 hs2 hLm
    go_enter Tryz.func4, Tryz.ntmps4
    go_wp2_with fail
    refine (HS.out _).mono ?_
    rintro e w1 ⟨v1, rfl, hbuf1⟩
    obtain ⟨hs1, hf1, hb1⟩ := hbuf1.ans
    obtain ⟨o1, c1, rfl⟩ := hs1.form
    have hal := below_a1 w1 (.cells #[.string me, .string ta, .int .i64 st, .string re, .bool ba, .slice o1 fs.length c1, .string bo] 24)
    have A1 := Blk.new w1 #[.string me, .string ta, .int .i64 st, .string re, .bool ba, .slice o1 fs.length c1, .string bo] 24
    have hB1 := below_then hb1 hal
    have s1 := hs1.later hal
    have hlt1 : ∀ g, (Value.slice o1 fs.length c1).ownBlock = some g → g < w1.heap.size := fun g h => hs1.own_lt h
    clear hbuf1 hs1 hf1
    go_wp2_with fail
    generalize hW : w1.alloc (.cells #[.string me, .string ta, .int .i64 st, .string re, .bool ba, .slice o1 fs.length c1, .string bo] 24) = W1 at *
    clear hW hb1 hal
    refine (HI.out _ (tab_later HT.out hB1)).mono ?_
    rintro e w2 ⟨v2, rfl, hbuf2⟩
    obtain ⟨hs2, hf2, hb2⟩ := hbuf2.ans
    obtain ⟨o2, c2, rfl⟩ := hs2.form
    have hax := below_a1 w2 (.cells #[.string me, .string ta, .int .i64 st, .string re, .bool ba, .slice o1 fs.length c1, .string bo] 24)
    have hal := below_a1 w2 (.cells #[.string me, .string ta, .int .i64 st, .string re, .bool ba, .slice o2 fs.length c2, .string bo] 24)
    have A2 := (A1.later hb2).alloc (.cells #[.string me, .string ta, .int .i64 st, .string re, .bool ba, .slice o2 fs.length c2, .string bo] 24)
    have B2 := Blk.new w2 #[.string me, .string ta, .int .i64 st, .string re, .bool ba, .slice o2 fs.length c2, .string bo] 24
    have hB2 := below_then (below_then hB1 hb2) hal
    have s2 := (s1.later hb2).later hal
    have t2 := hs2.later hal
    have hlt := (A1.later hb2).lt
    have hltA := A1.lt
    have hwW : w.heap.size ≤ W1.heap.size := hB1.size
    have hlt2 : ∀ g, (Value.slice o2 fs.length c2).ownBlock = some g → g < w2.heap.size := fun g h => hs2.own_lt h
    obtain ⟨p0, p1, p2, p3, p4, p5, p6⟩ := A2.c7
    obtain ⟨q0, q1, q2, q3, q4, q5, q6⟩ := B2.c7
    clear hbuf2 hs2 s1
    go_wp2_with fail
    generalize hW : w2.alloc (.cells #[.string me, .string ta, .int .i64 st, .string re, .bool ba, .slice o2 fs.length c2, .string bo] 24) = W2 at *
    clear hW hb2 hB1 A1 hal hax p0 p1 p2 p3 p4 p5 p6 q0 q1 q2 q3 q4 q5 q6
    have hW1 : w1.heap.size < W1.heap.size := hltA
    generalize hG1 : w1.heap.size = G1 at *
    generalize hG2 : w2.heap.size = G2 at *
    refine (eqMsg_same me ta re bo st ba o2 fs.length c2 fs o1 c1 _ t2 s2 HLM.out).mono ?_
    rintro e w3 ⟨rfl, hb3⟩
    have A3 := A2.later hb3
    have B3 := B2.later hb3
    have s3 := s2.later hb3
    have t3 := t2.later hb3
    have hB3 := below_then hB2 hb3
    obtain ⟨q0, q1, q2, q3, q4, q5, q6⟩ := B3.c7
    clear A2 B2 hB2 hb3 s2 t2
    go_wp2_with fail
    refine (markMsg_any me ta re bo st ba o2 fs.length c2 fs _ t3 HLM.out).mono ?_
    rintro e w4 ⟨rfl, m4, hk4⟩
    have hB4 : Below w.heap.size w w4 := grown_below hB3 hk4 (fun g h => by have := hf2 g h; omega) hB3.size
    have A4 : Blk w4 G1 #[.string me, .string ta, .int .i64 st, .string re, .bool ba, .slice o1 fs.length c1, .string bo] 24 := (hk4.block G1 A3.lt (fun h => by have := hf2 G1 h.symm; omega)).trans A3
    have B4 : Blk w4 G2 #[.string me, .string ta, .int .i64 st, .string re, .bool ba, .slice o2 fs.length c2, .string bo] 24 := (hk4.block G2 B3.lt (fun h => by have := hlt2 G2 h.symm; omega)).trans B3
    have s4 := s3.gb hk4 (fun g h h' => by have := hlt1 g h; have := hf2 g h'; omega)
    clear q0 q1 q2 q3 q4 q5 q6
    obtain ⟨q0, q1, q2, q3, q4, q5, q6⟩ := B4.c7
    clear A3 B3 hB3 hk4 s3 t3
    go_wp2_with fail
    refine (heldMsg_any me ta re bo st ba o2 fs.length c2 fs.length _ m4 HLM.out).mono ?_
    rintro e w5 ⟨rfl, hb5⟩
    have A5 := A4.later hb5
    have B5 := B4.later hb5
    have s5 := s4.later hb5
    have m5 := m4.later hb5
    have hB5 := below_then hB4 hb5
    clear A4 B4 hB4 hb5 s4 m4 q0 q1 q2 q3 q4 q5 q6
    go_wp2_with fail
    refine (HI.out _ (tab_later HT.out hB5)).mono ?_
    rintro e w6 ⟨v3, rfl, hbuf6⟩
    obtain ⟨hs6, hf6, hb6⟩ := hbuf6.ans
    obtain ⟨o3, c3, rfl⟩ := hs6.form
    have hal := below_a1 w6 (.cells #[.string me, .string ta, .int .i64 st, .string re, .bool ba, .slice o3 fs.length c3, .string bo] 24)
    have A6 := (A5.later hb6).alloc (.cells #[.string me, .string ta, .int .i64 st, .string re, .bool ba, .slice o3 fs.length c3, .string bo] 24)
    have B6 := (B5.later hb6).alloc (.cells #[.string me, .string ta, .int .i64 st, .string re, .bool ba, .slice o3 fs.length c3, .string bo] 24)
    have C6 := Blk.new w6 #[.string me, .string ta, .int .i64 st, .string re, .bool ba, .slice o3 fs.length c3, .string bo] 24
    have hB6 := below_then (below_then hB5 hb6) hal
    have s6 := (s5.later hb6).later hal
    have m6 := (m5.later hb6).later hal
    have t6 := hs6.later hal
    have hlt6 := (A5.later hb6).lt
    have hlt7 := (B5.later hb6).lt
    obtain ⟨p0, p1, p2, p3, p4, p5, p6⟩ := A6.c7
    obtain ⟨r0, r1, r2, r3, r4, r5, r6⟩ := C6.c7
    clear A5 B5 hB5 hb6 s5 m5 hs6 hbuf6
    go_wp2_with fail
    generalize hW : w6.alloc (.cells #[.string me, .string ta, .int .i64 st, .string re, .bool ba, .slice o3 fs.length c3, .string bo] 24) = W6 at *
    clear hW hal p0 p1 p2 p3 p4 p5 p6 r0 r1 r2 r3 r4 r5 r6
    generalize w6.heap.size = G6 at *
    refine (eqMsg_same me ta re bo st ba o3 fs.length c3 fs o1 c1 _ t6 s6 HLM.out).mono ?_
    rintro e w7 ⟨rfl, hb7⟩
    have B7 := B6.later hb7
    have m7 := m6.later hb7
    have hB7 := below_then hB6 hb7
    obtain ⟨q0, q1, q2, q3, q4, q5, q6⟩ := B7.c7
    clear A6 B6 C6 hB6 hb7 s6 m6 t6
    go_wp2_with fail
    refine (heldMsg_any me ta re bo st ba o2 fs.length c2 fs.length _ m7 HLM.out).mono ?_
    rintro e w8 ⟨rfl, hb8⟩
    have HB := hideB2 (below_then hB7 hb8)
    clear B7 hB7 hb8 m7 q0 q1 q2 q3 q4 q5 q6
    go_wp2
    go_ret
    exact ⟨rfl, HB.out⟩

set_option maxRecDepth 100000 in
theorem fnExactReadAnswer_lifted (os : Os) (started : os.Started) (H : Type) (enc : TypeId × Value → H) :
    ReturnsInHanded {} Tryz.checked os 4 .any (fun w args => (Rows.fnExactReadAnswerSpec.pre enc Tryz.prog Tryz.f4 [] false w args ∧ laidMetH Tryz.prog Rows.fnExactReadAnswerRow.laid w) ∧ sizedMet enc Tryz.prog Tryz.f4 (OpenSpec.ofChange Rows.fnExactReadAnswerSpec) false w args)
      (Rows.fnExactReadAnswerSpec.post enc Tryz.prog Tryz.f4 false true false false) := by
  refine returnsInHanded_of_change_and (C := Tryz.checked) (X := fun w _ => laidMetH Tryz.prog Rows.fnExactReadAnswerRow.laid w) (fun _ _ _ hh h => h.of_heap hh) Tryz.own started (by kernel_rfl) Tryz.func4
    (ChangeSpec.witness_shaped (enc := enc) (C := Tryz.checked) (os := os) (X := fun w _ => laidMetH Tryz.prog Rows.fnExactReadAnswerRow.laid w) false (World.laidAll Tryz.prog os Rows.fnExactReadAnswerRow.laid) #[.string ByteArray.empty, .bool false] 8 (World.laidAll_os _ _ _) (World.shaped_of_ZipB (by kernel_rfl) (by kernel_rfl)) (by kernel_rfl) (by kernel_rfl) (by kernel_rfl)
      (by rw [MakeChecks.laidMetH_plain _ _ _ (by kernel_rfl)]; exact laidMet_laidAll _ (by kernel_rfl) (by kernel_rfl))) ?_
  intro W base args ds gs before hval0 hW _ _ hL _
  have hval : ∀ (j : Nat) t v, Tryz.f4.params[j]? = some t → args[j]? = some v → Value.okWide Tryz.prog W .any base t v := hval0
  have hW' := hW
  obtain ⟨p, q, hA0, hV, rfl, hfz, hnd⟩ := hW
  have hA : DataW.TrodAll enc Tryz.prog W 0 (fun _ => true) true Tryz.f4.params.toList args.toList ds p := hA0
  rw [Tryz.params4] at hA hval
  obtain ⟨v0, vs0, d0, ds0, p0, q0, hargs, rfl, rfl, h0, r0⟩ := trodAll_cons hA
  obtain ⟨v1, vs1, d1, ds1, p1, q1, rfl, rfl, rfl, h1, r1⟩ := trodAll_cons r0
  obtain ⟨rfl, rfl, rfl⟩ := trodAll_nil r1
  obtain rfl : args = #[v0, v1] := by cases args; simp_all
  obtain ⟨rfl, rfl⟩ := trodVars_none hV
  obtain ⟨a0, rfl, rfl, rfl, w0⟩ := open_string Tryz.underlying9 (hval 0 9 v0 rfl rfl) h0
  obtain ⟨a1, rfl, rfl, rfl⟩ := open_bool Tryz.underlying4 (hval 1 4 v1 rfl rfl) h1
  have tabs := fnExactReadAnswer_tabs (W := W) hL
  clear hA0 hval0
  simp only [List.append_nil] at hW'
  refine (fnExactReadAnswer_walk a0 a1 W w0 tabs).mono fun e W' ⟨he, bel⟩ => ?_
  subst he
  exact ⟨_, rfl, _, _, _, [], [], [], hW', trodAll_mk1 (shut_bool Tryz.underlying4 _), (trodAll_cons_mk (shut_string Tryz.underlying9 w0) (trodAll_cons_mk (shut_bool Tryz.underlying4 a1) trodAll_mk0)), rfl, bel.frame _, fun h => by cases h⟩
theorem fnExactReadAnswer_row : Rows.FnExactReadAnswerSaid :=
  OpenClaim.holds_of_wide 4 Tryz.f4 rfl rfl rfl rfl rfl rfl rfl ⟨rfl, rfl, rfl, rfl, rfl⟩ rfl rfl rfl rfl rfl (by kernel_rfl) Tryz.func4 (by kernel_rfl)
    (of_decide_eq_true (by kernel_rfl)) (by unfold Func.isWrapper; first | (rw [if_pos (by decide +kernel)]; kernel_rfl) | (rw [if_neg (by decide +kernel)]; exact ⟨rfl, rfl⟩))
    (fun os started H enc _ => fnExactReadAnswer_lifted os started H enc)
/-- THE STATEMENT: the card. -/
theorem fnExactReadAnswer_holds : Rows.FnExactReadAnswerCardSaid :=
  Claim7.holds_tied_plain_at .later [] [.data, .data, .data, .data, .pinned] true (true, "350b3ed96c30b205404cc47970952107588d26a76147a783ece0ea578751bc6f") true
    fnExactReadAnswer_row (fun _ h => by cases h) (by kernel_rfl) (fun _ h => by cases h) fnExactReadAnswer_row_tie rfl ⟨rfl, rfl⟩ (by kernel_rfl) rfl
    (fun f fn hf hfn => by
      obtain rfl : f = 4 := Option.some.inj ((show Tryz.prog.funcNamed "loop.example/g00651/laws.FnExactReadAnswer" = some 4 by kernel_rfl).symm.trans hf) |>.symm
      obtain rfl : fn = Tryz.f4 := (Option.some.inj (Tryz.func4.symm.trans hfn)).symm
      exact ⟨by kernel_rfl, fun j t ht => by
        rw [Tryz.params4] at ht
        rcases j with _ | _ | j
        · have h3 : t = 9 := by simpa using ht.symm
          subst h3
          exact (show Tryz.prog.wantsStandIn 9 = false by kernel_rfl)
        · have h3 : t = 4 := by simpa using ht.symm
          subst h3
          exact (show Tryz.prog.wantsStandIn 4 = false by kernel_rfl)
        · simp at ht⟩)
    (by kernel_rfl)
#print axioms fnExactReadAnswer_holds
end Go.Proofs.YtodandipfjamnaaGreatDoor
