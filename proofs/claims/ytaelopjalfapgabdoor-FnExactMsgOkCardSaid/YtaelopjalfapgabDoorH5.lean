/-
  Chapter 6: a message's head and bytes; the specification's side.
-/
import Derived.Test.YtaelopjalfapgabDoorH4
namespace Go.Proofs.YtaelopjalfapgabDoor
set_option linter.unusedVariables false
set_option linter.unusedSimpArgs false
open Go.RowKit
theorem first_req2 {m : Mg} (h : eqB m.me ⟨#[]⟩ = false) : m.me ++ ⟨#[32]⟩ ++ m.ta ++ ⟨#[32, 72, 84, 84, 80, 47, 49, 46, 49, 13, 10]⟩ = preB m 0 := by
  rw [preB_zero, firstB_req h]
  apply bytes_ext
  simp [Go.Joins.data_append]
theorem first_ans2 {m : Mg} (h : eqB m.me ⟨#[]⟩ = true) : ⟨#[72, 84, 84, 80, 47, 49, 46, 49, 32]⟩ ++ decT m.st ++ ⟨#[32]⟩ ++ m.re ++ ⟨#[13, 10]⟩ = preB m 0 := by
  rw [preB_zero, firstB_ans h]
theorem headB_yes2 {m : Mg} (h : tellsQ m = true) (hb : m.bo.size ≤ 1048576) : headB m = preB m m.fs.length ++ ⟨#[67, 111, 110, 116, 101, 110, 116, 45, 76, 101, 110, 103, 116, 104, 58, 32]⟩ ++ decT (m.bo.size : Int) ++ ⟨#[13, 10]⟩ ++ ⟨#[13, 10]⟩ := by
  apply bytes_ext
  rw [decT_nat (by omega)]
  have hc : clW.data.toList = [67, 111, 110, 116, 101, 110, 116, 45, 76, 101, 110, 103, 116, 104] := rfl
  simp [headB, headL, preB, lenL, h, Go.Joins.data_append, decB, hc]
theorem preB_next2 (m : Mg) (k : Nat) (h : k < m.fs.length) : preB m (k + 1) = preB m k ++ ftextB (fdAt m.fs k) ++ ⟨#[13, 10]⟩ := by
  apply bytes_ext
  simp [preB, linesL_next m.fs k h, Go.Joins.data_append]
set_option maxHeartbeats 8000000 in
theorem l6head_any (me ta re bo : ByteArray) (st : Int) (ba : Bool) (fa : Option Addr) (fn fc : Nat) (fs : List Fd) (w : World) (hv : SlF w (.slice fa fn fc) fs) (hn : fs.length = fn) (hq : fieldsQ fs = true) (hme : me.size ≤ 1048576) (hta : ta.size ≤ 1048576) (hre : re.size ≤ 1048576) (hbo : bo.size ≤ 1048576) :
    Calls Tryd.prog 25 #[.agg #[.string me, .string ta, .int .i64 st, .string re, .bool ba, .slice fa fn fc, .string bo]] w fun e w' => e = .returned (.string (headB ⟨me, ta, st, re, ba, fs, bo⟩)) ∧ Below w.heap.size w w' := by
  have HB := hideB2 (below_a1 w (.cells #[.string me, .string ta, .int .i64 st, .string re, .bool ba, .slice fa fn fc, .string bo] 29))
  have A1 := hideB2 (Blk.new w #[.string me, .string ta, .int .i64 st, .string re, .bool ba, .slice fa fn fc, .string bo] 29)
  have HV := hideB2 hv
  have HN := hideB2 hn
  have hl20 : fn ≤ 20 := by rw [← hn]; exact (fieldsQ_iff.1 hq).1
  have HFQ := hideB2 (fun j (hj : j < fs.length) => fieldQ_sizes (fieldsQ_at hq hj))
  have PN := hideB2 (fun k h => preB_next2 ⟨me, ta, st, re, ba, fs, bo⟩ k h)
  have PS := hideB2 (fun k => preB_size (m := ⟨me, ta, st, re, ba, fs, bo⟩) hme hta hre (by rw [← HN.out] at hl20; exact hl20) k)
  have HR := hideB2 (fun h => first_req2 (m := ⟨me, ta, st, re, ba, fs, bo⟩) h)
  have HA := hideB2 (fun h => first_ans2 (m := ⟨me, ta, st, re, ba, fs, bo⟩) h)
  have HY := hideB2 (fun h => headB_yes2 (m := ⟨me, ta, st, re, ba, fs, bo⟩) h hbo)
  have HO := hideB2 (fun h => headB_no (m := ⟨me, ta, st, re, ba, fs, bo⟩) h)
  have TQ := hideB2 (show tellsQ ⟨me, ta, st, re, ba, fs, bo⟩ = if eqB me ⟨#[]⟩ = true then !ba else !eqB bo ⟨#[]⟩ from rfl)
  have hds := decT_size (bo.size : Int)
  have HD := hideB2 (fun W => sDecText_all (bo.size : Int) W)
  have hds2 := decT_size st
  have HD2 := hideB2 (fun W => sDecText_all st W)
  clear hv hn hq
  generalize headB ⟨me, ta, st, re, ba, fs, bo⟩ = H at *
  generalize tellsQ ⟨me, ta, st, re, ba, fs, bo⟩ = T at *
  generalize hPB : preB ⟨me, ta, st, re, ba, fs, bo⟩ = PB at *
  clear hPB
  simp only at HY HO PN HR HA
  generalize decT (bo.size : Int) = D at *
  generalize decT st = S at *
  cases h1 : eqB me ⟨#[]⟩
  · have H0 := hideB2 (HR.out h1)
    rw [h1] at TQ
    replace TQ : Hid (T = !eqB bo ⟨#[]⟩) := TQ
    have A2 := A1
    have HB2 := HB
    rw [eqB_nil] at h1
    go_enter Tryd.func25, Tryd.ntmps25
    go_wp2
    generalize hW : w.alloc (.cells #[.string me, .string ta, .int .i64 st, .string re, .bool ba, .slice fa fn fc, .string bo] 29) = W1 at *
    clear hW A1 HB
    go_wp2
    go_loopw [3, 4] (fun o i wr => ∃ k : Nat, k ≤ fn ∧ i = .int .i64 k ∧ o = .string (PB k) ∧ Below W1.heap.size W1 wr) (fun _ i _ => fn - (intOf i).toNat)
    case atStart => exact ⟨0, Nat.zero_le _, rfl, by rw [H0.out], Below.refl _ _⟩
    case round =>
      obtain ⟨k, hk, rfl, rfl, hb⟩ := hrel
      have hps := PS.out k
      try clear p0 p1 p2 p3 p4 p5 p6
      obtain ⟨p0, p1, p2, p3, p4, p5, p6⟩ := (A2.out.later hb).c7
      by_cases hlt : k < fn
      · have hklt : k < fs.length := by rw [HN.out]; exact hlt
        obtain ⟨b, rfl, hr⟩ := HV.out.row (by omega)
        have hr2 := (hr.keep HB2.out).keep hb
        have q0 := hr2.dat k hklt
        have q1 := hr2.saf k hklt
        have hsz := HFQ.out k hklt
        have HNX := hideB2 (PN.out k hklt)
        have hfs := ftextB_size (x := fdAt fs k)
        have HBW := hideB2 hb
        clear hr hr2 hb hklt
        generalize fdAt fs k = x at *
        obtain ⟨d, s⟩ := x
        simp only at q0 q1 hsz
        have HFT := hideB2 (fun W => sFieldText_any d s W (by unfold maxLen; omega) (by unfold maxLen; omega))
        generalize ftextB (d, s) = F at *
        generalize PB k = P at *
        go_wp2_with (go_at_call 48; refine (HFT.out _).mono ?_; rintro e w3 ⟨rfl, hb3⟩)
        refine ⟨⟨k + 1, by omega, by go_num, ?_, below_then HBW.out hb3⟩, by simp [intOf]; omega⟩
        rw [HNX.out]
      · obtain rfl : k = fn := by omega
        have HBW := hideB2 (below_then HB2.out hb)
        clear hb
        cases h2 : eqB bo ⟨#[]⟩
        · rw [h2] at TQ
          rw [eqB_nil] at h2
          replace TQ : Hid (T = true) := TQ
          have HE := hideB2 (HY.out TQ.out)
          rw [HN.out] at HE
          generalize PB k = P at *
          go_wp2_with (go_at_call 47; refine (HD.out _).mono ?_; rintro e w3 ⟨rfl, hb3⟩)
          go_ret
          exact ⟨ret_str HE.out, below_then HBW.out hb3⟩
        · rw [h2] at TQ
          rw [eqB_nil] at h2
          replace TQ : Hid (T = false) := TQ
          have HE := hideB2 (HO.out TQ.out)
          rw [HN.out] at HE
          generalize PB k = P at *
          go_wp2
          go_ret
          exact ⟨ret_str HE.out, HBW.out⟩
  · have H0 := hideB2 (HA.out h1)
    rw [h1] at TQ
    replace TQ : Hid (T = !ba) := TQ
    rw [eqB_nil] at h1
    go_enter Tryd.func25, Tryd.ntmps25
    go_wp2
    go_cut [3] (fun c wc => c = .string (PB 0) ∧ Below w.heap.size w wc ∧ Blk wc w.heap.size #[.string me, .string ta, .int .i64 st, .string re, .bool ba, .slice fa fn fc, .string bo] 29)
    case first =>
      go_region_with (go_at_call 47; refine (HD2.out _).mono ?_; rintro e w' ⟨rfl, hb⟩; obtain ⟨p0, p1, p2, p3, p4, p5, p6⟩ := (A1.out.drew.later hb).c7)
      all_goals
        go_wp2_with fail
        go_meet
        refine ⟨?_, ?_, ?_⟩
        · rw [H0.out]
        · exact below_then HB.out.drew hb
        · exact A1.out.drew.later hb
    case rest =>
      obtain ⟨rfl, hb2, ha2⟩ := hcut
      have HB2 := hideB2 hb2
      have A2 := hideB2 ha2
      have hp0 := PS.out 0
      clear hb2 ha2 A1 HB
      obtain ⟨p0, p1, p2, p3, p4, p5, p6⟩ := A2.out.c7
      go_wp2
      go_loopw [3, 4] (fun o i wr => ∃ k : Nat, k ≤ fn ∧ i = .int .i64 k ∧ o = .string (PB k) ∧ Below wc.heap.size wc wr) (fun _ i _ => fn - (intOf i).toNat)
      case atStart => exact ⟨0, Nat.zero_le _, rfl, rfl, Below.refl _ _⟩
      case round =>
        obtain ⟨k, hk, rfl, rfl, hb⟩ := hrel
        have hps := PS.out k
        try clear p0 p1 p2 p3 p4 p5 p6
        obtain ⟨p0, p1, p2, p3, p4, p5, p6⟩ := (A2.out.later hb).c7
        by_cases hlt : k < fn
        · have hklt : k < fs.length := by rw [HN.out]; exact hlt
          obtain ⟨b, rfl, hr⟩ := HV.out.row (by omega)
          have hr2 := (hr.keep HB2.out).keep hb
          have q0 := hr2.dat k hklt
          have q1 := hr2.saf k hklt
          have hsz := HFQ.out k hklt
          have HNX := hideB2 (PN.out k hklt)
          have hfs := ftextB_size (x := fdAt fs k)
          have HBW := hideB2 hb
          clear hr hr2 hb hklt
          generalize fdAt fs k = x at *
          obtain ⟨d, s⟩ := x
          simp only at q0 q1 hsz
          have HFT := hideB2 (fun W => sFieldText_any d s W (by unfold maxLen; omega) (by unfold maxLen; omega))
          generalize ftextB (d, s) = F at *
          generalize PB k = P at *
          go_wp2_with (go_at_call 48; refine (HFT.out _).mono ?_; rintro e w3 ⟨rfl, hb3⟩)
          refine ⟨⟨k + 1, by omega, by go_num, ?_, below_then HBW.out hb3⟩, by simp [intOf]; omega⟩
          rw [HNX.out]
        · obtain rfl : k = fn := by omega
          have HBW := hideB2 (below_then HB2.out hb)
          clear hb
          cases ba
          · replace TQ : Hid (T = true) := TQ
            have HE := hideB2 (HY.out TQ.out)
            rw [HN.out] at HE
            generalize PB k = P at *
            go_wp2_with (go_at_call 47; refine (HD.out _).mono ?_; rintro e w3 ⟨rfl, hb3⟩)
            go_ret
            exact ⟨ret_str HE.out, below_then HBW.out hb3⟩
          · replace TQ : Hid (T = false) := TQ
            have HE := hideB2 (HO.out TQ.out)
            rw [HN.out] at HE
            generalize PB k = P at *
            go_wp2
            go_ret
            exact ⟨ret_str HE.out, HBW.out⟩
theorem ownQ_20 {l : List Fd} (h : (((l.length : Nat) : Int) == 20) = true) : ownQ l = false := by
  have h1 : (l.length : Int) = 20 := by simpa using h
  exact ownQ_no2 (by omega)
theorem ownQ_frm {l : List Fd} (h : frmL l = true) : ownQ l = false := by unfold ownQ; rw [h]; simp
theorem ownQ_all {l : List Fd} (h : fieldsQ l = true) (h1 : (((l.length : Nat) : Int) == 20) = false) (h2 : frmL l = false) : ownQ l = true := by
  have h3 : ¬ (l.length : Int) = 20 := by simpa using h1
  have h4 := (fieldsQ_iff.1 h).1
  rw [ownQ_iff]
  exact ⟨h, by omega, h2⟩
set_option maxHeartbeats 8000000 in
theorem sMsgOk_any (me ta re bo : ByteArray) (st : Int) (ba : Bool) (fa : Option Addr) (fn fc : Nat) (fs : List Fd) (w : World) (hv : SlF w (.slice fa fn fc) fs) (hn : fs.length = fn) (hl : fs.length ≤ 1048576) (ht : totF fs ≤ 1099511627776) (hme : me.size ≤ 1048576) (hta : ta.size ≤ 1048576) (hre : re.size ≤ 1048576) (hbo : bo.size ≤ 1048576) :
    Calls Tryd.prog 8 #[.agg #[.string me, .string ta, .int .i64 st, .string re, .bool ba, .slice fa fn fc, .string bo]] w fun e w' => e = .returned (.bool (msgQ ⟨me, ta, st, re, ba, fs, bo⟩)) ∧ Below w.heap.size w w' := by
  have HB := hideB2 (below_a1 w (.cells #[.string me, .string ta, .int .i64 st, .string re, .bool ba, .slice fa fn fc, .string bo] 29))
  have A1 := hideB2 (Blk.new w #[.string me, .string ta, .int .i64 st, .string re, .bool ba, .slice fa fn fc, .string bo] 29)
  have HV := hideB2 hv
  have HN := hideB2 hn
  have HF := hideB2 (fun W h => sFieldsOk_any (.slice fa fn fc) fs W h hl ht)
  have HK := hideB2 (fun W => l6request_any me ta re bo st ba fa fn fc fs W (by unfold maxLen; omega) (by unfold maxLen; omega))
  have HAns := hideB2 (fun W => l6answer_any me ta re bo st ba fa fn fc fs W (by unfold maxLen; omega))
  clear hv hl ht
  subst hn
  cases hq : fieldsQ fs
  · have HE := hideB2 (msgQ_no1 (m := ⟨me, ta, st, re, ba, fs, bo⟩) (ownQ_no1 hq))
    have H1 := hideB2 hq
    clear hq
    generalize hm : fs.length = fn at *
    clear hm
    go_enter Tryd.func8, Tryd.ntmps8
    go_wp2_with (go_at_call 21; refine (HF.out _ (HV.out.later HB.out)).mono ?_; rintro e w1 ⟨rfl, hb1⟩; rw [H1.out])
    go_ret
    exact ⟨ret_bool HE.out, below_then HB.out hb1⟩
  · have hl20 := (fieldsQ_iff.1 hq).1
    have HU := hideB2 (fun W h => l6framed_any (.slice fa fs.length fc) fs W h hl20 (fun j hj => (fieldQ_sizes (fieldsQ_at hq hj)).1))
    have HX := hideB2 (fun W h => l6head_any me ta re bo st ba fa fs.length fc fs W h rfl hq hme hta hre hbo)
    have hsm := headB_small (m := ⟨me, ta, st, re, ba, fs, bo⟩) hme hta hre hl20 hbo
    cases h20 : (((fs.length : Nat) : Int) == 20)
    · cases hf : frmL fs
      · have hown := ownQ_all hq h20 hf
        by_cases h2 : (600 : Int) < (bo.size : Int)
        · have HE := hideB2 (msgQ_no2 (m := ⟨me, ta, st, re, ba, fs, bo⟩) (by simp only; omega))
          have H1 := hideB2 hq
          have H2 := hideB2 hf
          clear hq hf hown hl20 hsm HX
          generalize hm : fs.length = fn at *
          clear hm
          go_enter Tryd.func8, Tryd.ntmps8
          go_wp2_with (first
            | (go_at_call 21; refine (HF.out _ (HV.out.later HB.out)).mono ?_; rintro e w1 ⟨rfl, hb1⟩; rw [H1.out]; obtain ⟨p0, p1, p2, p3, p4, p5, p6⟩ := (A1.out.later hb1).c7)
            | (go_at_call 22; refine (HU.out _ (HV.out.later (below_then HB.out hb1))).mono ?_; rintro e w2 ⟨rfl, hb2⟩; rw [H2.out]; obtain ⟨q0, q1, q2, q3, q4, q5, q6⟩ := ((A1.out.later hb1).later hb2).c7))
          go_ret
          exact ⟨ret_bool HE.out, below_then (below_then HB.out hb1) hb2⟩
        · have d2 : decide ((600 : Int) < (bo.size : Int)) = false := decide_eq_false h2
          cases h3 : kindQ ⟨me, ta, st, re, ba, fs, bo⟩
          · have HE := hideB2 (msgQ_no3 (m := ⟨me, ta, st, re, ba, fs, bo⟩) h3)
            cases h4 : eqB me ⟨#[]⟩
            · rw [kindQ_req (m := ⟨me, ta, st, re, ba, fs, bo⟩) h4] at h3
              have H1 := hideB2 hq
              have H2 := hideB2 hf
              have H3 := hideB2 h3
              clear hq hf hown hl20 h3 hsm
              generalize hm : fs.length = fn at *
              clear hm
              rw [eqB_nil] at h4
              go_enter Tryd.func8, Tryd.ntmps8
              go_wp2_with (first
                | (go_at_call 21; refine (HF.out _ (HV.out.later HB.out)).mono ?_; rintro e w1 ⟨rfl, hb1⟩; rw [H1.out]; obtain ⟨p0, p1, p2, p3, p4, p5, p6⟩ := (A1.out.later hb1).c7)
                | (go_at_call 22; refine (HU.out _ (HV.out.later (below_then HB.out hb1))).mono ?_; rintro e w2 ⟨rfl, hb2⟩; rw [H2.out]; obtain ⟨q0, q1, q2, q3, q4, q5, q6⟩ := ((A1.out.later hb1).later hb2).c7; have HB2 := hideB2 (below_then (below_then HB.out hb1) hb2); have A2 := hideB2 ((A1.out.later hb1).later hb2))
                | (go_at_call 23; refine (HK.out _).mono ?_; rintro e w3 ⟨rfl, hb3⟩; rw [H3.out]))
              go_ret
              exact ⟨ret_bool HE.out, below_then HB2.out hb3⟩
            · rw [kindQ_ans (m := ⟨me, ta, st, re, ba, fs, bo⟩) h4] at h3
              have H1 := hideB2 hq
              have H2 := hideB2 hf
              have H3 := hideB2 h3
              clear hq hf hown hl20 h3 hsm
              generalize hm : fs.length = fn at *
              clear hm
              rw [eqB_nil] at h4
              go_enter Tryd.func8, Tryd.ntmps8
              go_wp2_with (first
                | (go_at_call 21; refine (HF.out _ (HV.out.later HB.out)).mono ?_; rintro e w1 ⟨rfl, hb1⟩; rw [H1.out]; obtain ⟨p0, p1, p2, p3, p4, p5, p6⟩ := (A1.out.later hb1).c7)
                | (go_at_call 22; refine (HU.out _ (HV.out.later (below_then HB.out hb1))).mono ?_; rintro e w2 ⟨rfl, hb2⟩; rw [H2.out]; obtain ⟨q0, q1, q2, q3, q4, q5, q6⟩ := ((A1.out.later hb1).later hb2).c7; have HB2 := hideB2 (below_then (below_then HB.out hb1) hb2); have A2 := hideB2 ((A1.out.later hb1).later hb2))
                | (go_at_call 24; refine (HAns.out _).mono ?_; rintro e w3 ⟨rfl, hb3⟩; rw [H3.out]))
              go_ret
              exact ⟨ret_bool HE.out, below_then HB2.out hb3⟩
          · have HE := hideB2 (msgQ_yes (m := ⟨me, ta, st, re, ba, fs, bo⟩) hown (by simp only; omega) h3)
            cases h4 : eqB me ⟨#[]⟩
            · rw [kindQ_req (m := ⟨me, ta, st, re, ba, fs, bo⟩) h4] at h3
              have H1 := hideB2 hq
              have H2 := hideB2 hf
              have H3 := hideB2 h3
              clear hq hf hown hl20 h3
              generalize hm : fs.length = fn at *
              clear hm
              generalize headB ⟨me, ta, st, re, ba, fs, bo⟩ = HD at *
              rw [eqB_nil] at h4
              go_enter Tryd.func8, Tryd.ntmps8
              go_wp2_with (first
                | (go_at_call 21; refine (HF.out _ (HV.out.later HB.out)).mono ?_; rintro e w1 ⟨rfl, hb1⟩; rw [H1.out]; obtain ⟨p0, p1, p2, p3, p4, p5, p6⟩ := (A1.out.later hb1).c7)
                | (go_at_call 22; refine (HU.out _ (HV.out.later (below_then HB.out hb1))).mono ?_; rintro e w2 ⟨rfl, hb2⟩; rw [H2.out]; obtain ⟨q0, q1, q2, q3, q4, q5, q6⟩ := ((A1.out.later hb1).later hb2).c7; have HB2 := hideB2 (below_then (below_then HB.out hb1) hb2); have A2 := hideB2 ((A1.out.later hb1).later hb2))
                | (go_at_call 23; refine (HK.out _).mono ?_; rintro e w3 ⟨rfl, hb3⟩; rw [H3.out]; obtain ⟨r0, r1, r2, r3, r4, r5, r6⟩ := (A2.out.later hb3).c7; have HB3 := hideB2 (below_then HB2.out hb3))
                | (go_at_call 25; refine (HX.out _ (HV.out.later HB3.out)).mono ?_; rintro e w4 ⟨rfl, hb4⟩))
              go_ret
              exact ⟨ret_bool HE.out, below_then HB3.out hb4⟩
            · rw [kindQ_ans (m := ⟨me, ta, st, re, ba, fs, bo⟩) h4] at h3
              have H1 := hideB2 hq
              have H2 := hideB2 hf
              have H3 := hideB2 h3
              clear hq hf hown hl20 h3
              generalize hm : fs.length = fn at *
              clear hm
              generalize headB ⟨me, ta, st, re, ba, fs, bo⟩ = HD at *
              rw [eqB_nil] at h4
              go_enter Tryd.func8, Tryd.ntmps8
              go_wp2_with (first
                | (go_at_call 21; refine (HF.out _ (HV.out.later HB.out)).mono ?_; rintro e w1 ⟨rfl, hb1⟩; rw [H1.out]; obtain ⟨p0, p1, p2, p3, p4, p5, p6⟩ := (A1.out.later hb1).c7)
                | (go_at_call 22; refine (HU.out _ (HV.out.later (below_then HB.out hb1))).mono ?_; rintro e w2 ⟨rfl, hb2⟩; rw [H2.out]; obtain ⟨q0, q1, q2, q3, q4, q5, q6⟩ := ((A1.out.later hb1).later hb2).c7; have HB2 := hideB2 (below_then (below_then HB.out hb1) hb2); have A2 := hideB2 ((A1.out.later hb1).later hb2))
                | (go_at_call 24; refine (HAns.out _).mono ?_; rintro e w3 ⟨rfl, hb3⟩; rw [H3.out]; obtain ⟨r0, r1, r2, r3, r4, r5, r6⟩ := (A2.out.later hb3).c7; have HB3 := hideB2 (below_then HB2.out hb3))
                | (go_at_call 25; refine (HX.out _ (HV.out.later HB3.out)).mono ?_; rintro e w4 ⟨rfl, hb4⟩))
              go_ret
              exact ⟨ret_bool HE.out, below_then HB3.out hb4⟩
      · have HE := hideB2 (msgQ_no1 (m := ⟨me, ta, st, re, ba, fs, bo⟩) (ownQ_frm hf))
        have H1 := hideB2 hq
        have H2 := hideB2 hf
        clear hq hf hl20 hsm HX
        generalize hm : fs.length = fn at *
        clear hm
        go_enter Tryd.func8, Tryd.ntmps8
        go_wp2_with (first
          | (go_at_call 21; refine (HF.out _ (HV.out.later HB.out)).mono ?_; rintro e w1 ⟨rfl, hb1⟩; rw [H1.out]; obtain ⟨p0, p1, p2, p3, p4, p5, p6⟩ := (A1.out.later hb1).c7)
          | (go_at_call 22; refine (HU.out _ (HV.out.later (below_then HB.out hb1))).mono ?_; rintro e w2 ⟨rfl, hb2⟩; rw [H2.out]))
        go_ret
        exact ⟨ret_bool HE.out, below_then (below_then HB.out hb1) hb2⟩
    · have HE := hideB2 (msgQ_no1 (m := ⟨me, ta, st, re, ba, fs, bo⟩) (ownQ_20 h20))
      have H1 := hideB2 hq
      clear hq hl20 hsm HX HU
      generalize hm : fs.length = fn at *
      clear hm
      go_enter Tryd.func8, Tryd.ntmps8
      go_wp2_with (go_at_call 21; refine (HF.out _ (HV.out.later HB.out)).mono ?_; rintro e w1 ⟨rfl, hb1⟩; rw [H1.out]; obtain ⟨p0, p1, p2, p3, p4, p5, p6⟩ := (A1.out.later hb1).c7)
      go_ret
      exact ⟨ret_bool HE.out, below_then HB.out hb1⟩
set_option maxHeartbeats 2000000 in
theorem sWriteHead_any (me ta re bo : ByteArray) (st : Int) (ba : Bool) (fa : Option Addr) (fn fc : Nat) (fs : List Fd) (w : World) (hv : SlF w (.slice fa fn fc) fs) (hn : fs.length = fn) (hl : fs.length ≤ 1048576) (ht : totF fs ≤ 1099511627776) (hme : me.size ≤ 1048576) (hta : ta.size ≤ 1048576) (hre : re.size ≤ 1048576) (hbo : bo.size ≤ 1048576) :
    Calls Tryd.prog 12 #[.agg #[.string me, .string ta, .int .i64 st, .string re, .bool ba, .slice fa fn fc, .string bo]] w fun e w' => e = .returned (.string (wheadB ⟨me, ta, st, re, ba, fs, bo⟩)) ∧ Below w.heap.size w w' := by
  have HB := hideB2 (below_a1 w (.cells #[.string me, .string ta, .int .i64 st, .string re, .bool ba, .slice fa fn fc, .string bo] 29))
  have A1 := hideB2 (Blk.new w #[.string me, .string ta, .int .i64 st, .string re, .bool ba, .slice fa fn fc, .string bo] 29)
  have HV := hideB2 hv
  have HN := hideB2 hn
  have HM := hideB2 (fun W h => sMsgOk_any me ta re bo st ba fa fn fc fs W h hn hl ht hme hta hre hbo)
  clear hv hn hl ht
  cases h1 : msgQ ⟨me, ta, st, re, ba, fs, bo⟩
  · have HE := hideB2 (show wheadB ⟨me, ta, st, re, ba, fs, bo⟩ = ⟨#[]⟩ by unfold wheadB; rw [h1]; rfl)
    have H1 := hideB2 h1
    clear h1
    go_enter Tryd.func12, Tryd.ntmps12
    go_wp2_with (go_at_call 8; refine (HM.out _ (HV.out.later HB.out)).mono ?_; rintro e w1 ⟨rfl, hb1⟩; rw [H1.out])
    go_ret
    exact ⟨ret_str HE.out, below_then HB.out hb1⟩
  · have HE := hideB2 (show wheadB ⟨me, ta, st, re, ba, fs, bo⟩ = headB ⟨me, ta, st, re, ba, fs, bo⟩ by unfold wheadB; rw [h1]; rfl)
    have H1 := hideB2 h1
    have hq := (msgQ_sizes h1).1
    have HX := hideB2 (fun W h => l6head_any me ta re bo st ba fa fn fc fs W h HN.out hq hme hta hre hbo)
    clear h1 hq
    generalize headB ⟨me, ta, st, re, ba, fs, bo⟩ = H at *
    go_enter Tryd.func12, Tryd.ntmps12
    go_wp2_with (first
      | (go_at_call 8; refine (HM.out _ (HV.out.later HB.out)).mono ?_; rintro e w1 ⟨rfl, hb1⟩; rw [H1.out]; have HB1 := hideB2 (below_then HB.out hb1); obtain ⟨p0, p1, p2, p3, p4, p5, p6⟩ := (A1.out.later hb1).c7)
      | (go_at_call 25; refine (HX.out _ (HV.out.later HB1.out)).mono ?_; rintro e w3 ⟨rfl, hb3⟩))
    go_ret
    exact ⟨ret_str HE.out, below_then HB1.out hb3⟩
set_option maxHeartbeats 2000000 in
theorem sWriteMsg_any (me ta re bo : ByteArray) (st : Int) (ba : Bool) (fa : Option Addr) (fn fc : Nat) (fs : List Fd) (w : World) (hv : SlF w (.slice fa fn fc) fs) (hn : fs.length = fn) (hl : fs.length ≤ 1048576) (ht : totF fs ≤ 1099511627776) (hme : me.size ≤ 1048576) (hta : ta.size ≤ 1048576) (hre : re.size ≤ 1048576) (hbo : bo.size ≤ 1048576) :
    Calls Tryd.prog 14 #[.agg #[.string me, .string ta, .int .i64 st, .string re, .bool ba, .slice fa fn fc, .string bo]] w fun e w' => e = .returned (.string (wmsgB ⟨me, ta, st, re, ba, fs, bo⟩)) ∧ Below w.heap.size w w' := by
  have HB := hideB2 (below_a1 w (.cells #[.string me, .string ta, .int .i64 st, .string re, .bool ba, .slice fa fn fc, .string bo] 29))
  have A1 := hideB2 (Blk.new w #[.string me, .string ta, .int .i64 st, .string re, .bool ba, .slice fa fn fc, .string bo] 29)
  have HV := hideB2 hv
  have HN := hideB2 hn
  have HM := hideB2 (fun W h => sMsgOk_any me ta re bo st ba fa fn fc fs W h hn hl ht hme hta hre hbo)
  clear hv hn hl ht
  cases h1 : msgQ ⟨me, ta, st, re, ba, fs, bo⟩
  · have HE := hideB2 (show wmsgB ⟨me, ta, st, re, ba, fs, bo⟩ = ⟨#[]⟩ by unfold wmsgB; rw [h1]; rfl)
    have H1 := hideB2 h1
    clear h1
    go_enter Tryd.func14, Tryd.ntmps14
    go_wp2_with (go_at_call 8; refine (HM.out _ (HV.out.later HB.out)).mono ?_; rintro e w1 ⟨rfl, hb1⟩; rw [H1.out])
    go_ret
    exact ⟨ret_str HE.out, below_then HB.out hb1⟩
  · have HE := hideB2 (show wmsgB ⟨me, ta, st, re, ba, fs, bo⟩ = headB ⟨me, ta, st, re, ba, fs, bo⟩ ++ bo by unfold wmsgB; rw [h1]; rfl)
    have H1 := hideB2 h1
    obtain ⟨hq, hz1, hz2⟩ := msgQ_sizes h1
    have HX := hideB2 (fun W h => l6head_any me ta re bo st ba fa fn fc fs W h HN.out hq hme hta hre hbo)
    clear h1 hq
    generalize hW : wmsgB ⟨me, ta, st, re, ba, fs, bo⟩ = WB at *
    clear hW
    generalize headB ⟨me, ta, st, re, ba, fs, bo⟩ = H at *
    go_enter Tryd.func14, Tryd.ntmps14
    go_wp2_with fail
    refine (HM.out _ (HV.out.later HB.out)).mono ?_
    rintro e w1 ⟨rfl, hb1⟩
    rw [H1.out]
    have HB1 := hideB2 (below_then HB.out hb1)
    have A2 := hideB2 (A1.out.later hb1)
    obtain ⟨p0, p1, p2, p3, p4, p5, p6⟩ := A2.out.c7
    have HV1 := hideB2 (HV.out.later HB1.out)
    clear hb1 A1 HB HV
    go_wp2
    go_cut [2] (fun c wc => c = .string WB ∧ Below w1.heap.size w1 wc)
    case first =>
      go_region_with (go_at_call 25; refine (HX.out _ (HV1.out.later (by first | exact Below.refl _ _ | exact (Below.refl _ _).drew))).mono ?_; rintro e w3 ⟨rfl, hb3⟩; obtain ⟨r0, r1, r2, r3, r4, r5, r6⟩ := (A2.out.drew.later hb3).c7)
      all_goals
        go_wp2_with fail
        go_meet
        refine ⟨?_, ?_⟩
        · rw [HE.out]
        · exact below_then (Below.refl _ _).drew hb3
    case rest =>
      obtain ⟨rfl, hb3⟩ := hcut
      go_wp2
      go_ret
      exact ⟨rfl, below_then HB1.out hb3⟩
end Go.Proofs.YtaelopjalfapgabDoor
