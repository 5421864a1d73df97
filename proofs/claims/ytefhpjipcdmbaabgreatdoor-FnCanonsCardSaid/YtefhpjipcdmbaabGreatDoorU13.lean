/-
  Chapter 7: an address read; the specification's side.
-/
import Derived.Test.YtefhpjipcdmbaabGreatDoorU12
namespace Go.Proofs.YtefhpjipcdmbaabGreatDoor
set_option linter.unusedVariables false
set_option linter.unusedSimpArgs false
open Go.RowKit
theorem cut_len (c : UInt8) (s : ByteArray) : hasS c s = decide ((uptS c s).size < s.size) ∧ bhS c s = if (uptS c s).size < s.size then s.extract ((uptS c s).size + 1) s.size else ⟨#[]⟩ := by
  rcases idxS_cases c s with h | ⟨i, h, hi⟩
  · obtain ⟨a1, a2, a3⟩ := cut_none h
    rw [a1, a2, a3, decide_eq_false (Nat.lt_irrefl _), if_neg (Nat.lt_irrefl _)]
    exact ⟨rfl, rfl⟩
  · obtain ⟨a1, a2, a3⟩ := cut_some h
    have e : (s.extract 0 i).size = i := by rw [ByteArray.size_extract]; omega
    rw [a1, a2, a3, e, decide_eq_true hi, if_pos hi]
    exact ⟨rfl, rfl⟩
theorem cln_root : clnB rootB = rootB := by
  have h1 : pthQ rootB = true := by decide
  have h2 : evB (rootB.extract 1 rootB.size) = ⟨#[]⟩ := evB_nil (by rw [ByteArray.size_extract]; decide)
  have h3 : splS 47 ⟨#[]⟩ = [⟨#[]⟩] := (splS_none (c := 47) (s := ⟨#[]⟩) (idxS_miss (fun j hj => absurd hj (Nat.not_lt_zero j)))).2
  have h4 : eqB ⟨#[]⟩ dd = false := by unfold eqB; rw [ByteArray.toList_eq, ByteArray.toList_eq]; rfl
  have h5 : eqB ⟨#[]⟩ d1 = false := by unfold eqB; rw [ByteArray.toList_eq, ByteArray.toList_eq]; rfl
  rw [clnB_yes h1, h2, h3]
  have h6 : keepL [⟨#[]⟩] = [⟨#[]⟩] := by
    show keepS [] ⟨#[]⟩ = _
    unfold keepS; rw [h4, h5]; rfl
  have h7 : lastDot [⟨#[]⟩] = false := by
    show dotQ ⟨#[]⟩ = false
    unfold dotQ; rw [h4, h5]; rfl
  unfold keptL
  rw [h7, h6]
  rfl
theorem rdK_spec (r : ByteArray) : rdK r = ⟨foldB (uptS 58 (auU r)), if (auU r).size < (uptS 63 r).size then clnB ((uptS 63 r).extract (auU r).size (uptS 63 r).size) else rootB, if (uptS 63 r).size < r.size then r.extract ((uptS 63 r).size + 1) r.size else ⟨#[]⟩, if (uptS 58 (auU r)).size < (auU r).size then rdecN ((auU r).extract ((uptS 58 (auU r)).size + 1) (auU r).size) else 80, decide ((uptS 63 r).size < r.size)⟩ := by
  obtain ⟨k1, k2, k3, k4⟩ := reU_cut r
  obtain ⟨c1, c2⟩ := cut_len 63 r
  obtain ⟨d1, d2⟩ := cut_len 58 (auU r)
  unfold rdK
  rw [k1, c1, c2, d1, d2]
  have hz : ((uptS 63 r).extract (auU r).size (uptS 63 r).size).size = (uptS 63 r).size - (auU r).size := by rw [ByteArray.size_extract]; omega
  have e1 : clnB (if ((uptS 63 r).extract (auU r).size (uptS 63 r).size).size = 0 then rootB else (uptS 63 r).extract (auU r).size (uptS 63 r).size) = if (auU r).size < (uptS 63 r).size then clnB ((uptS 63 r).extract (auU r).size (uptS 63 r).size) else rootB := by
    by_cases h : (auU r).size < (uptS 63 r).size
    · rw [if_pos h, if_neg (show ¬ ((uptS 63 r).extract (auU r).size (uptS 63 r).size).size = 0 by omega)]
    · rw [if_neg h, if_pos (show ((uptS 63 r).extract (auU r).size (uptS 63 r).size).size = 0 by omega), cln_root]
  have e2 : (if decide ((uptS 58 (auU r)).size < (auU r).size) = true then rdecN (if (uptS 58 (auU r)).size < (auU r).size then (auU r).extract ((uptS 58 (auU r)).size + 1) (auU r).size else ⟨#[]⟩) else 80) = if (uptS 58 (auU r)).size < (auU r).size then rdecN ((auU r).extract ((uptS 58 (auU r)).size + 1) (auU r).size) else 80 := by
    by_cases h : (uptS 58 (auU r)).size < (auU r).size
    · rw [decide_eq_true h, if_pos rfl, if_pos h, if_pos h]
    · rw [decide_eq_false h, if_neg (by simp), if_neg h]
  rw [e1, e2]
theorem rdO_short {s : ByteArray} (h : s.size < 8) : rdO s = false := by
  unfold rdO
  cases hp : rdA s
  · rfl
  · have hr : s.extract 7 s.size = ⟨#[]⟩ := size_nil (by rw [ByteArray.size_extract]; omega)
    rw [hr, Bool.true_and]
    have hau : auU ⟨#[]⟩ = ⟨#[]⟩ := auU_none (fun j hj => absurd hj (Nat.not_lt_zero j))
    have hho : uptS 58 ⟨#[]⟩ = ⟨#[]⟩ := uptS_none (idxS_miss (fun j hj => absurd hj (Nat.not_lt_zero j)))
    unfold urQ urlQ
    have e : (rdK ⟨#[]⟩).ho = ⟨#[]⟩ := by
      show foldB (uptS 58 (auU ⟨#[]⟩)) = _
      rw [hau, hho]; rfl
    rw [e, hostQ_empty rfl]
    rfl
theorem rdU_no {s : ByteArray} (h : rdO s = false) : rdU s = ur0 := by unfold rdU; rw [h]; rfl
theorem urQ_port {u : Ur} (h : u.po = 0) : urQ u = false := by
  unfold urQ urlQ withinB
  rw [h]
  simp
theorem eqB_upt35 (s : ByteArray) : ((uptS 35 s).toList == s.toList) = decide (idxS 35 s < 0) := eqB_upt s
theorem sch_eq {x : ByteArray} : (x.toList == [104, 116, 116, 112, 58, 47, 47]) = eqB x schB := by
  unfold eqB; rw [ByteArray.toList_eq schB]; rfl
set_option maxRecDepth 100000 in
set_option maxHeartbeats 8000000 in
theorem sReadUrl_any (s : ByteArray) (w : World) (hs : s.size ≤ 1048576) :
    Calls Tryz.prog 8 #[.string s] w fun e w' => e = .returned (.tuple #[valU (rdU s), .bool (rdO s)]) ∧ Below w.heap.size w w' := by
  have HB := hideB2 (below_a1 w (.cells #[.string ⟨#[]⟩, .int .i64 0, .string ⟨#[]⟩, .string ⟨#[]⟩, .bool false] 23))
  have A0 := hideB2 (Blk.new w #[.string ⟨#[]⟩, .int .i64 0, .string ⟨#[]⟩, .string ⟨#[]⟩, .bool false] 23)
  have H1 := hideB2 (fun W => l6visible_any s W (by unfold maxLen; omega))
  have H2 := hideB2 (fun W => l6uptoS_any s 35 W (by unfold maxLen; omega))
  change Hid (∀ W, Calls _ _ #[_, .int .u8 35] W _) at H2
  by_cases hbig : (200 : Int) < (s.size : Int)
  · have e1 : rdO s = false := by unfold rdO rdA; rw [show targQ s = false by cases ht : targQ s with | false => rfl | true => have := (targQ_iff.1 ht).2.1; omega]; rfl
    have d1 := decide_eq_true hbig
    rw [rdU_no e1, e1]
    clear e1
    go_enter Tryz.func8, Tryz.ntmps8
    go_wp2
    refine bodyPost_ret (results_cellT rfl _ _ _ rfl (Blk.new w _ _) Tryz.underlying23 Tryz.infoUrl) rfl ⟨rfl, HB.out⟩
  · have d1 := decide_eq_false hbig
    by_cases h8 : (s.size : Int) < 8
    · have e1 := rdO_short (s := s) (by omega)
      have d2 := decide_eq_true h8
      rw [rdU_no e1, e1]
      clear e1
      go_enter Tryz.func8, Tryz.ntmps8
      go_wp2
      refine bodyPost_ret (results_cellT rfl _ _ _ rfl (Blk.new w _ _) Tryz.underlying23 Tryz.infoUrl) rfl ⟨rfl, HB.out⟩
    · have d2 := decide_eq_false h8
      cases hv : (decide (0 < (s.size : Int)) && allB vis8 s)
      · have e1 : rdO s = false := by unfold rdO rdA; rw [vis_no hv]; rfl
        rw [rdU_no e1, e1]
        rw [hv] at H1
        clear e1 hv
        go_enter Tryz.func8, Tryz.ntmps8
        go_wp2_with (go_at_call 25; refine (H1.out _).mono ?_; rintro e w' ⟨rfl, rfl⟩)
        refine bodyPost_ret (results_cellT rfl _ _ _ rfl (Blk.new w _ _) Tryz.underlying23 Tryz.infoUrl) rfl ⟨rfl, HB.out⟩
      · rw [hv] at H1
        have hq := vis_size hv (by omega)
        have hu := eqB_upt35 s
        cases h35 : decide (idxS 35 s < 0)
        · have e1 : rdO s = false := by unfold rdO rdA; rw [h35]; simp
          rw [rdU_no e1, e1]
          rw [h35] at hu
          clear e1 hv h35 hq
          generalize uptS 35 s = us at *
          go_enter Tryz.func8, Tryz.ntmps8
          go_wp2_with (first | (go_at_call 25; refine (H1.out _).mono ?_; rintro e w' ⟨rfl, rfl⟩) | (go_at_call 26; refine (H2.out _).mono ?_; rintro e w' ⟨rfl, rfl⟩))
          refine bodyPost_ret (results_cellT rfl _ _ _ rfl (Blk.new w _ _) Tryz.underlying23 Tryz.infoUrl) rfl ⟨rfl, HB.out⟩
        · rw [h35] at hu
          have c7 : (7 : Int) ≤ (s.size : Int) := by omega
          have h7 : 7 ≤ s.size := by omega
          have HZ7 : (s.extract 0 7).size ≤ maxLen := by rw [ByteArray.size_extract]; unfold maxLen; omega
          have H3 := hideB2 (fun W => sFold_any (s.extract 0 7) W HZ7)
          have hp7 : ((foldB (s.extract 0 7)).toList == [104, 116, 116, 112, 58, 47, 47]) = pre7 s := by rw [sch_eq]; unfold pre7; rw [decide_eq_true h7, Bool.true_and]
          clear HZ7
          cases hpre : pre7 s
          · have e1 : rdO s = false := by unfold rdO rdA; rw [hpre]; simp
            rw [rdU_no e1, e1]
            rw [hpre] at hp7
            clear e1 hv h35 hq hpre
            generalize uptS 35 s = us at *
            generalize h7x : s.extract 0 7 = x7 at *
            generalize foldB x7 = f7 at *
            go_enter Tryz.func8, Tryz.ntmps8
            go_wp2_with (first | (go_at_call 25; refine (H1.out _).mono ?_; rintro e w' ⟨rfl, rfl⟩) | (go_at_call 26; refine (H2.out _).mono ?_; rintro e w' ⟨rfl, rfl⟩) | (go_at_call 27; (try rw [h7x]); refine (H3.out _).mono ?_; rintro e w1 ⟨rfl, hb1⟩; have A1 := hideB2 (A0.out.later hb1); have HB1 := hideB2 (below_then HB.out hb1); obtain ⟨a0, a1, a2, a3, a4⟩ := A1.out.u5; obtain ⟨g0, g1, g2, g3, g4⟩ := A1.out.f5U))
            refine bodyPost_ret (results_cellT rfl _ _ _ rfl (A1.out.set5U _ _ _ _ _) Tryz.underlying23 Tryz.infoUrl) rfl ⟨rfl, ?_⟩
            exact below_set5 HB1.out (Nat.le_refl _) _ _ _ _ _
          · obtain ⟨e1, e2⟩ := rdA_yes (s := s) (by unfold rdA; rw [hq, hpre, h35]; rfl)
            generalize hU : rdU s = U at *
            generalize hO : rdO s = O at *
            have hrz : (s.extract 7 s.size).size = s.size - 7 := by rw [ByteArray.size_extract]; omega
            have HKS0 := rdK_spec (s.extract 7 s.size)
            rw [hpre] at hp7
            have HO0 := hideB2 (And.intro e1 e2)
            clear hU hO e1 e2 hv h35 hq hpre
            generalize uptS 35 s = us at *
            generalize h7x : s.extract 0 7 = x7 at *
            generalize foldB x7 = f7 at *
            generalize hrr : s.extract 7 s.size = r at *
            generalize rdK r = KK at *
            have H4 := hideB2 (fun W => l6uptoS_any r 63 W (by unfold maxLen; omega))
            change Hid (∀ W, Calls _ _ #[_, .int .u8 63] W _) at H4
            have zf := uptS_size 63 r
            unfold auU at HKS0
            generalize uptS 63 r = fr at *
            have H5 := hideB2 (fun W => l6uptoS_any fr 47 W (by unfold maxLen; omega))
            change Hid (∀ W, Calls _ _ #[_, .int .u8 47] W _) at H5
            have za := uptS_size 47 fr
            generalize uptS 47 fr = au at *
            have H6 := hideB2 (fun W => l6uptoS_any au 58 W (by unfold maxLen; omega))
            change Hid (∀ W, Calls _ _ #[_, .int .u8 58] W _) at H6
            have zh := uptS_size 58 au
            generalize uptS 58 au = ho at *
            have H7 := hideB2 (fun W => sFold_any ho W (by unfold maxLen; omega))
            have hfz := foldB_size ho
            generalize foldB ho = fo at *
            have zp : (au.extract (ho.size + 1) au.size).size ≤ au.size := by rw [ByteArray.size_extract]; omega
            have zq : (r.extract (fr.size + 1) r.size).size ≤ r.size := by rw [ByteArray.size_extract]; omega
            have zt : (fr.extract au.size fr.size).size ≤ fr.size := by rw [ByteArray.size_extract]; omega
            generalize hpo : au.extract (ho.size + 1) au.size = p at *
            generalize hqq : r.extract (fr.size + 1) r.size = q at *
            generalize hpp : fr.extract au.size fr.size = pt at *
            have HKS := hideB2 HKS0
            have HRD0 := hideB2 (fun W => sReadDec_any p W (by unfold maxLen; omega))
            have HCP := hideB2 (fun W => sCleanPath_any pt W (by unfold maxLen; omega))
            clear HKS0
            have w1n : IntKind.i64.wrap ((ho.size : Int) + 1) = (ho.size : Int) + 1 := by rw [IntKind.wrap_i64]; omega
            have w2n : IntKind.i64.wrap ((fr.size : Int) + 1) = (fr.size : Int) + 1 := by rw [IntKind.wrap_i64]; omega
            have b1 : (0 : Int) ≤ (ho.size : Int) + 1 := by omega
            have b2 : (0 : Int) ≤ (fr.size : Int) + 1 := by omega
            have b3 : (0 : Int) ≤ (au.size : Int) := by omega
            have b4 : (au.size : Int) ≤ (fr.size : Int) := by omega
            have hr9 : r.size ≤ 1048576 := by omega
            clear hrz
            go_enter Tryz.func8, Tryz.ntmps8
            go_wp2_with fail
            refine (H1.out _).mono ?_
            rintro e wx ⟨rfl, rfl⟩
            go_wp2_with fail
            refine (H2.out _).mono ?_
            rintro e wy ⟨rfl, rfl⟩
            go_wp2_with fail
            (try rw [h7x])
            refine (H3.out _).mono ?_
            rintro e w1 ⟨rfl, hb1⟩
            go_wp2_with fail
            (try rw [hrr])
            refine (H4.out _).mono ?_
            rintro e wa ⟨rfl, rfl⟩
            go_wp2_with fail
            refine (H5.out _).mono ?_
            rintro e wb ⟨rfl, rfl⟩
            go_wp2_with fail
            refine (H6.out _).mono ?_
            rintro e wc ⟨rfl, rfl⟩
            go_wp2_with fail
            refine (H7.out _).mono ?_
            rintro e w2 ⟨rfl, hb2⟩
            have A2 := hideB2 ((A0.out.later hb1).later hb2)
            have HB2 := hideB2 (below_then (below_then HB.out hb1) hb2)
            have hlt := A2.out.lt
            clear hb1 hb2 HB A0 H1 H2 H3 H4 H5 H6 H7
            have hne : w2.heap.size ≠ w.heap.size := by omega
            have hge : w.heap.size ≤ w2.heap.size := by omega
            by_cases htold : ho.size < au.size
            · have htold1 : (ho.size : Int) < (au.size : Int) := by omega
              have b5 : (ho.size : Int) + 1 ≤ (au.size : Int) := by omega
              cases hok : rdecOk p
              · have hn0 : rdecN p = 0 := by
                  unfold rdecOk at hok
                  unfold rdecN
                  cases hr : rdec p with
                  | none => rfl
                  | some x => rw [hr] at hok; cases hok
                have HRD := HRD0
                rw [hok] at HRD
                have HUO2 := hideB2 (show O = false ∧ U = ur0 by
                  obtain ⟨h1, h2⟩ := HO0.out
                  have : urQ KK = false := urQ_port (by rw [HKS.out]; simp only []; rw [if_pos htold, hn0])
                  rw [this] at h1 h2
                  exact ⟨h1, h2⟩)
                clear hok hn0 HRD0
                generalize rdecN p = n at *
                go_wp2_with fail
                (try rw [hpo])
                refine (HRD.out _).mono ?_
                rintro e w3 ⟨rfl, hb3⟩
                have A3 := hideB2 ((A2.out.alloc (.cells #[.string fo, .int .i64 80, .string ⟨#[47]⟩, .string ⟨#[]⟩, .bool false] 23)).later hb3)
                have HB3 := hideB2 (below_then (below_then HB2.out (below_a1 w2 (.cells #[.string fo, .int .i64 80, .string ⟨#[47]⟩, .string ⟨#[]⟩, .bool false] 23))) hb3)
                clear hb3
                obtain ⟨a0, a1, a2, a3, a4⟩ := A3.out.u5
                obtain ⟨g0, g1, g2, g3, g4⟩ := A3.out.f5U
                have HF := hideB2 (show Ending.returned (.tuple #[.agg #[.string ⟨#[]⟩, .int .i64 0, .string ⟨#[]⟩, .string ⟨#[]⟩, .bool false], .bool false]) = .returned (.tuple #[valU U, .bool O]) by obtain ⟨h1, h2⟩ := HUO2.out; rw [h1, h2]; rfl)
                go_wp2
                refine bodyPost_ret (results_cellT rfl _ _ _ rfl (A3.out.set5U _ _ _ _ _) Tryz.underlying23 Tryz.infoUrl) rfl ⟨?_, ?_⟩
                · exact HF.out
                exact below_set5 HB3.out (Nat.le_refl _) _ _ _ _ _
              · have HRD := HRD0
                rw [hok] at HRD
                clear hok HRD0
                by_cases hpath : au.size < fr.size
                · have hpath1 : (au.size : Int) < (fr.size : Int) := by omega
                  by_cases hquery : fr.size < r.size
                  · have hquery1 : (fr.size : Int) < (r.size : Int) := by omega
                    have HK := hideB2 (show KK = ⟨fo, clnB pt, q, rdecN p, true⟩ by rw [HKS.out, if_pos hpath, if_pos hquery, if_pos htold, decide_eq_true hquery])
                    have HUO := hideB2 (fun W => sUrlOk_any fo (clnB pt) q (rdecN p) true W (by omega) (by have := clnB_size pt; omega) (by omega))
                    have HUO2 := hideB2 (show O = urQ KK ∧ U = if urQ KK = true then KK else ur0 from HO0.out)
                    change Hid (∀ W, Calls _ _ _ W fun e w' => e = .returned (.bool (urQ ⟨fo, clnB pt, q, rdecN p, true⟩)) ∧ Below W.heap.size W w') at HUO
                    rw [← HK.out] at HUO
                    generalize urQ KK = okv at *
                    generalize hcp : clnB pt = cp at *
                    clear hcp
                    generalize hnn : rdecN p = n at *
                    clear hnn
                    go_wp2_with fail
                    (try rw [hpo])
                    refine (HRD.out _).mono ?_
                    rintro e w3 ⟨rfl, hb3⟩
                    have B3 := hideB2 ((Blk.new w2 #[.string fo, .int .i64 80, .string ⟨#[47]⟩, .string ⟨#[]⟩, .bool false] 23).later hb3)
                    have A3 := hideB2 ((A2.out.alloc (.cells #[.string fo, .int .i64 80, .string ⟨#[47]⟩, .string ⟨#[]⟩, .bool false] 23)).later hb3)
                    have HB3 := hideB2 (below_then (below_then HB2.out (below_a1 w2 (.cells #[.string fo, .int .i64 80, .string ⟨#[47]⟩, .string ⟨#[]⟩, .bool false] 23))) hb3)
                    clear hb3
                    obtain ⟨p0, p1, p2, p3, p4⟩ := B3.out.u5
                    obtain ⟨f0, f1, f2, f3, f4⟩ := B3.out.f5U
                    go_wp2_with (first | (go_at_call 28; fail) | fail)
                    (try rw [hpp])
                    refine (HCP.out _).mono ?_
                    rintro e w4 ⟨rfl, hb4⟩
                    have B4 : Hid (Blk w4 w2.heap.size #[.string fo, .int .i64 n, .string ⟨#[47]⟩, .string ⟨#[]⟩, .bool false] 23) := hideB2 ((B3.out.set 1 _).later hb4)
                    have A4 : Hid (Blk w4 w.heap.size #[.string ⟨#[]⟩, .int .i64 0, .string ⟨#[]⟩, .string ⟨#[]⟩, .bool false] 23) := hideB2 ((A3.out.other hne 1 _).later hb4)
                    have HB4 := hideB2 (below_then (HB3.out.setCell (p := ⟨w2.heap.size, 1, none⟩) hge _) hb4)
                    clear p0 p1 p2 p3 p4 f0 f1 f2 f3 f4 B3 A3 HB3
                    clear hb4
                    obtain ⟨p0, p1, p2, p3, p4⟩ := B4.out.u5
                    obtain ⟨f0, f1, f2, f3, f4⟩ := B4.out.f5U
                    go_wp2_with fail
                    (try rw [hqq])
                    refine (HUO.out _).mono ?_
                    rintro e w5 ⟨rfl, hb5⟩
                    have B5 : Hid (Blk w5 w2.heap.size #[.string fo, .int .i64 n, .string cp, .string q, .bool true] 23) := hideB2 ((((B4.out.set 2 _).set 4 _).set 3 _).later hb5)
                    have A5 : Hid (Blk w5 w.heap.size #[.string ⟨#[]⟩, .int .i64 0, .string ⟨#[]⟩, .string ⟨#[]⟩, .bool false] 23) := hideB2 ((((A4.out.other hne 2 _).other hne 4 _).other hne 3 _).later hb5)
                    have HB5 := hideB2 (below_then (((HB4.out.setCell (p := ⟨w2.heap.size, 2, none⟩) hge _).setCell (p := ⟨w2.heap.size, 4, none⟩) hge _).setCell (p := ⟨w2.heap.size, 3, none⟩) hge _) hb5)
                    clear p0 p1 p2 p3 p4 f0 f1 f2 f3 f4 B4 A4 HB4
                    clear hb5
                    obtain ⟨p0, p1, p2, p3, p4⟩ := B5.out.u5
                    obtain ⟨a0, a1, a2, a3, a4⟩ := A5.out.u5
                    obtain ⟨g0, g1, g2, g3, g4⟩ := A5.out.f5U
                    clear B5 HUO
                    cases okv
                    · have HF := hideB2 (show Ending.returned (.tuple #[.agg #[.string ⟨#[]⟩, .int .i64 0, .string ⟨#[]⟩, .string ⟨#[]⟩, .bool false], .bool false]) = .returned (.tuple #[valU U, .bool O]) by obtain ⟨h1, h2⟩ := HUO2.out; rw [h1, h2]; rfl)
                      go_wp2
                      refine bodyPost_ret (results_cellT rfl _ _ _ rfl (A5.out.set5U _ _ _ _ _) Tryz.underlying23 Tryz.infoUrl) rfl ⟨?_, ?_⟩
                      · exact HF.out
                      exact below_set5 HB5.out (Nat.le_refl _) _ _ _ _ _
                    · have HF := hideB2 (show Ending.returned (.tuple #[.agg #[.string fo, .int .i64 n, .string cp, .string q, .bool true], .bool true]) = .returned (.tuple #[valU U, .bool O]) by obtain ⟨h1, h2⟩ := HUO2.out; rw [h1, h2, HK.out]; rfl)
                      go_wp2
                      refine bodyPost_ret (results_cellT rfl _ _ _ rfl (A5.out.set5U _ _ _ _ _) Tryz.underlying23 Tryz.infoUrl) rfl ⟨?_, ?_⟩
                      · exact HF.out
                      exact below_set5 HB5.out (Nat.le_refl _) _ _ _ _ _
                  · have hquery1 : ¬ (fr.size : Int) < (r.size : Int) := by omega
                    have HK := hideB2 (show KK = ⟨fo, clnB pt, ⟨#[]⟩, rdecN p, false⟩ by rw [HKS.out, if_pos hpath, if_neg hquery, if_pos htold, decide_eq_false hquery])
                    have HUO := hideB2 (fun W => sUrlOk_any fo (clnB pt) ⟨#[]⟩ (rdecN p) false W (by omega) (by have := clnB_size pt; omega) (by decide))
                    have HUO2 := hideB2 (show O = urQ KK ∧ U = if urQ KK = true then KK else ur0 from HO0.out)
                    change Hid (∀ W, Calls _ _ _ W fun e w' => e = .returned (.bool (urQ ⟨fo, clnB pt, ⟨#[]⟩, rdecN p, false⟩)) ∧ Below W.heap.size W w') at HUO
                    rw [← HK.out] at HUO
                    generalize urQ KK = okv at *
                    generalize hcp : clnB pt = cp at *
                    clear hcp
                    generalize hnn : rdecN p = n at *
                    clear hnn
                    go_wp2_with fail
                    (try rw [hpo])
                    refine (HRD.out _).mono ?_
                    rintro e w3 ⟨rfl, hb3⟩
                    have B3 := hideB2 ((Blk.new w2 #[.string fo, .int .i64 80, .string ⟨#[47]⟩, .string ⟨#[]⟩, .bool false] 23).later hb3)
                    have A3 := hideB2 ((A2.out.alloc (.cells #[.string fo, .int .i64 80, .string ⟨#[47]⟩, .string ⟨#[]⟩, .bool false] 23)).later hb3)
                    have HB3 := hideB2 (below_then (below_then HB2.out (below_a1 w2 (.cells #[.string fo, .int .i64 80, .string ⟨#[47]⟩, .string ⟨#[]⟩, .bool false] 23))) hb3)
                    clear hb3
                    obtain ⟨p0, p1, p2, p3, p4⟩ := B3.out.u5
                    obtain ⟨f0, f1, f2, f3, f4⟩ := B3.out.f5U
                    go_wp2_with (first | (go_at_call 28; fail) | fail)
                    (try rw [hpp])
                    refine (HCP.out _).mono ?_
                    rintro e w4 ⟨rfl, hb4⟩
                    have B4 : Hid (Blk w4 w2.heap.size #[.string fo, .int .i64 n, .string ⟨#[47]⟩, .string ⟨#[]⟩, .bool false] 23) := hideB2 ((B3.out.set 1 _).later hb4)
                    have A4 : Hid (Blk w4 w.heap.size #[.string ⟨#[]⟩, .int .i64 0, .string ⟨#[]⟩, .string ⟨#[]⟩, .bool false] 23) := hideB2 ((A3.out.other hne 1 _).later hb4)
                    have HB4 := hideB2 (below_then (HB3.out.setCell (p := ⟨w2.heap.size, 1, none⟩) hge _) hb4)
                    clear p0 p1 p2 p3 p4 f0 f1 f2 f3 f4 B3 A3 HB3
                    clear hb4
                    obtain ⟨p0, p1, p2, p3, p4⟩ := B4.out.u5
                    obtain ⟨f0, f1, f2, f3, f4⟩ := B4.out.f5U
                    go_wp2_with fail
                    (try rw [hqq])
                    refine (HUO.out _).mono ?_
                    rintro e w5 ⟨rfl, hb5⟩
                    have B5 : Hid (Blk w5 w2.heap.size #[.string fo, .int .i64 n, .string cp, .string ⟨#[]⟩, .bool false] 23) := hideB2 ((B4.out.set 2 _).later hb5)
                    have A5 : Hid (Blk w5 w.heap.size #[.string ⟨#[]⟩, .int .i64 0, .string ⟨#[]⟩, .string ⟨#[]⟩, .bool false] 23) := hideB2 ((A4.out.other hne 2 _).later hb5)
                    have HB5 := hideB2 (below_then (HB4.out.setCell (p := ⟨w2.heap.size, 2, none⟩) hge _) hb5)
                    clear p0 p1 p2 p3 p4 f0 f1 f2 f3 f4 B4 A4 HB4
                    clear hb5
                    obtain ⟨p0, p1, p2, p3, p4⟩ := B5.out.u5
                    obtain ⟨a0, a1, a2, a3, a4⟩ := A5.out.u5
                    obtain ⟨g0, g1, g2, g3, g4⟩ := A5.out.f5U
                    clear B5 HUO
                    cases okv
                    · have HF := hideB2 (show Ending.returned (.tuple #[.agg #[.string ⟨#[]⟩, .int .i64 0, .string ⟨#[]⟩, .string ⟨#[]⟩, .bool false], .bool false]) = .returned (.tuple #[valU U, .bool O]) by obtain ⟨h1, h2⟩ := HUO2.out; rw [h1, h2]; rfl)
                      go_wp2
                      refine bodyPost_ret (results_cellT rfl _ _ _ rfl (A5.out.set5U _ _ _ _ _) Tryz.underlying23 Tryz.infoUrl) rfl ⟨?_, ?_⟩
                      · exact HF.out
                      exact below_set5 HB5.out (Nat.le_refl _) _ _ _ _ _
                    · have HF := hideB2 (show Ending.returned (.tuple #[.agg #[.string fo, .int .i64 n, .string cp, .string ⟨#[]⟩, .bool false], .bool true]) = .returned (.tuple #[valU U, .bool O]) by obtain ⟨h1, h2⟩ := HUO2.out; rw [h1, h2, HK.out]; rfl)
                      go_wp2
                      refine bodyPost_ret (results_cellT rfl _ _ _ rfl (A5.out.set5U _ _ _ _ _) Tryz.underlying23 Tryz.infoUrl) rfl ⟨?_, ?_⟩
                      · exact HF.out
                      exact below_set5 HB5.out (Nat.le_refl _) _ _ _ _ _
                · have hpath1 : ¬ (au.size : Int) < (fr.size : Int) := by omega
                  by_cases hquery : fr.size < r.size
                  · have hquery1 : (fr.size : Int) < (r.size : Int) := by omega
                    have HK := hideB2 (show KK = ⟨fo, rootB, q, rdecN p, true⟩ by rw [HKS.out, if_neg hpath, if_pos hquery, if_pos htold, decide_eq_true hquery])
                    have HUO := hideB2 (fun W => sUrlOk_any fo ⟨#[47]⟩ q (rdecN p) true W (by omega) (by decide) (by omega))
                    have HUO2 := hideB2 (show O = urQ KK ∧ U = if urQ KK = true then KK else ur0 from HO0.out)
                    change Hid (∀ W, Calls _ _ _ W fun e w' => e = .returned (.bool (urQ ⟨fo, rootB, q, rdecN p, true⟩)) ∧ Below W.heap.size W w') at HUO
                    rw [← HK.out] at HUO
                    generalize urQ KK = okv at *
                    generalize hnn : rdecN p = n at *
                    clear hnn
                    go_wp2_with fail
                    (try rw [hpo])
                    refine (HRD.out _).mono ?_
                    rintro e w3 ⟨rfl, hb3⟩
                    have B3 := hideB2 ((Blk.new w2 #[.string fo, .int .i64 80, .string ⟨#[47]⟩, .string ⟨#[]⟩, .bool false] 23).later hb3)
                    have A3 := hideB2 ((A2.out.alloc (.cells #[.string fo, .int .i64 80, .string ⟨#[47]⟩, .string ⟨#[]⟩, .bool false] 23)).later hb3)
                    have HB3 := hideB2 (below_then (below_then HB2.out (below_a1 w2 (.cells #[.string fo, .int .i64 80, .string ⟨#[47]⟩, .string ⟨#[]⟩, .bool false] 23))) hb3)
                    clear hb3
                    obtain ⟨p0, p1, p2, p3, p4⟩ := B3.out.u5
                    obtain ⟨f0, f1, f2, f3, f4⟩ := B3.out.f5U
                    go_wp2_with fail
                    (try rw [hqq])
                    refine (HUO.out _).mono ?_
                    rintro e w5 ⟨rfl, hb5⟩
                    have B5 : Hid (Blk w5 w2.heap.size #[.string fo, .int .i64 n, .string ⟨#[47]⟩, .string q, .bool true] 23) := hideB2 ((((B3.out.set 1 _).set 4 _).set 3 _).later hb5)
                    have A5 : Hid (Blk w5 w.heap.size #[.string ⟨#[]⟩, .int .i64 0, .string ⟨#[]⟩, .string ⟨#[]⟩, .bool false] 23) := hideB2 ((((A3.out.other hne 1 _).other hne 4 _).other hne 3 _).later hb5)
                    have HB5 := hideB2 (below_then (((HB3.out.setCell (p := ⟨w2.heap.size, 1, none⟩) hge _).setCell (p := ⟨w2.heap.size, 4, none⟩) hge _).setCell (p := ⟨w2.heap.size, 3, none⟩) hge _) hb5)
                    clear p0 p1 p2 p3 p4 f0 f1 f2 f3 f4 B3 A3 HB3
                    clear hb5
                    obtain ⟨p0, p1, p2, p3, p4⟩ := B5.out.u5
                    obtain ⟨a0, a1, a2, a3, a4⟩ := A5.out.u5
                    obtain ⟨g0, g1, g2, g3, g4⟩ := A5.out.f5U
                    clear B5 HUO
                    cases okv
                    · have HF := hideB2 (show Ending.returned (.tuple #[.agg #[.string ⟨#[]⟩, .int .i64 0, .string ⟨#[]⟩, .string ⟨#[]⟩, .bool false], .bool false]) = .returned (.tuple #[valU U, .bool O]) by obtain ⟨h1, h2⟩ := HUO2.out; rw [h1, h2]; rfl)
                      go_wp2
                      refine bodyPost_ret (results_cellT rfl _ _ _ rfl (A5.out.set5U _ _ _ _ _) Tryz.underlying23 Tryz.infoUrl) rfl ⟨?_, ?_⟩
                      · exact HF.out
                      exact below_set5 HB5.out (Nat.le_refl _) _ _ _ _ _
                    · have HF := hideB2 (show Ending.returned (.tuple #[.agg #[.string fo, .int .i64 n, .string ⟨#[47]⟩, .string q, .bool true], .bool true]) = .returned (.tuple #[valU U, .bool O]) by obtain ⟨h1, h2⟩ := HUO2.out; rw [h1, h2, HK.out]; rfl)
                      go_wp2
                      refine bodyPost_ret (results_cellT rfl _ _ _ rfl (A5.out.set5U _ _ _ _ _) Tryz.underlying23 Tryz.infoUrl) rfl ⟨?_, ?_⟩
                      · exact HF.out
                      exact below_set5 HB5.out (Nat.le_refl _) _ _ _ _ _
                  · have hquery1 : ¬ (fr.size : Int) < (r.size : Int) := by omega
                    have HK := hideB2 (show KK = ⟨fo, rootB, ⟨#[]⟩, rdecN p, false⟩ by rw [HKS.out, if_neg hpath, if_neg hquery, if_pos htold, decide_eq_false hquery])
                    have HUO := hideB2 (fun W => sUrlOk_any fo ⟨#[47]⟩ ⟨#[]⟩ (rdecN p) false W (by omega) (by decide) (by decide))
                    have HUO2 := hideB2 (show O = urQ KK ∧ U = if urQ KK = true then KK else ur0 from HO0.out)
                    change Hid (∀ W, Calls _ _ _ W fun e w' => e = .returned (.bool (urQ ⟨fo, rootB, ⟨#[]⟩, rdecN p, false⟩)) ∧ Below W.heap.size W w') at HUO
                    rw [← HK.out] at HUO
                    generalize urQ KK = okv at *
                    generalize hnn : rdecN p = n at *
                    clear hnn
                    go_wp2_with fail
                    (try rw [hpo])
                    refine (HRD.out _).mono ?_
                    rintro e w3 ⟨rfl, hb3⟩
                    have B3 := hideB2 ((Blk.new w2 #[.string fo, .int .i64 80, .string ⟨#[47]⟩, .string ⟨#[]⟩, .bool false] 23).later hb3)
                    have A3 := hideB2 ((A2.out.alloc (.cells #[.string fo, .int .i64 80, .string ⟨#[47]⟩, .string ⟨#[]⟩, .bool false] 23)).later hb3)
                    have HB3 := hideB2 (below_then (below_then HB2.out (below_a1 w2 (.cells #[.string fo, .int .i64 80, .string ⟨#[47]⟩, .string ⟨#[]⟩, .bool false] 23))) hb3)
                    clear hb3
                    obtain ⟨p0, p1, p2, p3, p4⟩ := B3.out.u5
                    obtain ⟨f0, f1, f2, f3, f4⟩ := B3.out.f5U
                    go_wp2_with fail
                    (try rw [hqq])
                    refine (HUO.out _).mono ?_
                    rintro e w5 ⟨rfl, hb5⟩
                    have B5 : Hid (Blk w5 w2.heap.size #[.string fo, .int .i64 n, .string ⟨#[47]⟩, .string ⟨#[]⟩, .bool false] 23) := hideB2 ((B3.out.set 1 _).later hb5)
                    have A5 : Hid (Blk w5 w.heap.size #[.string ⟨#[]⟩, .int .i64 0, .string ⟨#[]⟩, .string ⟨#[]⟩, .bool false] 23) := hideB2 ((A3.out.other hne 1 _).later hb5)
                    have HB5 := hideB2 (below_then (HB3.out.setCell (p := ⟨w2.heap.size, 1, none⟩) hge _) hb5)
                    clear p0 p1 p2 p3 p4 f0 f1 f2 f3 f4 B3 A3 HB3
                    clear hb5
                    obtain ⟨p0, p1, p2, p3, p4⟩ := B5.out.u5
                    obtain ⟨a0, a1, a2, a3, a4⟩ := A5.out.u5
                    obtain ⟨g0, g1, g2, g3, g4⟩ := A5.out.f5U
                    clear B5 HUO
                    cases okv
                    · have HF := hideB2 (show Ending.returned (.tuple #[.agg #[.string ⟨#[]⟩, .int .i64 0, .string ⟨#[]⟩, .string ⟨#[]⟩, .bool false], .bool false]) = .returned (.tuple #[valU U, .bool O]) by obtain ⟨h1, h2⟩ := HUO2.out; rw [h1, h2]; rfl)
                      go_wp2
                      refine bodyPost_ret (results_cellT rfl _ _ _ rfl (A5.out.set5U _ _ _ _ _) Tryz.underlying23 Tryz.infoUrl) rfl ⟨?_, ?_⟩
                      · exact HF.out
                      exact below_set5 HB5.out (Nat.le_refl _) _ _ _ _ _
                    · have HF := hideB2 (show Ending.returned (.tuple #[.agg #[.string fo, .int .i64 n, .string ⟨#[47]⟩, .string ⟨#[]⟩, .bool false], .bool true]) = .returned (.tuple #[valU U, .bool O]) by obtain ⟨h1, h2⟩ := HUO2.out; rw [h1, h2, HK.out]; rfl)
                      go_wp2
                      refine bodyPost_ret (results_cellT rfl _ _ _ rfl (A5.out.set5U _ _ _ _ _) Tryz.underlying23 Tryz.infoUrl) rfl ⟨?_, ?_⟩
                      · exact HF.out
                      exact below_set5 HB5.out (Nat.le_refl _) _ _ _ _ _
            · have htold1 : ¬ (ho.size : Int) < (au.size : Int) := by omega
              by_cases hpath : au.size < fr.size
              · have hpath1 : (au.size : Int) < (fr.size : Int) := by omega
                by_cases hquery : fr.size < r.size
                · have hquery1 : (fr.size : Int) < (r.size : Int) := by omega
                  have HK := hideB2 (show KK = ⟨fo, clnB pt, q, 80, true⟩ by rw [HKS.out, if_pos hpath, if_pos hquery, if_neg htold, decide_eq_true hquery])
                  have HUO := hideB2 (fun W => sUrlOk_any fo (clnB pt) q (80) true W (by omega) (by have := clnB_size pt; omega) (by omega))
                  have HUO2 := hideB2 (show O = urQ KK ∧ U = if urQ KK = true then KK else ur0 from HO0.out)
                  change Hid (∀ W, Calls _ _ _ W fun e w' => e = .returned (.bool (urQ ⟨fo, clnB pt, q, 80, true⟩)) ∧ Below W.heap.size W w') at HUO
                  rw [← HK.out] at HUO
                  generalize urQ KK = okv at *
                  generalize hcp : clnB pt = cp at *
                  clear hcp
                  go_wp2_with (first | (go_at_call 28; fail) | fail)
                  (try rw [hpp])
                  refine (HCP.out _).mono ?_
                  rintro e w4 ⟨rfl, hb4⟩
                  have B4 := hideB2 ((Blk.new w2 #[.string fo, .int .i64 80, .string ⟨#[47]⟩, .string ⟨#[]⟩, .bool false] 23).later hb4)
                  have A4 := hideB2 ((A2.out.alloc (.cells #[.string fo, .int .i64 80, .string ⟨#[47]⟩, .string ⟨#[]⟩, .bool false] 23)).later hb4)
                  have HB4 := hideB2 (below_then (below_then HB2.out (below_a1 w2 (.cells #[.string fo, .int .i64 80, .string ⟨#[47]⟩, .string ⟨#[]⟩, .bool false] 23))) hb4)
                  clear hb4
                  obtain ⟨p0, p1, p2, p3, p4⟩ := B4.out.u5
                  obtain ⟨f0, f1, f2, f3, f4⟩ := B4.out.f5U
                  go_wp2_with fail
                  (try rw [hqq])
                  refine (HUO.out _).mono ?_
                  rintro e w5 ⟨rfl, hb5⟩
                  have B5 : Hid (Blk w5 w2.heap.size #[.string fo, .int .i64 80, .string cp, .string q, .bool true] 23) := hideB2 ((((B4.out.set 2 _).set 4 _).set 3 _).later hb5)
                  have A5 : Hid (Blk w5 w.heap.size #[.string ⟨#[]⟩, .int .i64 0, .string ⟨#[]⟩, .string ⟨#[]⟩, .bool false] 23) := hideB2 ((((A4.out.other hne 2 _).other hne 4 _).other hne 3 _).later hb5)
                  have HB5 := hideB2 (below_then (((HB4.out.setCell (p := ⟨w2.heap.size, 2, none⟩) hge _).setCell (p := ⟨w2.heap.size, 4, none⟩) hge _).setCell (p := ⟨w2.heap.size, 3, none⟩) hge _) hb5)
                  clear p0 p1 p2 p3 p4 f0 f1 f2 f3 f4 B4 A4 HB4
                  clear hb5
                  obtain ⟨p0, p1, p2, p3, p4⟩ := B5.out.u5
                  obtain ⟨a0, a1, a2, a3, a4⟩ := A5.out.u5
                  obtain ⟨g0, g1, g2, g3, g4⟩ := A5.out.f5U
                  clear B5 HUO
                  cases okv
                  · have HF := hideB2 (show Ending.returned (.tuple #[.agg #[.string ⟨#[]⟩, .int .i64 0, .string ⟨#[]⟩, .string ⟨#[]⟩, .bool false], .bool false]) = .returned (.tuple #[valU U, .bool O]) by obtain ⟨h1, h2⟩ := HUO2.out; rw [h1, h2]; rfl)
                    go_wp2
                    refine bodyPost_ret (results_cellT rfl _ _ _ rfl (A5.out.set5U _ _ _ _ _) Tryz.underlying23 Tryz.infoUrl) rfl ⟨?_, ?_⟩
                    · exact HF.out
                    exact below_set5 HB5.out (Nat.le_refl _) _ _ _ _ _
                  · have HF := hideB2 (show Ending.returned (.tuple #[.agg #[.string fo, .int .i64 80, .string cp, .string q, .bool true], .bool true]) = .returned (.tuple #[valU U, .bool O]) by obtain ⟨h1, h2⟩ := HUO2.out; rw [h1, h2, HK.out]; rfl)
                    go_wp2
                    refine bodyPost_ret (results_cellT rfl _ _ _ rfl (A5.out.set5U _ _ _ _ _) Tryz.underlying23 Tryz.infoUrl) rfl ⟨?_, ?_⟩
                    · exact HF.out
                    exact below_set5 HB5.out (Nat.le_refl _) _ _ _ _ _
                · have hquery1 : ¬ (fr.size : Int) < (r.size : Int) := by omega
                  have HK := hideB2 (show KK = ⟨fo, clnB pt, ⟨#[]⟩, 80, false⟩ by rw [HKS.out, if_pos hpath, if_neg hquery, if_neg htold, decide_eq_false hquery])
                  have HUO := hideB2 (fun W => sUrlOk_any fo (clnB pt) ⟨#[]⟩ (80) false W (by omega) (by have := clnB_size pt; omega) (by decide))
                  have HUO2 := hideB2 (show O = urQ KK ∧ U = if urQ KK = true then KK else ur0 from HO0.out)
                  change Hid (∀ W, Calls _ _ _ W fun e w' => e = .returned (.bool (urQ ⟨fo, clnB pt, ⟨#[]⟩, 80, false⟩)) ∧ Below W.heap.size W w') at HUO
                  rw [← HK.out] at HUO
                  generalize urQ KK = okv at *
                  generalize hcp : clnB pt = cp at *
                  clear hcp
                  go_wp2_with (first | (go_at_call 28; fail) | fail)
                  (try rw [hpp])
                  refine (HCP.out _).mono ?_
                  rintro e w4 ⟨rfl, hb4⟩
                  have B4 := hideB2 ((Blk.new w2 #[.string fo, .int .i64 80, .string ⟨#[47]⟩, .string ⟨#[]⟩, .bool false] 23).later hb4)
                  have A4 := hideB2 ((A2.out.alloc (.cells #[.string fo, .int .i64 80, .string ⟨#[47]⟩, .string ⟨#[]⟩, .bool false] 23)).later hb4)
                  have HB4 := hideB2 (below_then (below_then HB2.out (below_a1 w2 (.cells #[.string fo, .int .i64 80, .string ⟨#[47]⟩, .string ⟨#[]⟩, .bool false] 23))) hb4)
                  clear hb4
                  obtain ⟨p0, p1, p2, p3, p4⟩ := B4.out.u5
                  obtain ⟨f0, f1, f2, f3, f4⟩ := B4.out.f5U
                  go_wp2_with fail
                  (try rw [hqq])
                  refine (HUO.out _).mono ?_
                  rintro e w5 ⟨rfl, hb5⟩
                  have B5 : Hid (Blk w5 w2.heap.size #[.string fo, .int .i64 80, .string cp, .string ⟨#[]⟩, .bool false] 23) := hideB2 ((B4.out.set 2 _).later hb5)
                  have A5 : Hid (Blk w5 w.heap.size #[.string ⟨#[]⟩, .int .i64 0, .string ⟨#[]⟩, .string ⟨#[]⟩, .bool false] 23) := hideB2 ((A4.out.other hne 2 _).later hb5)
                  have HB5 := hideB2 (below_then (HB4.out.setCell (p := ⟨w2.heap.size, 2, none⟩) hge _) hb5)
                  clear p0 p1 p2 p3 p4 f0 f1 f2 f3 f4 B4 A4 HB4
                  clear hb5
                  obtain ⟨p0, p1, p2, p3, p4⟩ := B5.out.u5
                  obtain ⟨a0, a1, a2, a3, a4⟩ := A5.out.u5
                  obtain ⟨g0, g1, g2, g3, g4⟩ := A5.out.f5U
                  clear B5 HUO
                  cases okv
                  · have HF := hideB2 (show Ending.returned (.tuple #[.agg #[.string ⟨#[]⟩, .int .i64 0, .string ⟨#[]⟩, .string ⟨#[]⟩, .bool false], .bool false]) = .returned (.tuple #[valU U, .bool O]) by obtain ⟨h1, h2⟩ := HUO2.out; rw [h1, h2]; rfl)
                    go_wp2
                    refine bodyPost_ret (results_cellT rfl _ _ _ rfl (A5.out.set5U _ _ _ _ _) Tryz.underlying23 Tryz.infoUrl) rfl ⟨?_, ?_⟩
                    · exact HF.out
                    exact below_set5 HB5.out (Nat.le_refl _) _ _ _ _ _
                  · have HF := hideB2 (show Ending.returned (.tuple #[.agg #[.string fo, .int .i64 80, .string cp, .string ⟨#[]⟩, .bool false], .bool true]) = .returned (.tuple #[valU U, .bool O]) by obtain ⟨h1, h2⟩ := HUO2.out; rw [h1, h2, HK.out]; rfl)
                    go_wp2
                    refine bodyPost_ret (results_cellT rfl _ _ _ rfl (A5.out.set5U _ _ _ _ _) Tryz.underlying23 Tryz.infoUrl) rfl ⟨?_, ?_⟩
                    · exact HF.out
                    exact below_set5 HB5.out (Nat.le_refl _) _ _ _ _ _
              · have hpath1 : ¬ (au.size : Int) < (fr.size : Int) := by omega
                by_cases hquery : fr.size < r.size
                · have hquery1 : (fr.size : Int) < (r.size : Int) := by omega
                  have HK := hideB2 (show KK = ⟨fo, rootB, q, 80, true⟩ by rw [HKS.out, if_neg hpath, if_pos hquery, if_neg htold, decide_eq_true hquery])
                  have HUO := hideB2 (fun W => sUrlOk_any fo ⟨#[47]⟩ q (80) true W (by omega) (by decide) (by omega))
                  have HUO2 := hideB2 (show O = urQ KK ∧ U = if urQ KK = true then KK else ur0 from HO0.out)
                  change Hid (∀ W, Calls _ _ _ W fun e w' => e = .returned (.bool (urQ ⟨fo, rootB, q, 80, true⟩)) ∧ Below W.heap.size W w') at HUO
                  rw [← HK.out] at HUO
                  generalize urQ KK = okv at *
                  go_wp2_with fail
                  (try rw [hqq])
                  refine (HUO.out _).mono ?_
                  rintro e w5 ⟨rfl, hb5⟩
                  have B5 := hideB2 ((Blk.new w2 #[.string fo, .int .i64 80, .string ⟨#[47]⟩, .string q, .bool true] 23).later hb5)
                  have A5 := hideB2 ((A2.out.alloc (.cells #[.string fo, .int .i64 80, .string ⟨#[47]⟩, .string q, .bool true] 23)).later hb5)
                  have HB5 := hideB2 (below_then (below_then HB2.out (below_a1 w2 (.cells #[.string fo, .int .i64 80, .string ⟨#[47]⟩, .string q, .bool true] 23))) hb5)
                  clear hb5
                  obtain ⟨p0, p1, p2, p3, p4⟩ := B5.out.u5
                  obtain ⟨a0, a1, a2, a3, a4⟩ := A5.out.u5
                  obtain ⟨g0, g1, g2, g3, g4⟩ := A5.out.f5U
                  clear B5 HUO
                  cases okv
                  · have HF := hideB2 (show Ending.returned (.tuple #[.agg #[.string ⟨#[]⟩, .int .i64 0, .string ⟨#[]⟩, .string ⟨#[]⟩, .bool false], .bool false]) = .returned (.tuple #[valU U, .bool O]) by obtain ⟨h1, h2⟩ := HUO2.out; rw [h1, h2]; rfl)
                    go_wp2
                    refine bodyPost_ret (results_cellT rfl _ _ _ rfl (A5.out.set5U _ _ _ _ _) Tryz.underlying23 Tryz.infoUrl) rfl ⟨?_, ?_⟩
                    · exact HF.out
                    exact below_set5 HB5.out (Nat.le_refl _) _ _ _ _ _
                  · have HF := hideB2 (show Ending.returned (.tuple #[.agg #[.string fo, .int .i64 80, .string ⟨#[47]⟩, .string q, .bool true], .bool true]) = .returned (.tuple #[valU U, .bool O]) by obtain ⟨h1, h2⟩ := HUO2.out; rw [h1, h2, HK.out]; rfl)
                    go_wp2
                    refine bodyPost_ret (results_cellT rfl _ _ _ rfl (A5.out.set5U _ _ _ _ _) Tryz.underlying23 Tryz.infoUrl) rfl ⟨?_, ?_⟩
                    · exact HF.out
                    exact below_set5 HB5.out (Nat.le_refl _) _ _ _ _ _
                · have hquery1 : ¬ (fr.size : Int) < (r.size : Int) := by omega
                  have HK := hideB2 (show KK = ⟨fo, rootB, ⟨#[]⟩, 80, false⟩ by rw [HKS.out, if_neg hpath, if_neg hquery, if_neg htold, decide_eq_false hquery])
                  have HUO := hideB2 (fun W => sUrlOk_any fo ⟨#[47]⟩ ⟨#[]⟩ (80) false W (by omega) (by decide) (by decide))
                  have HUO2 := hideB2 (show O = urQ KK ∧ U = if urQ KK = true then KK else ur0 from HO0.out)
                  change Hid (∀ W, Calls _ _ _ W fun e w' => e = .returned (.bool (urQ ⟨fo, rootB, ⟨#[]⟩, 80, false⟩)) ∧ Below W.heap.size W w') at HUO
                  rw [← HK.out] at HUO
                  generalize urQ KK = okv at *
                  go_wp2_with fail
                  (try rw [hqq])
                  refine (HUO.out _).mono ?_
                  rintro e w5 ⟨rfl, hb5⟩
                  have B5 := hideB2 ((Blk.new w2 #[.string fo, .int .i64 80, .string ⟨#[47]⟩, .string ⟨#[]⟩, .bool false] 23).later hb5)
                  have A5 := hideB2 ((A2.out.alloc (.cells #[.string fo, .int .i64 80, .string ⟨#[47]⟩, .string ⟨#[]⟩, .bool false] 23)).later hb5)
                  have HB5 := hideB2 (below_then (below_then HB2.out (below_a1 w2 (.cells #[.string fo, .int .i64 80, .string ⟨#[47]⟩, .string ⟨#[]⟩, .bool false] 23))) hb5)
                  clear hb5
                  obtain ⟨p0, p1, p2, p3, p4⟩ := B5.out.u5
                  obtain ⟨a0, a1, a2, a3, a4⟩ := A5.out.u5
                  obtain ⟨g0, g1, g2, g3, g4⟩ := A5.out.f5U
                  clear B5 HUO
                  cases okv
                  · have HF := hideB2 (show Ending.returned (.tuple #[.agg #[.string ⟨#[]⟩, .int .i64 0, .string ⟨#[]⟩, .string ⟨#[]⟩, .bool false], .bool false]) = .returned (.tuple #[valU U, .bool O]) by obtain ⟨h1, h2⟩ := HUO2.out; rw [h1, h2]; rfl)
                    go_wp2
                    refine bodyPost_ret (results_cellT rfl _ _ _ rfl (A5.out.set5U _ _ _ _ _) Tryz.underlying23 Tryz.infoUrl) rfl ⟨?_, ?_⟩
                    · exact HF.out
                    exact below_set5 HB5.out (Nat.le_refl _) _ _ _ _ _
                  · have HF := hideB2 (show Ending.returned (.tuple #[.agg #[.string fo, .int .i64 80, .string ⟨#[47]⟩, .string ⟨#[]⟩, .bool false], .bool true]) = .returned (.tuple #[valU U, .bool O]) by obtain ⟨h1, h2⟩ := HUO2.out; rw [h1, h2, HK.out]; rfl)
                    go_wp2
                    refine bodyPost_ret (results_cellT rfl _ _ _ rfl (A5.out.set5U _ _ _ _ _) Tryz.underlying23 Tryz.infoUrl) rfl ⟨?_, ?_⟩
                    · exact HF.out
                    exact below_set5 HB5.out (Nat.le_refl _) _ _ _ _ _
end Go.Proofs.YtefhpjipcdmbaabGreatDoor
