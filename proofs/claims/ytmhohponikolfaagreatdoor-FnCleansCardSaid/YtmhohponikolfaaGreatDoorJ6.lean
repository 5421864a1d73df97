/-
  Chapter 7: an address read; the specification's side. · Chapter 7: an address in its one form; both sides; addresses held against each other. · The fixed addresses of the laws; a text at another's beginning. · A path in its one form has no piece of dots and begins with a slash. No Go in sight. · The code that a law is handed, as the walks want it. · What a card of a door seat of chapter 1 needs: the listed tables. · What a card of a door seat of chapter 6 needs: the table of the powers of ten.
-/
import Derived.Test.YtmhohponikolfaaGreatDoorJ5
import Derived.Test.YtmhohponikolfaaGreatDoorJ1
import Derived.Test.YtmhohponikolfaaGreatDoorJ0
import Derived.Lib.LaidTab
import Derived.LaidLaws
import Derived.LaidHandle
import Derived.ChangeVars
import Derived.OpenVars
import Derived.SevenTiedAt
namespace Go.Proofs.YtmhohponikolfaaGreatDoor
set_option linter.unusedVariables false
set_option linter.unusedSimpArgs false
open Go.RowKit
theorem cln_root : clnB rootB = rootB := by
  have h1 : pthQ rootB = true := by decide
  have h2 : evB (rootB.extract 1 rootB.size) = ⟨#[]⟩ := evB_nil (by rw [ByteArray.size_extract]; decide)
  have h3 : splS 47 ⟨#[]⟩ = [⟨#[]⟩] := (splS_none (c := 47) (s := ⟨#[]⟩) (idxS_miss (fun j hj => absurd hj (Nat.not_lt_zero j)))).2
  have h4 : eqB ⟨#[]⟩ dd = false := by unfold eqB; rw [ByteArray.toList_eq, ByteArray.toList_eq]; rfl
  have h5 : eqB ⟨#[]⟩ d1 = false := by unfold eqB; rw [ByteArray.toList_eq, ByteArray.toList_eq]; rfl
  rw [clnB_yes h1, h2, h3]
  have h6 : keepL [⟨#[]⟩] = [⟨#[]⟩] := by
    show keepS [] ⟨#[]⟩ = _
    unfold keepS; rw [h4, h5]; rfl
  have h7 : lastDot [⟨#[]⟩] = false := by
    show dotQ ⟨#[]⟩ = false
    unfold dotQ; rw [h4, h5]; rfl
  unfold keptL
  rw [h7, h6]
  rfl
theorem rdK_spec (r : ByteArray) : rdK r = ⟨foldB (uptS 58 (auU r)), if (auU r).size < (uptS 63 r).size then clnB ((uptS 63 r).extract (auU r).size (uptS 63 r).size) else rootB, if (uptS 63 r).size < r.size then r.extract ((uptS 63 r).size + 1) r.size else ⟨#[]⟩, if (uptS 58 (auU r)).size < (auU r).size then rdecN ((auU r).extract ((uptS 58 (auU r)).size + 1) (auU r).size) else 80, decide ((uptS 63 r).size < r.size)⟩ := by
  obtain ⟨k1, k2, k3, k4⟩ := reU_cut r
  obtain ⟨c1, c2⟩ := cut_len 63 r
  obtain ⟨d1, d2⟩ := cut_len 58 (auU r)
  unfold rdK
  rw [k1, c1, c2, d1, d2]
  have hz : ((uptS 63 r).extract (auU r).size (uptS 63 r).size).size = (uptS 63 r).size - (auU r).size := by rw [ByteArray.size_extract]; omega
  have e1 : clnB (if ((uptS 63 r).extract (auU r).size (uptS 63 r).size).size = 0 then rootB else (uptS 63 r).extract (auU r).size (uptS 63 r).size) = if (auU r).size < (uptS 63 r).size then clnB ((uptS 63 r).extract (auU r).size (uptS 63 r).size) else rootB := by
    by_cases h : (auU r).size < (uptS 63 r).size
    · rw [if_pos h, if_neg (show ¬ ((uptS 63 r).extract (auU r).size (uptS 63 r).size).size = 0 by omega)]
    · rw [if_neg h, if_pos (show ((uptS 63 r).extract (auU r).size (uptS 63 r).size).size = 0 by omega), cln_root]
  have e2 : (if decide ((uptS 58 (auU r)).size < (auU r).size) = true then rdecN (if (uptS 58 (auU r)).size < (auU r).size then (auU r).extract ((uptS 58 (auU r)).size + 1) (auU r).size else ⟨#[]⟩) else 80) = if (uptS 58 (auU r)).size < (auU r).size then rdecN ((auU r).extract ((uptS 58 (auU r)).size + 1) (auU r).size) else 80 := by
    by_cases h : (uptS 58 (auU r)).size < (auU r).size
    · rw [decide_eq_true h, if_pos rfl, if_pos h, if_pos h]
    · rw [decide_eq_false h, if_neg (by simp), if_neg h]
  rw [e1, e2]
theorem rdO_short {s : ByteArray} (h : s.size < 8) : rdO s = false := by
  unfold rdO
  cases hp : rdA s
  · rfl
  · have hr : s.extract 7 s.size = ⟨#[]⟩ := size_nil (by rw [ByteArray.size_extract]; omega)
    rw [hr, Bool.true_and]
    have hau : auU ⟨#[]⟩ = ⟨#[]⟩ := auU_none (fun j hj => absurd hj (Nat.not_lt_zero j))
    have hho : uptS 58 ⟨#[]⟩ = ⟨#[]⟩ := uptS_none (idxS_miss (fun j hj => absurd hj (Nat.not_lt_zero j)))
    unfold urQ urlQ
    have e : (rdK ⟨#[]⟩).ho = ⟨#[]⟩ := by
      show foldB (uptS 58 (auU ⟨#[]⟩)) = _
      rw [hau, hho]; rfl
    rw [e, hostQ_empty rfl]
    rfl
theorem rdU_no {s : ByteArray} (h : rdO s = false) : rdU s = ur0 := by unfold rdU; rw [h]; rfl
theorem urQ_port {u : Ur} (h : u.po = 0) : urQ u = false := by
  unfold urQ urlQ withinB
  rw [h]
  simp
theorem eqB_upt35 (s : ByteArray) : ((uptS 35 s).toList == s.toList) = decide (idxS 35 s < 0) := eqB_upt s
theorem sch_eq {x : ByteArray} : (x.toList == [104, 116, 116, 112, 58, 47, 47]) = eqB x schB := by
  unfold eqB; rw [ByteArray.toList_eq schB]; rfl
set_option maxRecDepth 100000 in
set_option maxHeartbeats 8000000 in
theorem sReadUrl_any (s : ByteArray) (w : World) (hs : s.size ≤ 1048576) :
    Calls Tryz.prog 23 #[.string s] w fun e w' => e = .returned (.tuple #[valU (rdU s), .bool (rdO s)]) ∧ Below w.heap.size w w' := by
  have HB := hideB2 (below_a1 w (.cells #[.string ⟨#[]⟩, .int .i64 0, .string ⟨#[]⟩, .string ⟨#[]⟩, .bool false] 38))
  have A0 := hideB2 (Blk.new w #[.string ⟨#[]⟩, .int .i64 0, .string ⟨#[]⟩, .string ⟨#[]⟩, .bool false] 38)
  have H1 := hideB2 (fun W => l6visible_any s W (by unfold maxLen; omega))
  have H2 := hideB2 (fun W => l6uptoS_any s 35 W (by unfold maxLen; omega))
  change Hid (∀ W, Calls _ _ #[_, .int .u8 35] W _) at H2
  by_cases hbig : (200 : Int) < (s.size : Int)
  · have e1 : rdO s = false := by unfold rdO rdA; rw [show targQ s = false by cases ht : targQ s with | false => rfl | true => have := (targQ_iff.1 ht).2.1; omega]; rfl
    have d1 := decide_eq_true hbig
    rw [rdU_no e1, e1]
    clear e1
    go_enter Tryz.func23, Tryz.ntmps23
    go_wp2
    refine bodyPost_ret (results_cellT rfl _ _ _ rfl (Blk.new w _ _) Tryz.underlying38 Tryz.infoUrl) rfl ⟨rfl, HB.out⟩
  · have d1 := decide_eq_false hbig
    by_cases h8 : (s.size : Int) < 8
    · have e1 := rdO_short (s := s) (by omega)
      have d2 := decide_eq_true h8
      rw [rdU_no e1, e1]
      clear e1
      go_enter Tryz.func23, Tryz.ntmps23
      go_wp2
      refine bodyPost_ret (results_cellT rfl _ _ _ rfl (Blk.new w _ _) Tryz.underlying38 Tryz.infoUrl) rfl ⟨rfl, HB.out⟩
    · have d2 := decide_eq_false h8
      cases hv : (decide (0 < (s.size : Int)) && allB vis8 s)
      · have e1 : rdO s = false := by unfold rdO rdA; rw [vis_no hv]; rfl
        rw [rdU_no e1, e1]
        rw [hv] at H1
        clear e1 hv
        go_enter Tryz.func23, Tryz.ntmps23
        go_wp2_with (go_at_call 57; refine (H1.out _).mono ?_; rintro e w' ⟨rfl, rfl⟩)
        refine bodyPost_ret (results_cellT rfl _ _ _ rfl (Blk.new w _ _) Tryz.underlying38 Tryz.infoUrl) rfl ⟨rfl, HB.out⟩
      · rw [hv] at H1
        have hq := vis_size hv (by omega)
        have hu := eqB_upt35 s
        cases h35 : decide (idxS 35 s < 0)
        · have e1 : rdO s = false := by unfold rdO rdA; rw [h35]; simp
          rw [rdU_no e1, e1]
          rw [h35] at hu
          clear e1 hv h35 hq
          generalize uptS 35 s = us at *
          go_enter Tryz.func23, Tryz.ntmps23
          go_wp2_with (first | (go_at_call 57; refine (H1.out _).mono ?_; rintro e w' ⟨rfl, rfl⟩) | (go_at_call 60; refine (H2.out _).mono ?_; rintro e w' ⟨rfl, rfl⟩))
          refine bodyPost_ret (results_cellT rfl _ _ _ rfl (Blk.new w _ _) Tryz.underlying38 Tryz.infoUrl) rfl ⟨rfl, HB.out⟩
        · rw [h35] at hu
          have c7 : (7 : Int) ≤ (s.size : Int) := by omega
          have h7 : 7 ≤ s.size := by omega
          have HZ7 : (s.extract 0 7).size ≤ maxLen := by rw [ByteArray.size_extract]; unfold maxLen; omega
          have H3 := hideB2 (fun W => sFold_any (s.extract 0 7) W HZ7)
          have hp7 : ((foldB (s.extract 0 7)).toList == [104, 116, 116, 112, 58, 47, 47]) = pre7 s := by rw [sch_eq]; unfold pre7; rw [decide_eq_true h7, Bool.true_and]
          clear HZ7
          cases hpre : pre7 s
          · have e1 : rdO s = false := by unfold rdO rdA; rw [hpre]; simp
            rw [rdU_no e1, e1]
            rw [hpre] at hp7
            clear e1 hv h35 hq hpre
            generalize uptS 35 s = us at *
            generalize h7x : s.extract 0 7 = x7 at *
            generalize foldB x7 = f7 at *
            go_enter Tryz.func23, Tryz.ntmps23
            go_wp2_with (first | (go_at_call 57; refine (H1.out _).mono ?_; rintro e w' ⟨rfl, rfl⟩) | (go_at_call 60; refine (H2.out _).mono ?_; rintro e w' ⟨rfl, rfl⟩) | (go_at_call 34; (try rw [h7x]); refine (H3.out _).mono ?_; rintro e w1 ⟨rfl, hb1⟩; have A1 := hideB2 (A0.out.later hb1); have HB1 := hideB2 (below_then HB.out hb1); obtain ⟨a0, a1, a2, a3, a4⟩ := A1.out.u5; obtain ⟨g0, g1, g2, g3, g4⟩ := A1.out.f5U))
            refine bodyPost_ret (results_cellT rfl _ _ _ rfl (A1.out.set5U _ _ _ _ _) Tryz.underlying38 Tryz.infoUrl) rfl ⟨rfl, ?_⟩
            exact below_set5 HB1.out (Nat.le_refl _) _ _ _ _ _
          · obtain ⟨e1, e2⟩ := rdA_yes (s := s) (by unfold rdA; rw [hq, hpre, h35]; rfl)
            generalize hU : rdU s = U at *
            generalize hO : rdO s = O at *
            have hrz : (s.extract 7 s.size).size = s.size - 7 := by rw [ByteArray.size_extract]; omega
            have HKS0 := rdK_spec (s.extract 7 s.size)
            rw [hpre] at hp7
            have HO0 := hideB2 (And.intro e1 e2)
            clear hU hO e1 e2 hv h35 hq hpre
            generalize uptS 35 s = us at *
            generalize h7x : s.extract 0 7 = x7 at *
            generalize foldB x7 = f7 at *
            generalize hrr : s.extract 7 s.size = r at *
            generalize rdK r = KK at *
            have H4 := hideB2 (fun W => l6uptoS_any r 63 W (by unfold maxLen; omega))
            change Hid (∀ W, Calls _ _ #[_, .int .u8 63] W _) at H4
            have zf := uptS_size 63 r
            unfold auU at HKS0
            generalize uptS 63 r = fr at *
            have H5 := hideB2 (fun W => l6uptoS_any fr 47 W (by unfold maxLen; omega))
            change Hid (∀ W, Calls _ _ #[_, .int .u8 47] W _) at H5
            have za := uptS_size 47 fr
            generalize uptS 47 fr = au at *
            have H6 := hideB2 (fun W => l6uptoS_any au 58 W (by unfold maxLen; omega))
            change Hid (∀ W, Calls _ _ #[_, .int .u8 58] W _) at H6
            have zh := uptS_size 58 au
            generalize uptS 58 au = ho at *
            have H7 := hideB2 (fun W => sFold_any ho W (by unfold maxLen; omega))
            have hfz := foldB_size ho
            generalize foldB ho = fo at *
            have zp : (au.extract (ho.size + 1) au.size).size ≤ au.size := by rw [ByteArray.size_extract]; omega
            have zq : (r.extract (fr.size + 1) r.size).size ≤ r.size := by rw [ByteArray.size_extract]; omega
            have zt : (fr.extract au.size fr.size).size ≤ fr.size := by rw [ByteArray.size_extract]; omega
            generalize hpo : au.extract (ho.size + 1) au.size = p at *
            generalize hqq : r.extract (fr.size + 1) r.size = q at *
            generalize hpp : fr.extract au.size fr.size = pt at *
            have HKS := hideB2 HKS0
            have HRD0 := hideB2 (fun W => sReadDec_any p W (by unfold maxLen; omega))
            have HCP := hideB2 (fun W => sCleanPath_any pt W (by unfold maxLen; omega))
            clear HKS0
            have w1n : IntKind.i64.wrap ((ho.size : Int) + 1) = (ho.size : Int) + 1 := by rw [IntKind.wrap_i64]; omega
            have w2n : IntKind.i64.wrap ((fr.size : Int) + 1) = (fr.size : Int) + 1 := by rw [IntKind.wrap_i64]; omega
            have b1 : (0 : Int) ≤ (ho.size : Int) + 1 := by omega
            have b2 : (0 : Int) ≤ (fr.size : Int) + 1 := by omega
            have b3 : (0 : Int) ≤ (au.size : Int) := by omega
            have b4 : (au.size : Int) ≤ (fr.size : Int) := by omega
            have hr9 : r.size ≤ 1048576 := by omega
            clear hrz
            go_enter Tryz.func23, Tryz.ntmps23
            go_wp2_with fail
            refine (H1.out _).mono ?_
            rintro e wx ⟨rfl, rfl⟩
            go_wp2_with fail
            refine (H2.out _).mono ?_
            rintro e wy ⟨rfl, rfl⟩
            go_wp2_with fail
            (try rw [h7x])
            refine (H3.out _).mono ?_
            rintro e w1 ⟨rfl, hb1⟩
            go_wp2_with fail
            (try rw [hrr])
            refine (H4.out _).mono ?_
            rintro e wa ⟨rfl, rfl⟩
            go_wp2_with fail
            refine (H5.out _).mono ?_
            rintro e wb ⟨rfl, rfl⟩
            go_wp2_with fail
            refine (H6.out _).mono ?_
            rintro e wc ⟨rfl, rfl⟩
            go_wp2_with fail
            refine (H7.out _).mono ?_
            rintro e w2 ⟨rfl, hb2⟩
            have A2 := hideB2 ((A0.out.later hb1).later hb2)
            have HB2 := hideB2 (below_then (below_then HB.out hb1) hb2)
            have hlt := A2.out.lt
            clear hb1 hb2 HB A0 H1 H2 H3 H4 H5 H6 H7
            have hne : w2.heap.size ≠ w.heap.size := by omega
            have hge : w.heap.size ≤ w2.heap.size := by omega
            by_cases htold : ho.size < au.size
            · have htold1 : (ho.size : Int) < (au.size : Int) := by omega
              have b5 : (ho.size : Int) + 1 ≤ (au.size : Int) := by omega
              cases hok : rdecOk p
              · have hn0 : rdecN p = 0 := by
                  unfold rdecOk at hok
                  unfold rdecN
                  cases hr : rdec p with
                  | none => rfl
                  | some x => rw [hr] at hok; cases hok
                have HRD := HRD0
                rw [hok] at HRD
                have HUO2 := hideB2 (show O = false ∧ U = ur0 by
                  obtain ⟨h1, h2⟩ := HO0.out
                  have : urQ KK = false := urQ_port (by rw [HKS.out]; simp only []; rw [if_pos htold, hn0])
                  rw [this] at h1 h2
                  exact ⟨h1, h2⟩)
                clear hok hn0 HRD0
                generalize rdecN p = n at *
                go_wp2_with fail
                (try rw [hpo])
                refine (HRD.out _).mono ?_
                rintro e w3 ⟨rfl, hb3⟩
                have A3 := hideB2 ((A2.out.alloc (.cells #[.string fo, .int .i64 80, .string ⟨#[47]⟩, .string ⟨#[]⟩, .bool false] 38)).later hb3)
                have HB3 := hideB2 (below_then (below_then HB2.out (below_a1 w2 (.cells #[.string fo, .int .i64 80, .string ⟨#[47]⟩, .string ⟨#[]⟩, .bool false] 38))) hb3)
                clear hb3
                obtain ⟨a0, a1, a2, a3, a4⟩ := A3.out.u5
                obtain ⟨g0, g1, g2, g3, g4⟩ := A3.out.f5U
                have HF := hideB2 (show Ending.returned (.tuple #[.agg #[.string ⟨#[]⟩, .int .i64 0, .string ⟨#[]⟩, .string ⟨#[]⟩, .bool false], .bool false]) = .returned (.tuple #[valU U, .bool O]) by obtain ⟨h1, h2⟩ := HUO2.out; rw [h1, h2]; rfl)
                go_wp2
                refine bodyPost_ret (results_cellT rfl _ _ _ rfl (A3.out.set5U _ _ _ _ _) Tryz.underlying38 Tryz.infoUrl) rfl ⟨?_, ?_⟩
                · exact HF.out
                exact below_set5 HB3.out (Nat.le_refl _) _ _ _ _ _
              · have HRD := HRD0
                rw [hok] at HRD
                clear hok HRD0
                by_cases hpath : au.size < fr.size
                · have hpath1 : (au.size : Int) < (fr.size : Int) := by omega
                  by_cases hquery : fr.size < r.size
                  · have hquery1 : (fr.size : Int) < (r.size : Int) := by omega
                    have HK := hideB2 (show KK = ⟨fo, clnB pt, q, rdecN p, true⟩ by rw [HKS.out, if_pos hpath, if_pos hquery, if_pos htold, decide_eq_true hquery])
                    have HUO := hideB2 (fun W => sUrlOk_any fo (clnB pt) q (rdecN p) true W (by omega) (by have := clnB_size pt; omega) (by omega))
                    have HUO2 := hideB2 (show O = urQ KK ∧ U = if urQ KK = true then KK else ur0 from HO0.out)
                    change Hid (∀ W, Calls _ _ _ W fun e w' => e = .returned (.bool (urQ ⟨fo, clnB pt, q, rdecN p, true⟩)) ∧ Below W.heap.size W w') at HUO
                    rw [← HK.out] at HUO
                    generalize urQ KK = okv at *
                    generalize hcp : clnB pt = cp at *
                    clear hcp
                    generalize hnn : rdecN p = n at *
                    clear hnn
                    go_wp2_with fail
                    (try rw [hpo])
                    refine (HRD.out _).mono ?_
                    rintro e w3 ⟨rfl, hb3⟩
                    have B3 := hideB2 ((Blk.new w2 #[.string fo, .int .i64 80, .string ⟨#[47]⟩, .string ⟨#[]⟩, .bool false] 38).later hb3)
                    have A3 := hideB2 ((A2.out.alloc (.cells #[.string fo, .int .i64 80, .string ⟨#[47]⟩, .string ⟨#[]⟩, .bool false] 38)).later hb3)
                    have HB3 := hideB2 (below_then (below_then HB2.out (below_a1 w2 (.cells #[.string fo, .int .i64 80, .string ⟨#[47]⟩, .string ⟨#[]⟩, .bool false] 38))) hb3)
                    clear hb3
                    obtain ⟨p0, p1, p2, p3, p4⟩ := B3.out.u5
                    obtain ⟨f0, f1, f2, f3, f4⟩ := B3.out.f5U
                    go_wp2_with (first | (go_at_call 61; fail) | fail)
                    (try rw [hpp])
                    refine (HCP.out _).mono ?_
                    rintro e w4 ⟨rfl, hb4⟩
                    have B4 : Hid (Blk w4 w2.heap.size #[.string fo, .int .i64 n, .string ⟨#[47]⟩, .string ⟨#[]⟩, .bool false] 38) := hideB2 ((B3.out.set 1 _).later hb4)
                    have A4 : Hid (Blk w4 w.heap.size #[.string ⟨#[]⟩, .int .i64 0, .string ⟨#[]⟩, .string ⟨#[]⟩, .bool false] 38) := hideB2 ((A3.out.other hne 1 _).later hb4)
                    have HB4 := hideB2 (below_then (HB3.out.setCell (p := ⟨w2.heap.size, 1, none⟩) hge _) hb4)
                    clear p0 p1 p2 p3 p4 f0 f1 f2 f3 f4 B3 A3 HB3
                    clear hb4
                    obtain ⟨p0, p1, p2, p3, p4⟩ := B4.out.u5
                    obtain ⟨f0, f1, f2, f3, f4⟩ := B4.out.f5U
                    go_wp2_with fail
                    (try rw [hqq])
                    refine (HUO.out _).mono ?_
                    rintro e w5 ⟨rfl, hb5⟩
                    have B5 : Hid (Blk w5 w2.heap.size #[.string fo, .int .i64 n, .string cp, .string q, .bool true] 38) := hideB2 ((((B4.out.set 2 _).set 4 _).set 3 _).later hb5)
                    have A5 : Hid (Blk w5 w.heap.size #[.string ⟨#[]⟩, .int .i64 0, .string ⟨#[]⟩, .string ⟨#[]⟩, .bool false] 38) := hideB2 ((((A4.out.other hne 2 _).other hne 4 _).other hne 3 _).later hb5)
                    have HB5 := hideB2 (below_then (((HB4.out.setCell (p := ⟨w2.heap.size, 2, none⟩) hge _).setCell (p := ⟨w2.heap.size, 4, none⟩) hge _).setCell (p := ⟨w2.heap.size, 3, none⟩) hge _) hb5)
                    clear p0 p1 p2 p3 p4 f0 f1 f2 f3 f4 B4 A4 HB4
                    clear hb5
                    obtain ⟨p0, p1, p2, p3, p4⟩ := B5.out.u5
                    obtain ⟨a0, a1, a2, a3, a4⟩ := A5.out.u5
                    obtain ⟨g0, g1, g2, g3, g4⟩ := A5.out.f5U
                    clear B5 HUO
                    cases okv
                    · have HF := hideB2 (show Ending.returned (.tuple #[.agg #[.string ⟨#[]⟩, .int .i64 0, .string ⟨#[]⟩, .string ⟨#[]⟩, .bool false], .bool false]) = .returned (.tuple #[valU U, .bool O]) by obtain ⟨h1, h2⟩ := HUO2.out; rw [h1, h2]; rfl)
                      go_wp2
                      refine bodyPost_ret (results_cellT rfl _ _ _ rfl (A5.out.set5U _ _ _ _ _) Tryz.underlying38 Tryz.infoUrl) rfl ⟨?_, ?_⟩
                      · exact HF.out
                      exact below_set5 HB5.out (Nat.le_refl _) _ _ _ _ _
                    · have HF := hideB2 (show Ending.returned (.tuple #[.agg #[.string fo, .int .i64 n, .string cp, .string q, .bool true], .bool true]) = .returned (.tuple #[valU U, .bool O]) by obtain ⟨h1, h2⟩ := HUO2.out; rw [h1, h2, HK.out]; rfl)
                      go_wp2
                      refine bodyPost_ret (results_cellT rfl _ _ _ rfl (A5.out.set5U _ _ _ _ _) Tryz.underlying38 Tryz.infoUrl) rfl ⟨?_, ?_⟩
                      · exact HF.out
                      exact below_set5 HB5.out (Nat.le_refl _) _ _ _ _ _
                  · have hquery1 : ¬ (fr.size : Int) < (r.size : Int) := by omega
                    have HK := hideB2 (show KK = ⟨fo, clnB pt, ⟨#[]⟩, rdecN p, false⟩ by rw [HKS.out, if_pos hpath, if_neg hquery, if_pos htold, decide_eq_false hquery])
                    have HUO := hideB2 (fun W => sUrlOk_any fo (clnB pt) ⟨#[]⟩ (rdecN p) false W (by omega) (by have := clnB_size pt; omega) (by decide))
                    have HUO2 := hideB2 (show O = urQ KK ∧ U = if urQ KK = true then KK else ur0 from HO0.out)
                    change Hid (∀ W, Calls _ _ _ W fun e w' => e = .returned (.bool (urQ ⟨fo, clnB pt, ⟨#[]⟩, rdecN p, false⟩)) ∧ Below W.heap.size W w') at HUO
                    rw [← HK.out] at HUO
                    generalize urQ KK = okv at *
                    generalize hcp : clnB pt = cp at *
                    clear hcp
                    generalize hnn : rdecN p = n at *
                    clear hnn
                    go_wp2_with fail
                    (try rw [hpo])
                    refine (HRD.out _).mono ?_
                    rintro e w3 ⟨rfl, hb3⟩
                    have B3 := hideB2 ((Blk.new w2 #[.string fo, .int .i64 80, .string ⟨#[47]⟩, .string ⟨#[]⟩, .bool false] 38).later hb3)
                    have A3 := hideB2 ((A2.out.alloc (.cells #[.string fo, .int .i64 80, .string ⟨#[47]⟩, .string ⟨#[]⟩, .bool false] 38)).later hb3)
                    have HB3 := hideB2 (below_then (below_then HB2.out (below_a1 w2 (.cells #[.string fo, .int .i64 80, .string ⟨#[47]⟩, .string ⟨#[]⟩, .bool false] 38))) hb3)
                    clear hb3
                    obtain ⟨p0, p1, p2, p3, p4⟩ := B3.out.u5
                    obtain ⟨f0, f1, f2, f3, f4⟩ := B3.out.f5U
                    go_wp2_with (first | (go_at_call 61; fail) | fail)
                    (try rw [hpp])
                    refine (HCP.out _).mono ?_
                    rintro e w4 ⟨rfl, hb4⟩
                    have B4 : Hid (Blk w4 w2.heap.size #[.string fo, .int .i64 n, .string ⟨#[47]⟩, .string ⟨#[]⟩, .bool false] 38) := hideB2 ((B3.out.set 1 _).later hb4)
                    have A4 : Hid (Blk w4 w.heap.size #[.string ⟨#[]⟩, .int .i64 0, .string ⟨#[]⟩, .string ⟨#[]⟩, .bool false] 38) := hideB2 ((A3.out.other hne 1 _).later hb4)
                    have HB4 := hideB2 (below_then (HB3.out.setCell (p := ⟨w2.heap.size, 1, none⟩) hge _) hb4)
                    clear p0 p1 p2 p3 p4 f0 f1 f2 f3 f4 B3 A3 HB3
                    clear hb4
                    obtain ⟨p0, p1, p2, p3, p4⟩ := B4.out.u5
                    obtain ⟨f0, f1, f2, f3, f4⟩ := B4.out.f5U
                    go_wp2_with fail
                    (try rw [hqq])
                    refine (HUO.out _).mono ?_
                    rintro e w5 ⟨rfl, hb5⟩
                    have B5 : Hid (Blk w5 w2.heap.size #[.string fo, .int .i64 n, .string cp, .string ⟨#[]⟩, .bool false] 38) := hideB2 ((B4.out.set 2 _).later hb5)
                    have A5 : Hid (Blk w5 w.heap.size #[.string ⟨#[]⟩, .int .i64 0, .string ⟨#[]⟩, .string ⟨#[]⟩, .bool false] 38) := hideB2 ((A4.out.other hne 2 _).later hb5)
                    have HB5 := hideB2 (below_then (HB4.out.setCell (p := ⟨w2.heap.size, 2, none⟩) hge _) hb5)
                    clear p0 p1 p2 p3 p4 f0 f1 f2 f3 f4 B4 A4 HB4
                    clear hb5
                    obtain ⟨p0, p1, p2, p3, p4⟩ := B5.out.u5
                    obtain ⟨a0, a1, a2, a3, a4⟩ := A5.out.u5
                    obtain ⟨g0, g1, g2, g3, g4⟩ := A5.out.f5U
                    clear B5 HUO
                    cases okv
                    · have HF := hideB2 (show Ending.returned (.tuple #[.agg #[.string ⟨#[]⟩, .int .i64 0, .string ⟨#[]⟩, .string ⟨#[]⟩, .bool false], .bool false]) = .returned (.tuple #[valU U, .bool O]) by obtain ⟨h1, h2⟩ := HUO2.out; rw [h1, h2]; rfl)
                      go_wp2
                      refine bodyPost_ret (results_cellT rfl _ _ _ rfl (A5.out.set5U _ _ _ _ _) Tryz.underlying38 Tryz.infoUrl) rfl ⟨?_, ?_⟩
                      · exact HF.out
                      exact below_set5 HB5.out (Nat.le_refl _) _ _ _ _ _
                    · have HF := hideB2 (show Ending.returned (.tuple #[.agg #[.string fo, .int .i64 n, .string cp, .string ⟨#[]⟩, .bool false], .bool true]) = .returned (.tuple #[valU U, .bool O]) by obtain ⟨h1, h2⟩ := HUO2.out; rw [h1, h2, HK.out]; rfl)
                      go_wp2
                      refine bodyPost_ret (results_cellT rfl _ _ _ rfl (A5.out.set5U _ _ _ _ _) Tryz.underlying38 Tryz.infoUrl) rfl ⟨?_, ?_⟩
                      · exact HF.out
                      exact below_set5 HB5.out (Nat.le_refl _) _ _ _ _ _
                · have hpath1 : ¬ (au.size : Int) < (fr.size : Int) := by omega
                  by_cases hquery : fr.size < r.size
                  · have hquery1 : (fr.size : Int) < (r.size : Int) := by omega
                    have HK := hideB2 (show KK = ⟨fo, rootB, q, rdecN p, true⟩ by rw [HKS.out, if_neg hpath, if_pos hquery, if_pos htold, decide_eq_true hquery])
                    have HUO := hideB2 (fun W => sUrlOk_any fo ⟨#[47]⟩ q (rdecN p) true W (by omega) (by decide) (by omega))
                    have HUO2 := hideB2 (show O = urQ KK ∧ U = if urQ KK = true then KK else ur0 from HO0.out)
                    change Hid (∀ W, Calls _ _ _ W fun e w' => e = .returned (.bool (urQ ⟨fo, rootB, q, rdecN p, true⟩)) ∧ Below W.heap.size W w') at HUO
                    rw [← HK.out] at HUO
                    generalize urQ KK = okv at *
                    generalize hnn : rdecN p = n at *
                    clear hnn
                    go_wp2_with fail
                    (try rw [hpo])
                    refine (HRD.out _).mono ?_
                    rintro e w3 ⟨rfl, hb3⟩
                    have B3 := hideB2 ((Blk.new w2 #[.string fo, .int .i64 80, .string ⟨#[47]⟩, .string ⟨#[]⟩, .bool false] 38).later hb3)
                    have A3 := hideB2 ((A2.out.alloc (.cells #[.string fo, .int .i64 80, .string ⟨#[47]⟩, .string ⟨#[]⟩, .bool false] 38)).later hb3)
                    have HB3 := hideB2 (below_then (below_then HB2.out (below_a1 w2 (.cells #[.string fo, .int .i64 80, .string ⟨#[47]⟩, .string ⟨#[]⟩, .bool false] 38))) hb3)
                    clear hb3
                    obtain ⟨p0, p1, p2, p3, p4⟩ := B3.out.u5
                    obtain ⟨f0, f1, f2, f3, f4⟩ := B3.out.f5U
                    go_wp2_with fail
                    (try rw [hqq])
                    refine (HUO.out _).mono ?_
                    rintro e w5 ⟨rfl, hb5⟩
                    have B5 : Hid (Blk w5 w2.heap.size #[.string fo, .int .i64 n, .string ⟨#[47]⟩, .string q, .bool true] 38) := hideB2 ((((B3.out.set 1 _).set 4 _).set 3 _).later hb5)
                    have A5 : Hid (Blk w5 w.heap.size #[.string ⟨#[]⟩, .int .i64 0, .string ⟨#[]⟩, .string ⟨#[]⟩, .bool false] 38) := hideB2 ((((A3.out.other hne 1 _).other hne 4 _).other hne 3 _).later hb5)
                    have HB5 := hideB2 (below_then (((HB3.out.setCell (p := ⟨w2.heap.size, 1, none⟩) hge _).setCell (p := ⟨w2.heap.size, 4, none⟩) hge _).setCell (p := ⟨w2.heap.size, 3, none⟩) hge _) hb5)
                    clear p0 p1 p2 p3 p4 f0 f1 f2 f3 f4 B3 A3 HB3
                    clear hb5
                    obtain ⟨p0, p1, p2, p3, p4⟩ := B5.out.u5
                    obtain ⟨a0, a1, a2, a3, a4⟩ := A5.out.u5
                    obtain ⟨g0, g1, g2, g3, g4⟩ := A5.out.f5U
                    clear B5 HUO
                    cases okv
                    · have HF := hideB2 (show Ending.returned (.tuple #[.agg #[.string ⟨#[]⟩, .int .i64 0, .string ⟨#[]⟩, .string ⟨#[]⟩, .bool false], .bool false]) = .returned (.tuple #[valU U, .bool O]) by obtain ⟨h1, h2⟩ := HUO2.out; rw [h1, h2]; rfl)
                      go_wp2
                      refine bodyPost_ret (results_cellT rfl _ _ _ rfl (A5.out.set5U _ _ _ _ _) Tryz.underlying38 Tryz.infoUrl) rfl ⟨?_, ?_⟩
                      · exact HF.out
                      exact below_set5 HB5.out (Nat.le_refl _) _ _ _ _ _
                    · have HF := hideB2 (show Ending.returned (.tuple #[.agg #[.string fo, .int .i64 n, .string ⟨#[47]⟩, .string q, .bool true], .bool true]) = .returned (.tuple #[valU U, .bool O]) by obtain ⟨h1, h2⟩ := HUO2.out; rw [h1, h2, HK.out]; rfl)
                      go_wp2
                      refine bodyPost_ret (results_cellT rfl _ _ _ rfl (A5.out.set5U _ _ _ _ _) Tryz.underlying38 Tryz.infoUrl) rfl ⟨?_, ?_⟩
                      · exact HF.out
                      exact below_set5 HB5.out (Nat.le_refl _) _ _ _ _ _
                  · have hquery1 : ¬ (fr.size : Int) < (r.size : Int) := by omega
                    have HK := hideB2 (show KK = ⟨fo, rootB, ⟨#[]⟩, rdecN p, false⟩ by rw [HKS.out, if_neg hpath, if_neg hquery, if_pos htold, decide_eq_false hquery])
                    have HUO := hideB2 (fun W => sUrlOk_any fo ⟨#[47]⟩ ⟨#[]⟩ (rdecN p) false W (by omega) (by decide) (by decide))
                    have HUO2 := hideB2 (show O = urQ KK ∧ U = if urQ KK = true then KK else ur0 from HO0.out)
                    change Hid (∀ W, Calls _ _ _ W fun e w' => e = .returned (.bool (urQ ⟨fo, rootB, ⟨#[]⟩, rdecN p, false⟩)) ∧ Below W.heap.size W w') at HUO
                    rw [← HK.out] at HUO
                    generalize urQ KK = okv at *
                    generalize hnn : rdecN p = n at *
                    clear hnn
                    go_wp2_with fail
                    (try rw [hpo])
                    refine (HRD.out _).mono ?_
                    rintro e w3 ⟨rfl, hb3⟩
                    have B3 := hideB2 ((Blk.new w2 #[.string fo, .int .i64 80, .string ⟨#[47]⟩, .string ⟨#[]⟩, .bool false] 38).later hb3)
                    have A3 := hideB2 ((A2.out.alloc (.cells #[.string fo, .int .i64 80, .string ⟨#[47]⟩, .string ⟨#[]⟩, .bool false] 38)).later hb3)
                    have HB3 := hideB2 (below_then (below_then HB2.out (below_a1 w2 (.cells #[.string fo, .int .i64 80, .string ⟨#[47]⟩, .string ⟨#[]⟩, .bool false] 38))) hb3)
                    clear hb3
                    obtain ⟨p0, p1, p2, p3, p4⟩ := B3.out.u5
                    obtain ⟨f0, f1, f2, f3, f4⟩ := B3.out.f5U
                    go_wp2_with fail
                    (try rw [hqq])
                    refine (HUO.out _).mono ?_
                    rintro e w5 ⟨rfl, hb5⟩
                    have B5 : Hid (Blk w5 w2.heap.size #[.string fo, .int .i64 n, .string ⟨#[47]⟩, .string ⟨#[]⟩, .bool false] 38) := hideB2 ((B3.out.set 1 _).later hb5)
                    have A5 : Hid (Blk w5 w.heap.size #[.string ⟨#[]⟩, .int .i64 0, .string ⟨#[]⟩, .string ⟨#[]⟩, .bool false] 38) := hideB2 ((A3.out.other hne 1 _).later hb5)
                    have HB5 := hideB2 (below_then (HB3.out.setCell (p := ⟨w2.heap.size, 1, none⟩) hge _) hb5)
                    clear p0 p1 p2 p3 p4 f0 f1 f2 f3 f4 B3 A3 HB3
                    clear hb5
                    obtain ⟨p0, p1, p2, p3, p4⟩ := B5.out.u5
                    obtain ⟨a0, a1, a2, a3, a4⟩ := A5.out.u5
                    obtain ⟨g0, g1, g2, g3, g4⟩ := A5.out.f5U
                    clear B5 HUO
                    cases okv
                    · have HF := hideB2 (show Ending.returned (.tuple #[.agg #[.string ⟨#[]⟩, .int .i64 0, .string ⟨#[]⟩, .string ⟨#[]⟩, .bool false], .bool false]) = .returned (.tuple #[valU U, .bool O]) by obtain ⟨h1, h2⟩ := HUO2.out; rw [h1, h2]; rfl)
                      go_wp2
                      refine bodyPost_ret (results_cellT rfl _ _ _ rfl (A5.out.set5U _ _ _ _ _) Tryz.underlying38 Tryz.infoUrl) rfl ⟨?_, ?_⟩
                      · exact HF.out
                      exact below_set5 HB5.out (Nat.le_refl _) _ _ _ _ _
                    · have HF := hideB2 (show Ending.returned (.tuple #[.agg #[.string fo, .int .i64 n, .string ⟨#[47]⟩, .string ⟨#[]⟩, .bool false], .bool true]) = .returned (.tuple #[valU U, .bool O]) by obtain ⟨h1, h2⟩ := HUO2.out; rw [h1, h2, HK.out]; rfl)
                      go_wp2
                      refine bodyPost_ret (results_cellT rfl _ _ _ rfl (A5.out.set5U _ _ _ _ _) Tryz.underlying38 Tryz.infoUrl) rfl ⟨?_, ?_⟩
                      · exact HF.out
                      exact below_set5 HB5.out (Nat.le_refl _) _ _ _ _ _
            · have htold1 : ¬ (ho.size : Int) < (au.size : Int) := by omega
              by_cases hpath : au.size < fr.size
              · have hpath1 : (au.size : Int) < (fr.size : Int) := by omega
                by_cases hquery : fr.size < r.size
                · have hquery1 : (fr.size : Int) < (r.size : Int) := by omega
                  have HK := hideB2 (show KK = ⟨fo, clnB pt, q, 80, true⟩ by rw [HKS.out, if_pos hpath, if_pos hquery, if_neg htold, decide_eq_true hquery])
                  have HUO := hideB2 (fun W => sUrlOk_any fo (clnB pt) q (80) true W (by omega) (by have := clnB_size pt; omega) (by omega))
                  have HUO2 := hideB2 (show O = urQ KK ∧ U = if urQ KK = true then KK else ur0 from HO0.out)
                  change Hid (∀ W, Calls _ _ _ W fun e w' => e = .returned (.bool (urQ ⟨fo, clnB pt, q, 80, true⟩)) ∧ Below W.heap.size W w') at HUO
                  rw [← HK.out] at HUO
                  generalize urQ KK = okv at *
                  generalize hcp : clnB pt = cp at *
                  clear hcp
                  go_wp2_with (first | (go_at_call 61; fail) | fail)
                  (try rw [hpp])
                  refine (HCP.out _).mono ?_
                  rintro e w4 ⟨rfl, hb4⟩
                  have B4 := hideB2 ((Blk.new w2 #[.string fo, .int .i64 80, .string ⟨#[47]⟩, .string ⟨#[]⟩, .bool false] 38).later hb4)
                  have A4 := hideB2 ((A2.out.alloc (.cells #[.string fo, .int .i64 80, .string ⟨#[47]⟩, .string ⟨#[]⟩, .bool false] 38)).later hb4)
                  have HB4 := hideB2 (below_then (below_then HB2.out (below_a1 w2 (.cells #[.string fo, .int .i64 80, .string ⟨#[47]⟩, .string ⟨#[]⟩, .bool false] 38))) hb4)
                  clear hb4
                  obtain ⟨p0, p1, p2, p3, p4⟩ := B4.out.u5
                  obtain ⟨f0, f1, f2, f3, f4⟩ := B4.out.f5U
                  go_wp2_with fail
                  (try rw [hqq])
                  refine (HUO.out _).mono ?_
                  rintro e w5 ⟨rfl, hb5⟩
                  have B5 : Hid (Blk w5 w2.heap.size #[.string fo, .int .i64 80, .string cp, .string q, .bool true] 38) := hideB2 ((((B4.out.set 2 _).set 4 _).set 3 _).later hb5)
                  have A5 : Hid (Blk w5 w.heap.size #[.string ⟨#[]⟩, .int .i64 0, .string ⟨#[]⟩, .string ⟨#[]⟩, .bool false] 38) := hideB2 ((((A4.out.other hne 2 _).other hne 4 _).other hne 3 _).later hb5)
                  have HB5 := hideB2 (below_then (((HB4.out.setCell (p := ⟨w2.heap.size, 2, none⟩) hge _).setCell (p := ⟨w2.heap.size, 4, none⟩) hge _).setCell (p := ⟨w2.heap.size, 3, none⟩) hge _) hb5)
                  clear p0 p1 p2 p3 p4 f0 f1 f2 f3 f4 B4 A4 HB4
                  clear hb5
                  obtain ⟨p0, p1, p2, p3, p4⟩ := B5.out.u5
                  obtain ⟨a0, a1, a2, a3, a4⟩ := A5.out.u5
                  obtain ⟨g0, g1, g2, g3, g4⟩ := A5.out.f5U
                  clear B5 HUO
                  cases okv
                  · have HF := hideB2 (show Ending.returned (.tuple #[.agg #[.string ⟨#[]⟩, .int .i64 0, .string ⟨#[]⟩, .string ⟨#[]⟩, .bool false], .bool false]) = .returned (.tuple #[valU U, .bool O]) by obtain ⟨h1, h2⟩ := HUO2.out; rw [h1, h2]; rfl)
                    go_wp2
                    refine bodyPost_ret (results_cellT rfl _ _ _ rfl (A5.out.set5U _ _ _ _ _) Tryz.underlying38 Tryz.infoUrl) rfl ⟨?_, ?_⟩
                    · exact HF.out
                    exact below_set5 HB5.out (Nat.le_refl _) _ _ _ _ _
                  · have HF := hideB2 (show Ending.returned (.tuple #[.agg #[.string fo, .int .i64 80, .string cp, .string q, .bool true], .bool true]) = .returned (.tuple #[valU U, .bool O]) by obtain ⟨h1, h2⟩ := HUO2.out; rw [h1, h2, HK.out]; rfl)
                    go_wp2
                    refine bodyPost_ret (results_cellT rfl _ _ _ rfl (A5.out.set5U _ _ _ _ _) Tryz.underlying38 Tryz.infoUrl) rfl ⟨?_, ?_⟩
                    · exact HF.out
                    exact below_set5 HB5.out (Nat.le_refl _) _ _ _ _ _
                · have hquery1 : ¬ (fr.size : Int) < (r.size : Int) := by omega
                  have HK := hideB2 (show KK = ⟨fo, clnB pt, ⟨#[]⟩, 80, false⟩ by rw [HKS.out, if_pos hpath, if_neg hquery, if_neg htold, decide_eq_false hquery])
                  have HUO := hideB2 (fun W => sUrlOk_any fo (clnB pt) ⟨#[]⟩ (80) false W (by omega) (by have := clnB_size pt; omega) (by decide))
                  have HUO2 := hideB2 (show O = urQ KK ∧ U = if urQ KK = true then KK else ur0 from HO0.out)
                  change Hid (∀ W, Calls _ _ _ W fun e w' => e = .returned (.bool (urQ ⟨fo, clnB pt, ⟨#[]⟩, 80, false⟩)) ∧ Below W.heap.size W w') at HUO
                  rw [← HK.out] at HUO
                  generalize urQ KK = okv at *
                  generalize hcp : clnB pt = cp at *
                  clear hcp
                  go_wp2_with (first | (go_at_call 61; fail) | fail)
                  (try rw [hpp])
                  refine (HCP.out _).mono ?_
                  rintro e w4 ⟨rfl, hb4⟩
                  have B4 := hideB2 ((Blk.new w2 #[.string fo, .int .i64 80, .string ⟨#[47]⟩, .string ⟨#[]⟩, .bool false] 38).later hb4)
                  have A4 := hideB2 ((A2.out.alloc (.cells #[.string fo, .int .i64 80, .string ⟨#[47]⟩, .string ⟨#[]⟩, .bool false] 38)).later hb4)
                  have HB4 := hideB2 (below_then (below_then HB2.out (below_a1 w2 (.cells #[.string fo, .int .i64 80, .string ⟨#[47]⟩, .string ⟨#[]⟩, .bool false] 38))) hb4)
                  clear hb4
                  obtain ⟨p0, p1, p2, p3, p4⟩ := B4.out.u5
                  obtain ⟨f0, f1, f2, f3, f4⟩ := B4.out.f5U
                  go_wp2_with fail
                  (try rw [hqq])
                  refine (HUO.out _).mono ?_
                  rintro e w5 ⟨rfl, hb5⟩
                  have B5 : Hid (Blk w5 w2.heap.size #[.string fo, .int .i64 80, .string cp, .string ⟨#[]⟩, .bool false] 38) := hideB2 ((B4.out.set 2 _).later hb5)
                  have A5 : Hid (Blk w5 w.heap.size #[.string ⟨#[]⟩, .int .i64 0, .string ⟨#[]⟩, .string ⟨#[]⟩, .bool false] 38) := hideB2 ((A4.out.other hne 2 _).later hb5)
                  have HB5 := hideB2 (below_then (HB4.out.setCell (p := ⟨w2.heap.size, 2, none⟩) hge _) hb5)
                  clear p0 p1 p2 p3 p4 f0 f1 f2 f3 f4 B4 A4 HB4
                  clear hb5
                  obtain ⟨p0, p1, p2, p3, p4⟩ := B5.out.u5
                  obtain ⟨a0, a1, a2, a3, a4⟩ := A5.out.u5
                  obtain ⟨g0, g1, g2, g3, g4⟩ := A5.out.f5U
                  clear B5 HUO
                  cases okv
                  · have HF := hideB2 (show Ending.returned (.tuple #[.agg #[.string ⟨#[]⟩, .int .i64 0, .string ⟨#[]⟩, .string ⟨#[]⟩, .bool false], .bool false]) = .returned (.tuple #[valU U, .bool O]) by obtain ⟨h1, h2⟩ := HUO2.out; rw [h1, h2]; rfl)
                    go_wp2
                    refine bodyPost_ret (results_cellT rfl _ _ _ rfl (A5.out.set5U _ _ _ _ _) Tryz.underlying38 Tryz.infoUrl) rfl ⟨?_, ?_⟩
                    · exact HF.out
                    exact below_set5 HB5.out (Nat.le_refl _) _ _ _ _ _
                  · have HF := hideB2 (show Ending.returned (.tuple #[.agg #[.string fo, .int .i64 80, .string cp, .string ⟨#[]⟩, .bool false], .bool true]) = .returned (.tuple #[valU U, .bool O]) by obtain ⟨h1, h2⟩ := HUO2.out; rw [h1, h2, HK.out]; rfl)
                    go_wp2
                    refine bodyPost_ret (results_cellT rfl _ _ _ rfl (A5.out.set5U _ _ _ _ _) Tryz.underlying38 Tryz.infoUrl) rfl ⟨?_, ?_⟩
                    · exact HF.out
                    exact below_set5 HB5.out (Nat.le_refl _) _ _ _ _ _
              · have hpath1 : ¬ (au.size : Int) < (fr.size : Int) := by omega
                by_cases hquery : fr.size < r.size
                · have hquery1 : (fr.size : Int) < (r.size : Int) := by omega
                  have HK := hideB2 (show KK = ⟨fo, rootB, q, 80, true⟩ by rw [HKS.out, if_neg hpath, if_pos hquery, if_neg htold, decide_eq_true hquery])
                  have HUO := hideB2 (fun W => sUrlOk_any fo ⟨#[47]⟩ q (80) true W (by omega) (by decide) (by omega))
                  have HUO2 := hideB2 (show O = urQ KK ∧ U = if urQ KK = true then KK else ur0 from HO0.out)
                  change Hid (∀ W, Calls _ _ _ W fun e w' => e = .returned (.bool (urQ ⟨fo, rootB, q, 80, true⟩)) ∧ Below W.heap.size W w') at HUO
                  rw [← HK.out] at HUO
                  generalize urQ KK = okv at *
                  go_wp2_with fail
                  (try rw [hqq])
                  refine (HUO.out _).mono ?_
                  rintro e w5 ⟨rfl, hb5⟩
                  have B5 := hideB2 ((Blk.new w2 #[.string fo, .int .i64 80, .string ⟨#[47]⟩, .string q, .bool true] 38).later hb5)
                  have A5 := hideB2 ((A2.out.alloc (.cells #[.string fo, .int .i64 80, .string ⟨#[47]⟩, .string q, .bool true] 38)).later hb5)
                  have HB5 := hideB2 (below_then (below_then HB2.out (below_a1 w2 (.cells #[.string fo, .int .i64 80, .string ⟨#[47]⟩, .string q, .bool true] 38))) hb5)
                  clear hb5
                  obtain ⟨p0, p1, p2, p3, p4⟩ := B5.out.u5
                  obtain ⟨a0, a1, a2, a3, a4⟩ := A5.out.u5
                  obtain ⟨g0, g1, g2, g3, g4⟩ := A5.out.f5U
                  clear B5 HUO
                  cases okv
                  · have HF := hideB2 (show Ending.returned (.tuple #[.agg #[.string ⟨#[]⟩, .int .i64 0, .string ⟨#[]⟩, .string ⟨#[]⟩, .bool false], .bool false]) = .returned (.tuple #[valU U, .bool O]) by obtain ⟨h1, h2⟩ := HUO2.out; rw [h1, h2]; rfl)
                    go_wp2
                    refine bodyPost_ret (results_cellT rfl _ _ _ rfl (A5.out.set5U _ _ _ _ _) Tryz.underlying38 Tryz.infoUrl) rfl ⟨?_, ?_⟩
                    · exact HF.out
                    exact below_set5 HB5.out (Nat.le_refl _) _ _ _ _ _
                  · have HF := hideB2 (show Ending.returned (.tuple #[.agg #[.string fo, .int .i64 80, .string ⟨#[47]⟩, .string q, .bool true], .bool true]) = .returned (.tuple #[valU U, .bool O]) by obtain ⟨h1, h2⟩ := HUO2.out; rw [h1, h2, HK.out]; rfl)
                    go_wp2
                    refine bodyPost_ret (results_cellT rfl _ _ _ rfl (A5.out.set5U _ _ _ _ _) Tryz.underlying38 Tryz.infoUrl) rfl ⟨?_, ?_⟩
                    · exact HF.out
                    exact below_set5 HB5.out (Nat.le_refl _) _ _ _ _ _
                · have hquery1 : ¬ (fr.size : Int) < (r.size : Int) := by omega
                  have HK := hideB2 (show KK = ⟨fo, rootB, ⟨#[]⟩, 80, false⟩ by rw [HKS.out, if_neg hpath, if_neg hquery, if_neg htold, decide_eq_false hquery])
                  have HUO := hideB2 (fun W => sUrlOk_any fo ⟨#[47]⟩ ⟨#[]⟩ (80) false W (by omega) (by decide) (by decide))
                  have HUO2 := hideB2 (show O = urQ KK ∧ U = if urQ KK = true then KK else ur0 from HO0.out)
                  change Hid (∀ W, Calls _ _ _ W fun e w' => e = .returned (.bool (urQ ⟨fo, rootB, ⟨#[]⟩, 80, false⟩)) ∧ Below W.heap.size W w') at HUO
                  rw [← HK.out] at HUO
                  generalize urQ KK = okv at *
                  go_wp2_with fail
                  (try rw [hqq])
                  refine (HUO.out _).mono ?_
                  rintro e w5 ⟨rfl, hb5⟩
                  have B5 := hideB2 ((Blk.new w2 #[.string fo, .int .i64 80, .string ⟨#[47]⟩, .string ⟨#[]⟩, .bool false] 38).later hb5)
                  have A5 := hideB2 ((A2.out.alloc (.cells #[.string fo, .int .i64 80, .string ⟨#[47]⟩, .string ⟨#[]⟩, .bool false] 38)).later hb5)
                  have HB5 := hideB2 (below_then (below_then HB2.out (below_a1 w2 (.cells #[.string fo, .int .i64 80, .string ⟨#[47]⟩, .string ⟨#[]⟩, .bool false] 38))) hb5)
                  clear hb5
                  obtain ⟨p0, p1, p2, p3, p4⟩ := B5.out.u5
                  obtain ⟨a0, a1, a2, a3, a4⟩ := A5.out.u5
                  obtain ⟨g0, g1, g2, g3, g4⟩ := A5.out.f5U
                  clear B5 HUO
                  cases okv
                  · have HF := hideB2 (show Ending.returned (.tuple #[.agg #[.string ⟨#[]⟩, .int .i64 0, .string ⟨#[]⟩, .string ⟨#[]⟩, .bool false], .bool false]) = .returned (.tuple #[valU U, .bool O]) by obtain ⟨h1, h2⟩ := HUO2.out; rw [h1, h2]; rfl)
                    go_wp2
                    refine bodyPost_ret (results_cellT rfl _ _ _ rfl (A5.out.set5U _ _ _ _ _) Tryz.underlying38 Tryz.infoUrl) rfl ⟨?_, ?_⟩
                    · exact HF.out
                    exact below_set5 HB5.out (Nat.le_refl _) _ _ _ _ _
                  · have HF := hideB2 (show Ending.returned (.tuple #[.agg #[.string fo, .int .i64 80, .string ⟨#[47]⟩, .string ⟨#[]⟩, .bool false], .bool true]) = .returned (.tuple #[valU U, .bool O]) by obtain ⟨h1, h2⟩ := HUO2.out; rw [h1, h2, HK.out]; rfl)
                    go_wp2
                    refine bodyPost_ret (results_cellT rfl _ _ _ rfl (A5.out.set5U _ _ _ _ _) Tryz.underlying38 Tryz.infoUrl) rfl ⟨?_, ?_⟩
                    · exact HF.out
                    exact below_set5 HB5.out (Nat.le_refl _) _ _ _ _ _
end Go.Proofs.YtmhohponikolfaaGreatDoor
namespace Go.Proofs.YtmhohponikolfaaGreatDoor
set_option linter.unusedVariables false
set_option linter.unusedSimpArgs false
open Go.RowKit
theorem rdK_ho (r : ByteArray) : (rdK r).ho = foldB (uptS 58 (auU r)) := by simp only [rdK]
theorem rdK_pa (r : ByteArray) : (rdK r).pa = clnB (if (uptS 63 (reU r)).size = 0 then rootB else uptS 63 (reU r)) := by simp only [rdK]
theorem rdK_qu (r : ByteArray) : (rdK r).qu = bhS 63 r := by simp only [rdK]
theorem rdU_sizes (s : ByteArray) : (rdU s).ho.size ≤ s.size ∧ (rdU s).pa.size ≤ 202 ∧ (rdU s).qu.size ≤ s.size := by
  have h1 := uptS_size 58 (auU (s.extract 7 s.size))
  have h2 := auU_size (s.extract 7 s.size)
  have h3 : (s.extract 7 s.size).size ≤ s.size := by rw [ByteArray.size_extract]; omega
  have h4 := bhS_size 63 (s.extract 7 s.size)
  have h5 := clnB_size (if (uptS 63 (reU (s.extract 7 s.size))).size = 0 then rootB else uptS 63 (reU (s.extract 7 s.size)))
  rw [← rdK_pa] at h5
  rw [← rdK_qu] at h4
  rw [← foldB_size, ← rdK_ho] at h1
  unfold rdU
  generalize rdK (s.extract 7 s.size) = K at *
  by_cases h : rdO s = true
  · rw [if_pos h]
    exact ⟨by omega, h5, by omega⟩
  · rw [if_neg h]
    have e : ur0.ho.size = 0 ∧ ur0.pa.size = 0 ∧ ur0.qu.size = 0 := ⟨rfl, rfl, rfl⟩
    omega
theorem ret_sbU {s t : ByteArray} {a b : Bool} (h : t = s) (h' : b = a) : Ending.returned (.tuple #[.string s, .bool a]) = .returned (.tuple #[.string t, .bool b]) := by rw [h, h']
def canB (s : ByteArray) : ByteArray := textB (rdU s).ho (rdU s).pa (rdU s).qu (rdU s).po (rdU s).hq
theorem urQ_zero : urQ ur0 = false := urQ_port rfl
theorem canB_no {s : ByteArray} (h : rdO s = false) : canB s = ⟨#[]⟩ := by
  unfold canB
  rw [rdU_no h]
  unfold textB
  rw [if_neg]
  have := urQ_zero
  unfold urQ at this
  rw [this]; simp
set_option maxHeartbeats 2000000 in
theorem Canon_any (s : ByteArray) (w : World) (hs : s.size ≤ 1048576) (htab : Tab10 w) :
    Calls Tryz.prog 15 #[.string s] w fun e w' => e = .returned (.tuple #[.string (canB s), .bool (rdO s)]) ∧ Below w.heap.size w w' := by
  have HR := hideB2 (fun W (h : Tab10 W) => ReadUrl_any s W hs h)
  have HT := hideB2 htab
  obtain ⟨z1, z2, z3⟩ := rdU_sizes s
  unfold canB
  clear htab
  generalize rdU s = u at *
  generalize rdO s = O at *
  obtain ⟨ho, pa, qu, po, hq⟩ := u
  simp only [valU] at HR
  simp only at z1 z2 z3
  have HX := hideB2 (fun W (h : Tab10 W) => UrlText_any ho pa qu po hq W h (by omega) (by omega) (by omega))
  show Calls _ _ _ _ fun e w' => e = .returned (.tuple #[.string (textB ho pa qu po hq), .bool O]) ∧ Below w.heap.size w w'
  generalize textB ho pa qu po hq = T at *
  go_enter Tryz.func15, Tryz.ntmps15
  go_wp2_with fail
  refine (HR.out _ HT.out).mono ?_
  rintro e w1 ⟨rfl, hb1⟩
  have hb1' := below_then hb1 (below_a1 w1 (.cells #[.string ho, .int .i64 po, .string pa, .string qu, .bool hq] 38))
  have HB1 := hideB2 hb1'
  clear hb1 hb1'
  go_wp2_with (go_at_call 38; refine (HX.out _ (tab_later HT.out HB1.out)).mono ?_; rintro e w2 ⟨rfl, hb2⟩)
  go_ret2
  exact ⟨rfl, below_then HB1.out hb2⟩
set_option maxHeartbeats 2000000 in
theorem sCanon_any (s : ByteArray) (w : World) (hs : s.size ≤ 1048576) :
    Calls Tryz.prog 16 #[.string s] w fun e w' => e = .returned (.tuple #[.string (canB s), .bool (rdO s)]) ∧ Below w.heap.size w w' := by
  have HR := hideB2 (fun W => sReadUrl_any s W hs)
  have HN := hideB2 (fun (h : rdO s = false) => canB_no h)
  obtain ⟨z1, z2, z3⟩ := rdU_sizes s
  have hcan : canB s = textB (rdU s).ho (rdU s).pa (rdU s).qu (rdU s).po (rdU s).hq := rfl
  generalize canB s = C at *
  generalize rdU s = u at *
  generalize rdO s = O at *
  obtain ⟨ho, pa, qu, po, hq⟩ := u
  simp only [valU] at HR
  simp only at z1 z2 z3 hcan
  have HX := hideB2 (fun W => sUrlText_any ho pa qu po hq W (by omega) (by omega) (by omega))
  rw [← hcan] at HX
  clear hcan
  cases O
  · have HF := hideB2 (HN.out rfl)
    go_enter Tryz.func16, Tryz.ntmps16
    go_wp2_with fail
    refine (HR.out _).mono ?_
    rintro e w1 ⟨rfl, hb1⟩
    have HB1 := hideB2 (below_then hb1 (below_a1 w1 (.cells #[.string ho, .int .i64 po, .string pa, .string qu, .bool hq] 38)))
    clear hb1
    go_wp2
    go_ret2
    exact ⟨ret_sbU HF.out rfl, HB1.out⟩
  · go_enter Tryz.func16, Tryz.ntmps16
    go_wp2_with fail
    refine (HR.out _).mono ?_
    rintro e w1 ⟨rfl, hb1⟩
    have HB1 := hideB2 (below_then hb1 (below_a1 w1 (.cells #[.string ho, .int .i64 po, .string pa, .string qu, .bool hq] 38)))
    clear hb1
    go_wp2_with (go_at_call 39; refine (HX.out _).mono ?_; rintro e w2 ⟨rfl, hb2⟩)
    go_ret2
    exact ⟨rfl, below_then HB1.out hb2⟩
set_option maxHeartbeats 1000000 in
theorem eqUrl_same (ho pa qu : ByteArray) (po : Int) (hq : Bool) (w : World) :
    Calls Tryz.prog 24 #[.agg #[.string ho, .int .i64 po, .string pa, .string qu, .bool hq], .agg #[.string ho, .int .i64 po, .string pa, .string qu, .bool hq]] w fun e w' => e = .returned (.bool true) ∧ Below w.heap.size w w' := by
  have HB := hideB2 (below_a2 w (.cells #[.string ho, .int .i64 po, .string pa, .string qu, .bool hq] 38) (.cells #[.string ho, .int .i64 po, .string pa, .string qu, .bool hq] 38))
  have e1 : (ho.toList == ho.toList) = true := by simp
  have e2 : (pa.toList == pa.toList) = true := by simp
  have e3 : (qu.toList == qu.toList) = true := by simp
  have e4 : (po != po) = false := by simp
  have e5 : (hq != hq) = false := by cases hq <;> rfl
  go_enter Tryz.func24, Tryz.ntmps24
  go_wp2
  go_ret
  exact ⟨rfl, HB.out⟩
end Go.Proofs.YtmhohponikolfaaGreatDoor
namespace Go.Proofs.YtmhohponikolfaaGreatDoor
set_option linter.unusedVariables false
set_option linter.unusedSimpArgs false
open Go.RowKit
set_option maxRecDepth 100000 in
set_option maxHeartbeats 4000000 in
theorem places_any (w : World) (htab : Tab10 w) :
    Calls Tryz.prog 17 #[] w fun e w' => e = .returned (.bool true) ∧ Below w.heap.size w w' := by
  have HR := hideB2 (fun W (h : Tab10 W) => ReadUrl_any plS W (by decide) h)
  rw [pl_ok, pl_ur] at HR
  simp only [valU] at HR
  have HT := hideB2 htab
  have HX := hideB2 (fun W (h : Tab10 W) => UrlText_any ⟨#[97, 46, 98]⟩ ⟨#[47, 121]⟩ ⟨#[122]⟩ 80 true W h (by decide) (by decide) (by decide))
  have HS := hideB2 (fun W (h : Tab10 W) => Surt_any ⟨#[97, 46, 98]⟩ ⟨#[47, 121]⟩ ⟨#[122]⟩ 80 true W h (by decide) (by decide) (by decide))
  rw [show textB ⟨#[97, 46, 98]⟩ ⟨#[47, 121]⟩ ⟨#[122]⟩ 80 true = ⟨#[104, 116, 116, 112, 58, 47, 47, 97, 46, 98, 47, 121, 63, 122]⟩ from by unfold textB; rw [pl_q, if_pos rfl, pl_t]] at HX
  rw [pl_s] at HS
  clear htab
  have e1 : (⟨#[104, 116, 116, 112, 58, 47, 47, 97, 46, 98, 47, 121, 63, 122]⟩ : ByteArray) = ⟨#[104, 116, 116, 112, 58, 47, 47, 97, 46, 98, 47, 121, 63, 122]⟩ := rfl
  generalize hA : (⟨#[97, 46, 98]⟩ : ByteArray) = ho at *
  generalize hB : (⟨#[47, 121]⟩ : ByteArray) = pa at *
  generalize hC : (⟨#[122]⟩ : ByteArray) = qu at *
  generalize hP : (80 : Int) = po at *
  generalize hQ : true = hq at *
  clear hA hB hC hP
  go_enter Tryz.func17, Tryz.ntmps17
  go_wp2_with fail
  refine (HR.out _ HT.out).mono ?_
  rintro e w1 ⟨rfl, hb1⟩
  have hb1' := below_then hb1 (below_a1 w1 (.cells #[.string ho, .int .i64 po, .string pa, .string qu, .bool hq] 38))
  have HB1 := hideB2 hb1'
  have A1 := hideB2 (Blk.new w1 #[.string ho, .int .i64 po, .string pa, .string qu, .bool hq] 38)
  clear hb1 hb1'
  subst hQ
  go_wp2_with (first
    | (go_at_call 38; refine (HX.out _ (tab_later HT.out HB1.out)).mono ?_; rintro e w2 ⟨rfl, hb2⟩; obtain ⟨p0, p1, p2, p3, p4⟩ := (A1.out.later hb2).u5)
    | (go_at_call 40; refine (HS.out _ (tab_later HT.out (below_then HB1.out hb2))).mono ?_; rintro e w3 ⟨rfl, hb3⟩))
  go_ret
  exact ⟨rfl, below_then HB1.out (below_then hb2 hb3)⟩
set_option maxHeartbeats 1000000 in
theorem within_text (a b : ByteArray) (w : World) (ha : a.size ≤ maxLen) (hb : b.size ≤ maxLen) (h : a.size ≤ b.size) (he : b.extract 0 a.size = a) :
    Calls Tryz.prog 19 #[.string a, .string b] w fun e w' => e = .returned (.bool true) ∧ Below w.heap.size w w' := by
  have h1 : (a.size : Int) ≤ (b.size : Int) := by omega
  have h0 : (0 : Int) ≤ (a.size : Int) := by omega
  have hz : a.size ≤ maxLen ∧ b.size ≤ maxLen := ⟨ha, hb⟩
  unfold maxLen at ha hb
  go_enter Tryz.func19, Tryz.ntmps19
  go_wp2
  go_ret
  exact ⟨rfl, Below.refl _ _⟩
end Go.Proofs.YtmhohponikolfaaGreatDoor
namespace Go.Proofs.YtmhohponikolfaaGreatDoor
set_option linter.unusedVariables false
set_option linter.unusedSimpArgs false
open Go.RowKit
/-- Do these bytes begin with a piece of one dot, or of two? -/
def badL (l : List UInt8) : Prop := (∃ r, l = 47 :: 46 :: 47 :: r) ∨ (∃ r, l = 47 :: 46 :: 46 :: 47 :: r)
def goodP (x : ByteArray) : Prop := 47 ∉ x.data.toList ∧ dotQ x = false
theorem splS_free {c : UInt8} : ∀ (n : Nat) (s : ByteArray), s.size ≤ n → ∀ x ∈ splS c s, c ∉ x.data.toList
  | n, s, hn => by
    intro x hx hc
    have free : ∀ t : ByteArray, (∀ j, j < t.size → at8 t j ≠ c) → c ∉ t.data.toList := by
      intro t ht hm
      obtain ⟨j, hj, e⟩ := List.getElem_of_mem hm
      refine ht j (by rw [len_data] at hj; exact hj) ?_
      unfold at8
      rw [List.getD, List.getElem?_eq_getElem hj]; exact e
    rcases idxS_cases c s with h | ⟨i, h, hi⟩
    · rw [(splS_none h).2] at hx
      simp at hx
      subst hx
      exact free _ (idxS_none h) hc
    · rw [(splS_some h).2] at hx
      cases n with
      | zero => omega
      | succ n =>
        rcases List.mem_cons.1 hx with rfl | hx
        · refine free _ ?_ hc
          intro j hj
          have e0 : (s.extract 0 i).size = i := by rw [ByteArray.size_extract]; omega
          rw [at8_extS (by omega) (by omega), Nat.zero_add]
          exact (idxS_some h).2.2 j (by omega)
        · exact splS_free n _ (by rw [ByteArray.size_extract]; omega) x hx hc
theorem keepL_good (l : List ByteArray) (h : ∀ x ∈ l, 47 ∉ x.data.toList) : ∀ x ∈ keepL l, goodP x := by
  revert h
  refine snoc_ind (p := fun l => (∀ x ∈ l, 47 ∉ x.data.toList) → ∀ x ∈ keepL l, goodP x) ?_ ?_ l
  · intro _ x hx; cases hx
  · intro q y ih h x hx
    have ih' := ih (fun z hz => h z (List.mem_append_left _ hz))
    rw [keepL_snoc] at hx
    unfold keepS at hx
    split at hx
    · exact ih' x (List.dropLast_subset _ hx)
    · split at hx
      · exact ih' x hx
      · rename_i h1 h2
        rcases List.mem_append.1 hx with hx | hx
        · exact ih' x hx
        · simp at hx
          subst hx
          refine ⟨h x (by simp), ?_⟩
          unfold dotQ
          rw [Bool.eq_false_iff.2 h1, Bool.eq_false_iff.2 h2]; rfl
theorem keptL_good (l : List ByteArray) (h : ∀ x ∈ l, 47 ∉ x.data.toList) : ∀ x ∈ keptL l, goodP x := by
  intro x hx
  unfold keptL at hx
  split at hx
  · rcases List.mem_append.1 hx with hx | hx
    · exact keepL_good l h x hx
    · simp at hx
      subst hx
      exact ⟨by simp, by kernel_rfl⟩
  · exact keepL_good l h x hx
theorem eqB_of {x : ByteArray} {d : ByteArray} (h : x.data.toList = d.data.toList) : x = d := bytes_ext h
theorem dot_d1 : dotQ d1 = true := by kernel_rfl
theorem dot_dd : dotQ dd = true := by kernel_rfl
theorem dot_of1 {x : ByteArray} (h : x.data.toList = [46]) : dotQ x = true := by
  rw [show x = d1 from bytes_ext h]; exact dot_d1
theorem dot_of2 {x : ByteArray} (h : x.data.toList = [46, 46]) : dotQ x = true := by
  rw [show x = dd from bytes_ext h]; exact dot_dd
theorem tail_head (r : List ByteArray) : ∃ q, tailS 47 r ++ [47] = 47 :: q := by
  cases r with
  | nil => exact ⟨[], rfl⟩
  | cons y r => exact ⟨_, by rw [tailS_cons]; rfl⟩
theorem notbad_tail : ∀ (l : List ByteArray), (∀ x ∈ l, goodP x) → ∀ i, ¬ badL ((tailS 47 l ++ [47]).drop i)
  | [], _, i => by
    rintro (⟨r, h⟩ | ⟨r, h⟩)
    · have := congrArg List.length h; simp [tailS_nil] at this; omega
    · have := congrArg List.length h; simp [tailS_nil] at this; omega
  | x :: l, hg, i => by
    have ih := notbad_tail l (fun y hy => hg y (List.mem_cons_of_mem _ hy))
    obtain ⟨hx1, hx2⟩ := hg x (List.mem_cons_self ..)
    obtain ⟨q, hq⟩ := tail_head l
    have e : tailS 47 (x :: l) ++ [47] = 47 :: (x.data.toList ++ (tailS 47 l ++ [47])) := by rw [tailS_cons]; simp
    rw [e]
    cases i with
    | zero =>
      rw [List.drop_zero, hq]
      generalize hX : x.data.toList = X at *
      rintro (⟨r, h⟩ | ⟨r, h⟩)
      · injection h with _ h
        match X, hX, hx1, h with
        | [], _, _, h => simp at h
        | [a], hX, _, h =>
          injection h with h1 _
          subst h1
          rw [dot_of1 hX] at hx2; cases hx2
        | a :: b :: t, _, hx1, h =>
          injection h with _ h
          injection h with h _
          subst h
          simp at hx1
      · injection h with _ h
        match X, hX, hx1, h with
        | [], _, _, h => simp at h
        | [a], hX, _, h => simp at h
        | [a, b], hX, _, h =>
          injection h with h1 h
          injection h with h2 _
          subst h1 h2
          rw [dot_of2 hX] at hx2; cases hx2
        | a :: b :: c :: t, _, hx1, h =>
          injection h with _ h
          injection h with _ h
          injection h with h _
          subst h
          simp at hx1
    | succ j =>
      rw [List.drop_succ_cons]
      by_cases hj : j < x.data.toList.length
      · rw [List.drop_append_of_le_length (by omega), List.drop_eq_getElem_cons hj, List.cons_append]
        have hne : x.data.toList[j] ≠ 47 := fun h => hx1 (h ▸ List.getElem_mem hj)
        rintro (⟨r, h⟩ | ⟨r, h⟩)
        · injection h with h _; exact hne h
        · injection h with h _; exact hne h
      · rw [List.drop_append, List.drop_eq_nil_of_le (by omega), List.nil_append]
        exact ih _
theorem clnL_good (l : List ByteArray) (h : ∀ x ∈ l, goodP x) (i : Nat) : ¬ badL (((clnL l).data.toList ++ [47]).drop i) := by
  unfold clnL
  split
  · rcases i with _ | _ | i
    · rintro (⟨r, h⟩ | ⟨r, h⟩) <;> simp at h
    · rintro (⟨r, h⟩ | ⟨r, h⟩) <;> simp at h
    · rintro (⟨r, h⟩ | ⟨r, h⟩) <;> simp at h
  · exact notbad_tail l h i
theorem clnB_good {p : ByteArray} (hp : pthQ p = true) (i : Nat) : ¬ badL (((clnB p).data.toList ++ [47]).drop i) := by
  unfold clnB
  rw [if_pos hp]
  exact clnL_good _ (keptL_good _ (splS_free _ _ (Nat.le_refl _))) i
theorem clnB_head {p : ByteArray} (hp : pthQ p = true) : 1 ≤ (clnB p).size ∧ at8 (clnB p) 0 = 47 := by
  unfold clnB
  rw [if_pos hp]
  unfold clnL
  split
  · exact ⟨by decide, by decide⟩
  · rename_i h
    obtain ⟨x, l, e⟩ : ∃ x l, keptL (splS 47 (evB (p.extract 1 p.size))) = x :: l := by
      cases hh : keptL (splS 47 (evB (p.extract 1 p.size))) with
      | nil => exact absurd hh h
      | cons x l => exact ⟨x, l, rfl⟩
    rw [e, tailS_cons]
    refine ⟨?_, rfl⟩
    show 1 ≤ (List.toArray _).size
    simp
theorem keepS_dot (k : List ByteArray) {x : ByteArray} (h : dotQ x = true) : (keepS k x).length ≤ k.length ∧ sumS (keepS k x) ≤ sumS k := by
  have hd : sumS k.dropLast ≤ sumS k := by
    rcases List.eq_nil_or_concat k with rfl | ⟨q, y, rfl⟩
    · exact Nat.le_refl _
    · simp [sumS]
  unfold dotQ at h
  unfold keepS
  split
  · rw [List.length_dropLast]; omega
  · rename_i h1
    rw [Bool.eq_false_iff.2 h1, Bool.or_false] at h
    rw [if_pos h]; omega
theorem keptL_tight (l : List ByteArray) : (keptL l).length ≤ l.length ∧ sumS (keptL l) ≤ sumS l := by
  unfold keptL
  split
  · rename_i h
    rcases List.eq_nil_or_concat l with rfl | ⟨q, y, rfl⟩
    · cases h
    · rw [List.concat_eq_append] at h ⊢
      unfold lastDot at h
      rw [List.getLast?_append] at h
      have hy : dotQ y = true := h
      rw [keepL_snoc]
      have h1 := keepS_dot (keepL q) hy
      have h2 := keepL_le q
      have e : sumS (q ++ [y]) = sumS q + y.size := by simp [sumS]
      have e2 : sumS (keepS (keepL q) y ++ [⟨#[]⟩]) = sumS (keepS (keepL q) y) := by simp [sumS]; rfl
      rw [List.length_append, List.length_append, e, e2]
      simp only [List.length_singleton]
      omega
  · exact keepL_le l
theorem clnB_le {p : ByteArray} (hp : pthQ p = true) : (clnB p).size ≤ p.size := by
  have h0 : 1 ≤ p.size := by
    have hp' := hp
    unfold pthQ at hp'
    rw [Bool.and_eq_true, Bool.and_eq_true] at hp'
    exact (targQ_iff.1 hp'.1.1).1
  unfold clnB
  rw [if_pos hp]
  have h1 := evB_size (p.extract 1 p.size)
  have h2 : (p.extract 1 p.size).size = p.size - 1 := by rw [ByteArray.size_extract]; omega
  generalize evB (p.extract 1 p.size) = y at *
  have h3 := splS_len 47 y
  have h4 := splS_sum 47 y.size y (Nat.le_refl _)
  generalize splS 47 y = L at *
  have h5 := keptL_tight L
  generalize keptL L = K at *
  unfold clnL
  split
  · exact h0
  · show (tailS 47 K).toArray.size ≤ _
    rw [List.size_toArray, tailS_len]
    omega
/-- A window of three or of four bytes. -/
theorem win3 {t : ByteArray} {i : Nat} (hi : i + 3 ≤ t.size) (h : t.extract i (i + 3) = ⟨#[47, 46, 47]⟩) : badL (t.data.toList.drop i) := by
  left
  refine ⟨t.data.toList.drop (i + 3), ?_⟩
  have h1 := congrArg (fun b : ByteArray => b.data.toList) h
  simp only [Lib.extract_data] at h1
  have e : t.data.toList.drop i = (t.data.toList.drop i).take (i + 3 - i) ++ (t.data.toList.drop i).drop (i + 3 - i) := (List.take_append_drop _ _).symm
  rw [h1, List.drop_drop, show i + (i + 3 - i) = i + 3 by omega] at e
  exact e
theorem win4 {t : ByteArray} {i : Nat} (hi : i + 4 ≤ t.size) (h : t.extract i (i + 4) = ⟨#[47, 46, 46, 47]⟩) : badL (t.data.toList.drop i) := by
  right
  refine ⟨t.data.toList.drop (i + 4), ?_⟩
  have h1 := congrArg (fun b : ByteArray => b.data.toList) h
  simp only [Lib.extract_data] at h1
  have e : t.data.toList.drop i = (t.data.toList.drop i).take (i + 4 - i) ++ (t.data.toList.drop i).drop (i + 4 - i) := (List.take_append_drop _ _).symm
  rw [h1, List.drop_drop, show i + (i + 4 - i) = i + 4 by omega] at e
  exact e
theorem clnB_win3 {p : ByteArray} (hp : pthQ p = true) {i : Nat} (hi : i + 3 ≤ (clnB p ++ ⟨#[47]⟩).size) : (clnB p ++ ⟨#[47]⟩).extract i (i + 3) ≠ ⟨#[47, 46, 47]⟩ := by
  intro h
  have h1 := win3 hi h
  rw [Go.Joins.data_append] at h1
  exact clnB_good hp i h1
theorem clnB_win4 {p : ByteArray} (hp : pthQ p = true) {i : Nat} (hi : i + 4 ≤ (clnB p ++ ⟨#[47]⟩).size) : (clnB p ++ ⟨#[47]⟩).extract i (i + 4) ≠ ⟨#[47, 46, 46, 47]⟩ := by
  intro h
  have h1 := win4 hi h
  rw [Go.Joins.data_append] at h1
  exact clnB_good hp i h1
end Go.Proofs.YtmhohponikolfaaGreatDoor
namespace Go.Proofs.YtmhohponikolfaaGreatDoor
set_option linter.unusedVariables false
set_option linter.unusedSimpArgs false
open Go.ChangeShapes Go.WideShapes Go.ChangeAt Go.RowKit
theorem code_of {w : World} {a : Option Addr} {len cap : Nat} {zs : List Int} (h : IsRow .u8 w a len cap zs) : Code w a len := by
  rcases h with ⟨rfl, rfl, rfl, rfl⟩ | ⟨x, rfl, hl, hm, hz, hcell, hwf⟩
  · exact ⟨Or.inl rfl, by unfold maxLen; omega⟩
  · refine ⟨?_, Nat.le_trans hl hm⟩
    by_cases h0 : len = 0
    · exact Or.inl h0
    · right
      obtain ⟨b, off, spot⟩ := x
      have hc := hcell 0 (by omega)
      have hspot : spot = none := by simpa [Addr.add] using World.cell?_spot hc
      subst hspot
      refine ⟨b, off, rfl, ?_, fun i hi => ?_⟩
      · have := World.block_lt_of_cell? _ _ hc
        simpa [Addr.add] using this
      · have hci := hcell i (by omega)
        rw [Addr.add_lit] at hci
        have hmem : zs.getD i 0 ∈ zs := by
          have hi' : i < zs.length := by omega
          rw [List.getD, List.getElem?_eq_getElem hi']
          exact List.getElem_mem hi'
        have hb := bounds_u8 (hwf _ hmem)
        exact ⟨(zs.getD i 0).toNat, by omega, by rw [hci]; congr 2; omega⟩
end Go.Proofs.YtmhohponikolfaaGreatDoor
namespace Go.Proofs.YtmhohponikolfaaGreatDoor
set_option linter.unusedVariables false
set_option linter.unusedSimpArgs false
open Go.ChangeShapes Go.WideShapes Go.ChangeAt Go.RowKit

/-- A block's cells, laid anew. -/
def laidRow (cs : Array Value) : Obj → Obj
  | .cells _ t frozen => .cells cs t frozen
  | o => o
theorem laid_mem {P : Program} {w : World} : ∀ {l : List (String × DataW Unit)} {ps : List MemPlace}, DataW.LaidVars P w l ps → ∀ (n : String) (d : DataW Unit), (n, d) ∈ l →
    ∃ g t cs fuel p, P.globalNamed n = some g ∧ (P.globals[g]?).map (·.type) = some t ∧ w.var? P n = some cs ∧ DataW.trod (fun _ => ()) P w 0 (fun _ => true) false fuel t cs.toList = some (d, p)
  | [], _, _, n, d, hm => by simp at hm
  | (n0, d0) :: r, ps, h, n, d, hm => by
    obtain ⟨g, t, cs, fuel, p, q, h1, h2, h3, h4, h5, _⟩ := h
    rcases List.mem_cons.1 hm with e | e
    · cases e
      exact ⟨g, t, cs, fuel, p, h1, h2, h3, h4⟩
    · exact laid_mem h5 n d e
end Go.Proofs.YtmhohponikolfaaGreatDoor
namespace Go.Proofs.YtmhohponikolfaaGreatDoor
set_option linter.unusedVariables false
set_option linter.unusedSimpArgs false
open Go.ChangeShapes Go.WideShapes Go.ChangeAt Go.RowKit
theorem dectab_of_laid {W : World} {l : List (String × DataW Unit)} (hm : ("internal/strconv.uint64pow10", Rows.laid_internal_strconv_uint64pow10) ∈ l) (h : laidMet Tryz.prog l W) : Tab10 W := by
  obtain ⟨ps, hl, _⟩ := h
  obtain ⟨g, t, cs, fuel, p, h1, h2, h3, h4⟩ := laid_mem hl _ _ hm
  have hg : Tryz.prog.globalNamed "internal/strconv.uint64pow10" = some 5 := by kernel_rfl
  have ht : (Tryz.prog.globals[5]?).map (·.type) = some 180 := by kernel_rfl
  obtain rfl := Option.some.inj (hg.symm.trans h1)
  obtain rfl := Option.some.inj (ht.symm.trans h2)
  have hc := Lib.cells_of_tab (k := .u64) (zs := Lib.pow10Tab) Tryz.underlying180 Tryz.underlying146 (by kernel_rfl) (by kernel_rfl) h4
  unfold Tab10 Lib.TabIs
  rw [h3, ← hc]
end Go.Proofs.YtmhohponikolfaaGreatDoor
