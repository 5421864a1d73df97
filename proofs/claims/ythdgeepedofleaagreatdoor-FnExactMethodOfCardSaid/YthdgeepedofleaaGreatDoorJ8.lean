/-
  Chapter 7: an address read; the specification's side. · Chapter 7: an address in its one form; both sides; addresses held against each other. · Chapter 10: exchanges, on lists. No Go in sight. · Chapter 6: of what kind a message is; the program's side. · Chapter 6: messages in the laws: copies, sizes, comparisons. · What the exact laws do with fields: marks, and whether they are held.
-/
import Derived.Test.YthdgeepedofleaaGreatDoorJ7
import Derived.Test.YthdgeepedofleaaGreatDoorJ4
import Derived.Test.YthdgeepedofleaaGreatDoorJ1
import Derived.Test.YthdgeepedofleaaGreatDoorJ5
import Derived.Deep.DeepCutAuto
import Derived.Test.YthdgeepedofleaaGreatDoorJ0
import Derived.Test.YthdgeepedofleaaGreatDoorJ3
namespace Go.Proofs.YthdgeepedofleaaGreatDoor
set_option linter.unusedVariables false
set_option linter.unusedSimpArgs false
open Go.RowKit
theorem cln_root : clnB rootB = rootB := by
  have h1 : pthQ rootB = true := by decide
  have h2 : evB (rootB.extract 1 rootB.size) = ⟨#[]⟩ := evB_nil (by rw [ByteArray.size_extract]; decide)
  have h3 : splS 47 ⟨#[]⟩ = [⟨#[]⟩] := (splS_none (c := 47) (s := ⟨#[]⟩) (idxS_miss (fun j hj => absurd hj (Nat.not_lt_zero j)))).2
  have h4 : eqB ⟨#[]⟩ dd = false := by unfold eqB; rw [ByteArray.toList_eq, ByteArray.toList_eq]; rfl
  have h5 : eqB ⟨#[]⟩ d1 = false := by unfold eqB; rw [ByteArray.toList_eq, ByteArray.toList_eq]; rfl
  rw [clnB_yes h1, h2, h3]
  have h6 : keepL [⟨#[]⟩] = [⟨#[]⟩] := by
    show keepS [] ⟨#[]⟩ = _
    unfold keepS; rw [h4, h5]; rfl
  have h7 : lastDot [⟨#[]⟩] = false := by
    show dotQ ⟨#[]⟩ = false
    unfold dotQ; rw [h4, h5]; rfl
  unfold keptL
  rw [h7, h6]
  rfl
theorem rdK_spec (r : ByteArray) : rdK r = ⟨foldB (uptS 58 (auU r)), if (auU r).size < (uptS 63 r).size then clnB ((uptS 63 r).extract (auU r).size (uptS 63 r).size) else rootB, if (uptS 63 r).size < r.size then r.extract ((uptS 63 r).size + 1) r.size else ⟨#[]⟩, if (uptS 58 (auU r)).size < (auU r).size then rdecN ((auU r).extract ((uptS 58 (auU r)).size + 1) (auU r).size) else 80, decide ((uptS 63 r).size < r.size)⟩ := by
  obtain ⟨k1, k2, k3, k4⟩ := reU_cut r
  obtain ⟨c1, c2⟩ := cut_len 63 r
  obtain ⟨d1, d2⟩ := cut_len 58 (auU r)
  unfold rdK
  rw [k1, c1, c2, d1, d2]
  have hz : ((uptS 63 r).extract (auU r).size (uptS 63 r).size).size = (uptS 63 r).size - (auU r).size := by rw [ByteArray.size_extract]; omega
  have e1 : clnB (if ((uptS 63 r).extract (auU r).size (uptS 63 r).size).size = 0 then rootB else (uptS 63 r).extract (auU r).size (uptS 63 r).size) = if (auU r).size < (uptS 63 r).size then clnB ((uptS 63 r).extract (auU r).size (uptS 63 r).size) else rootB := by
    by_cases h : (auU r).size < (uptS 63 r).size
    · rw [if_pos h, if_neg (show ¬ ((uptS 63 r).extract (auU r).size (uptS 63 r).size).size = 0 by omega)]
    · rw [if_neg h, if_pos (show ((uptS 63 r).extract (auU r).size (uptS 63 r).size).size = 0 by omega), cln_root]
  have e2 : (if decide ((uptS 58 (auU r)).size < (auU r).size) = true then rdecN (if (uptS 58 (auU r)).size < (auU r).size then (auU r).extract ((uptS 58 (auU r)).size + 1) (auU r).size else ⟨#[]⟩) else 80) = if (uptS 58 (auU r)).size < (auU r).size then rdecN ((auU r).extract ((uptS 58 (auU r)).size + 1) (auU r).size) else 80 := by
    by_cases h : (uptS 58 (auU r)).size < (auU r).size
    · rw [decide_eq_true h, if_pos rfl, if_pos h, if_pos h]
    · rw [decide_eq_false h, if_neg (by simp), if_neg h]
  rw [e1, e2]
theorem rdO_short {s : ByteArray} (h : s.size < 8) : rdO s = false := by
  unfold rdO
  cases hp : rdA s
  · rfl
  · have hr : s.extract 7 s.size = ⟨#[]⟩ := size_nil (by rw [ByteArray.size_extract]; omega)
    rw [hr, Bool.true_and]
    have hau : auU ⟨#[]⟩ = ⟨#[]⟩ := auU_none (fun j hj => absurd hj (Nat.not_lt_zero j))
    have hho : uptS 58 ⟨#[]⟩ = ⟨#[]⟩ := uptS_none (idxS_miss (fun j hj => absurd hj (Nat.not_lt_zero j)))
    unfold urQ urlQ
    have e : (rdK ⟨#[]⟩).ho = ⟨#[]⟩ := by
      show foldB (uptS 58 (auU ⟨#[]⟩)) = _
      rw [hau, hho]; rfl
    rw [e, hostQ_empty rfl]
    rfl
theorem rdU_no {s : ByteArray} (h : rdO s = false) : rdU s = ur0 := by unfold rdU; rw [h]; rfl
theorem urQ_port {u : Ur} (h : u.po = 0) : urQ u = false := by
  unfold urQ urlQ withinB
  rw [h]
  simp
theorem eqB_upt35 (s : ByteArray) : ((uptS 35 s).toList == s.toList) = decide (idxS 35 s < 0) := eqB_upt s
theorem sch_eq {x : ByteArray} : (x.toList == [104, 116, 116, 112, 58, 47, 47]) = eqB x schB := by
  unfold eqB; rw [ByteArray.toList_eq schB]; rfl
set_option maxRecDepth 100000 in
set_option maxHeartbeats 8000000 in
theorem sReadUrl_any (s : ByteArray) (w : World) (hs : s.size ≤ 1048576) :
    Calls Tryz.prog 97 #[.string s] w fun e w' => e = .returned (.tuple #[valU (rdU s), .bool (rdO s)]) ∧ Below w.heap.size w w' := by
  have HB := hideB2 (below_a1 w (.cells #[.string ⟨#[]⟩, .int .i64 0, .string ⟨#[]⟩, .string ⟨#[]⟩, .bool false] 139))
  have A0 := hideB2 (Blk.new w #[.string ⟨#[]⟩, .int .i64 0, .string ⟨#[]⟩, .string ⟨#[]⟩, .bool false] 139)
  have H1 := hideB2 (fun W => l6visible_any s W (by unfold maxLen; omega))
  have H2 := hideB2 (fun W => l6uptoS_any s 35 W (by unfold maxLen; omega))
  change Hid (∀ W, Calls _ _ #[_, .int .u8 35] W _) at H2
  by_cases hbig : (200 : Int) < (s.size : Int)
  · have e1 : rdO s = false := by unfold rdO rdA; rw [show targQ s = false by cases ht : targQ s with | false => rfl | true => have := (targQ_iff.1 ht).2.1; omega]; rfl
    have d1 := decide_eq_true hbig
    rw [rdU_no e1, e1]
    clear e1
    go_enter Tryz.func97, Tryz.ntmps97
    go_wp2
    refine bodyPost_ret (results_cellT rfl _ _ _ rfl (Blk.new w _ _) Tryz.underlying139 Tryz.infoUrl) rfl ⟨rfl, HB.out⟩
  · have d1 := decide_eq_false hbig
    by_cases h8 : (s.size : Int) < 8
    · have e1 := rdO_short (s := s) (by omega)
      have d2 := decide_eq_true h8
      rw [rdU_no e1, e1]
      clear e1
      go_enter Tryz.func97, Tryz.ntmps97
      go_wp2
      refine bodyPost_ret (results_cellT rfl _ _ _ rfl (Blk.new w _ _) Tryz.underlying139 Tryz.infoUrl) rfl ⟨rfl, HB.out⟩
    · have d2 := decide_eq_false h8
      cases hv : (decide (0 < (s.size : Int)) && allB vis8 s)
      · have e1 : rdO s = false := by unfold rdO rdA; rw [vis_no hv]; rfl
        rw [rdU_no e1, e1]
        rw [hv] at H1
        clear e1 hv
        go_enter Tryz.func97, Tryz.ntmps97
        go_wp2_with (go_at_call 123; refine (H1.out _).mono ?_; rintro e w' ⟨rfl, rfl⟩)
        refine bodyPost_ret (results_cellT rfl _ _ _ rfl (Blk.new w _ _) Tryz.underlying139 Tryz.infoUrl) rfl ⟨rfl, HB.out⟩
      · rw [hv] at H1
        have hq := vis_size hv (by omega)
        have hu := eqB_upt35 s
        cases h35 : decide (idxS 35 s < 0)
        · have e1 : rdO s = false := by unfold rdO rdA; rw [h35]; simp
          rw [rdU_no e1, e1]
          rw [h35] at hu
          clear e1 hv h35 hq
          generalize uptS 35 s = us at *
          go_enter Tryz.func97, Tryz.ntmps97
          go_wp2_with (first | (go_at_call 123; refine (H1.out _).mono ?_; rintro e w' ⟨rfl, rfl⟩) | (go_at_call 124; refine (H2.out _).mono ?_; rintro e w' ⟨rfl, rfl⟩))
          refine bodyPost_ret (results_cellT rfl _ _ _ rfl (Blk.new w _ _) Tryz.underlying139 Tryz.infoUrl) rfl ⟨rfl, HB.out⟩
        · rw [h35] at hu
          have c7 : (7 : Int) ≤ (s.size : Int) := by omega
          have h7 : 7 ≤ s.size := by omega
          have HZ7 : (s.extract 0 7).size ≤ maxLen := by rw [ByteArray.size_extract]; unfold maxLen; omega
          have H3 := hideB2 (fun W => sFold_any (s.extract 0 7) W HZ7)
          have hp7 : ((foldB (s.extract 0 7)).toList == [104, 116, 116, 112, 58, 47, 47]) = pre7 s := by rw [sch_eq]; unfold pre7; rw [decide_eq_true h7, Bool.true_and]
          clear HZ7
          cases hpre : pre7 s
          · have e1 : rdO s = false := by unfold rdO rdA; rw [hpre]; simp
            rw [rdU_no e1, e1]
            rw [hpre] at hp7
            clear e1 hv h35 hq hpre
            generalize uptS 35 s = us at *
            generalize h7x : s.extract 0 7 = x7 at *
            generalize foldB x7 = f7 at *
            go_enter Tryz.func97, Tryz.ntmps97
            go_wp2_with (first | (go_at_call 123; refine (H1.out _).mono ?_; rintro e w' ⟨rfl, rfl⟩) | (go_at_call 124; refine (H2.out _).mono ?_; rintro e w' ⟨rfl, rfl⟩) | (go_at_call 125; (try rw [h7x]); refine (H3.out _).mono ?_; rintro e w1 ⟨rfl, hb1⟩; have A1 := hideB2 (A0.out.later hb1); have HB1 := hideB2 (below_then HB.out hb1); obtain ⟨a0, a1, a2, a3, a4⟩ := A1.out.u5; obtain ⟨g0, g1, g2, g3, g4⟩ := A1.out.f5U))
            refine bodyPost_ret (results_cellT rfl _ _ _ rfl (A1.out.set5U _ _ _ _ _) Tryz.underlying139 Tryz.infoUrl) rfl ⟨rfl, ?_⟩
            exact below_set5 HB1.out (Nat.le_refl _) _ _ _ _ _
          · obtain ⟨e1, e2⟩ := rdA_yes (s := s) (by unfold rdA; rw [hq, hpre, h35]; rfl)
            generalize hU : rdU s = U at *
            generalize hO : rdO s = O at *
            have hrz : (s.extract 7 s.size).size = s.size - 7 := by rw [ByteArray.size_extract]; omega
            have HKS0 := rdK_spec (s.extract 7 s.size)
            rw [hpre] at hp7
            have HO0 := hideB2 (And.intro e1 e2)
            clear hU hO e1 e2 hv h35 hq hpre
            generalize uptS 35 s = us at *
            generalize h7x : s.extract 0 7 = x7 at *
            generalize foldB x7 = f7 at *
            generalize hrr : s.extract 7 s.size = r at *
            generalize rdK r = KK at *
            have H4 := hideB2 (fun W => l6uptoS_any r 63 W (by unfold maxLen; omega))
            change Hid (∀ W, Calls _ _ #[_, .int .u8 63] W _) at H4
            have zf := uptS_size 63 r
            unfold auU at HKS0
            generalize uptS 63 r = fr at *
            have H5 := hideB2 (fun W => l6uptoS_any fr 47 W (by unfold maxLen; omega))
            change Hid (∀ W, Calls _ _ #[_, .int .u8 47] W _) at H5
            have za := uptS_size 47 fr
            generalize uptS 47 fr = au at *
            have H6 := hideB2 (fun W => l6uptoS_any au 58 W (by unfold maxLen; omega))
            change Hid (∀ W, Calls _ _ #[_, .int .u8 58] W _) at H6
            have zh := uptS_size 58 au
            generalize uptS 58 au = ho at *
            have H7 := hideB2 (fun W => sFold_any ho W (by unfold maxLen; omega))
            have hfz := foldB_size ho
            generalize foldB ho = fo at *
            have zp : (au.extract (ho.size + 1) au.size).size ≤ au.size := by rw [ByteArray.size_extract]; omega
            have zq : (r.extract (fr.size + 1) r.size).size ≤ r.size := by rw [ByteArray.size_extract]; omega
            have zt : (fr.extract au.size fr.size).size ≤ fr.size := by rw [ByteArray.size_extract]; omega
            generalize hpo : au.extract (ho.size + 1) au.size = p at *
            generalize hqq : r.extract (fr.size + 1) r.size = q at *
            generalize hpp : fr.extract au.size fr.size = pt at *
            have HKS := hideB2 HKS0
            have HRD0 := hideB2 (fun W => sReadDec_any p W (by unfold maxLen; omega))
            have HCP := hideB2 (fun W => sCleanPath_any pt W (by unfold maxLen; omega))
            clear HKS0
            have w1n : IntKind.i64.wrap ((ho.size : Int) + 1) = (ho.size : Int) + 1 := by rw [IntKind.wrap_i64]; omega
            have w2n : IntKind.i64.wrap ((fr.size : Int) + 1) = (fr.size : Int) + 1 := by rw [IntKind.wrap_i64]; omega
            have b1 : (0 : Int) ≤ (ho.size : Int) + 1 := by omega
            have b2 : (0 : Int) ≤ (fr.size : Int) + 1 := by omega
            have b3 : (0 : Int) ≤ (au.size : Int) := by omega
            have b4 : (au.size : Int) ≤ (fr.size : Int) := by omega
            have hr9 : r.size ≤ 1048576 := by omega
            clear hrz
            go_enter Tryz.func97, Tryz.ntmps97
            go_wp2_with fail
            refine (H1.out _).mono ?_
            rintro e wx ⟨rfl, rfl⟩
            go_wp2_with fail
            refine (H2.out _).mono ?_
            rintro e wy ⟨rfl, rfl⟩
            go_wp2_with fail
            (try rw [h7x])
            refine (H3.out _).mono ?_
            rintro e w1 ⟨rfl, hb1⟩
            go_wp2_with fail
            (try rw [hrr])
            refine (H4.out _).mono ?_
            rintro e wa ⟨rfl, rfl⟩
            go_wp2_with fail
            refine (H5.out _).mono ?_
            rintro e wb ⟨rfl, rfl⟩
            go_wp2_with fail
            refine (H6.out _).mono ?_
            rintro e wc ⟨rfl, rfl⟩
            go_wp2_with fail
            refine (H7.out _).mono ?_
            rintro e w2 ⟨rfl, hb2⟩
            have A2 := hideB2 ((A0.out.later hb1).later hb2)
            have HB2 := hideB2 (below_then (below_then HB.out hb1) hb2)
            have hlt := A2.out.lt
            clear hb1 hb2 HB A0 H1 H2 H3 H4 H5 H6 H7
            have hne : w2.heap.size ≠ w.heap.size := by omega
            have hge : w.heap.size ≤ w2.heap.size := by omega
            by_cases htold : ho.size < au.size
            · have htold1 : (ho.size : Int) < (au.size : Int) := by omega
              have b5 : (ho.size : Int) + 1 ≤ (au.size : Int) := by omega
              cases hok : rdecOk p
              · have hn0 : rdecN p = 0 := by
                  unfold rdecOk at hok
                  unfold rdecN
                  cases hr : rdec p with
                  | none => rfl
                  | some x => rw [hr] at hok; cases hok
                have HRD := HRD0
                rw [hok] at HRD
                have HUO2 := hideB2 (show O = false ∧ U = ur0 by
                  obtain ⟨h1, h2⟩ := HO0.out
                  have : urQ KK = false := urQ_port (by rw [HKS.out]; simp only []; rw [if_pos htold, hn0])
                  rw [this] at h1 h2
                  exact ⟨h1, h2⟩)
                clear hok hn0 HRD0
                generalize rdecN p = n at *
                go_wp2_with fail
                (try rw [hpo])
                refine (HRD.out _).mono ?_
                rintro e w3 ⟨rfl, hb3⟩
                have A3 := hideB2 ((A2.out.alloc (.cells #[.string fo, .int .i64 80, .string ⟨#[47]⟩, .string ⟨#[]⟩, .bool false] 139)).later hb3)
                have HB3 := hideB2 (below_then (below_then HB2.out (below_a1 w2 (.cells #[.string fo, .int .i64 80, .string ⟨#[47]⟩, .string ⟨#[]⟩, .bool false] 139))) hb3)
                clear hb3
                obtain ⟨a0, a1, a2, a3, a4⟩ := A3.out.u5
                obtain ⟨g0, g1, g2, g3, g4⟩ := A3.out.f5U
                have HF := hideB2 (show Ending.returned (.tuple #[.agg #[.string ⟨#[]⟩, .int .i64 0, .string ⟨#[]⟩, .string ⟨#[]⟩, .bool false], .bool false]) = .returned (.tuple #[valU U, .bool O]) by obtain ⟨h1, h2⟩ := HUO2.out; rw [h1, h2]; rfl)
                go_wp2
                refine bodyPost_ret (results_cellT rfl _ _ _ rfl (A3.out.set5U _ _ _ _ _) Tryz.underlying139 Tryz.infoUrl) rfl ⟨?_, ?_⟩
                · exact HF.out
                exact below_set5 HB3.out (Nat.le_refl _) _ _ _ _ _
              · have HRD := HRD0
                rw [hok] at HRD
                clear hok HRD0
                by_cases hpath : au.size < fr.size
                · have hpath1 : (au.size : Int) < (fr.size : Int) := by omega
                  by_cases hquery : fr.size < r.size
                  · have hquery1 : (fr.size : Int) < (r.size : Int) := by omega
                    have HK := hideB2 (show KK = ⟨fo, clnB pt, q, rdecN p, true⟩ by rw [HKS.out, if_pos hpath, if_pos hquery, if_pos htold, decide_eq_true hquery])
                    have HUO := hideB2 (fun W => sUrlOk_any fo (clnB pt) q (rdecN p) true W (by omega) (by have := clnB_size pt; omega) (by omega))
                    have HUO2 := hideB2 (show O = urQ KK ∧ U = if urQ KK = true then KK else ur0 from HO0.out)
                    change Hid (∀ W, Calls _ _ _ W fun e w' => e = .returned (.bool (urQ ⟨fo, clnB pt, q, rdecN p, true⟩)) ∧ Below W.heap.size W w') at HUO
                    rw [← HK.out] at HUO
                    generalize urQ KK = okv at *
                    generalize hcp : clnB pt = cp at *
                    clear hcp
                    generalize hnn : rdecN p = n at *
                    clear hnn
                    go_wp2_with fail
                    (try rw [hpo])
                    refine (HRD.out _).mono ?_
                    rintro e w3 ⟨rfl, hb3⟩
                    have B3 := hideB2 ((Blk.new w2 #[.string fo, .int .i64 80, .string ⟨#[47]⟩, .string ⟨#[]⟩, .bool false] 139).later hb3)
                    have A3 := hideB2 ((A2.out.alloc (.cells #[.string fo, .int .i64 80, .string ⟨#[47]⟩, .string ⟨#[]⟩, .bool false] 139)).later hb3)
                    have HB3 := hideB2 (below_then (below_then HB2.out (below_a1 w2 (.cells #[.string fo, .int .i64 80, .string ⟨#[47]⟩, .string ⟨#[]⟩, .bool false] 139))) hb3)
                    clear hb3
                    obtain ⟨p0, p1, p2, p3, p4⟩ := B3.out.u5
                    obtain ⟨f0, f1, f2, f3, f4⟩ := B3.out.f5U
                    go_wp2_with (first | (go_at_call 126; fail) | fail)
                    (try rw [hpp])
                    refine (HCP.out _).mono ?_
                    rintro e w4 ⟨rfl, hb4⟩
                    have B4 : Hid (Blk w4 w2.heap.size #[.string fo, .int .i64 n, .string ⟨#[47]⟩, .string ⟨#[]⟩, .bool false] 139) := hideB2 ((B3.out.set 1 _).later hb4)
                    have A4 : Hid (Blk w4 w.heap.size #[.string ⟨#[]⟩, .int .i64 0, .string ⟨#[]⟩, .string ⟨#[]⟩, .bool false] 139) := hideB2 ((A3.out.other hne 1 _).later hb4)
                    have HB4 := hideB2 (below_then (HB3.out.setCell (p := ⟨w2.heap.size, 1, none⟩) hge _) hb4)
                    clear p0 p1 p2 p3 p4 f0 f1 f2 f3 f4 B3 A3 HB3
                    clear hb4
                    obtain ⟨p0, p1, p2, p3, p4⟩ := B4.out.u5
                    obtain ⟨f0, f1, f2, f3, f4⟩ := B4.out.f5U
                    go_wp2_with fail
                    (try rw [hqq])
                    refine (HUO.out _).mono ?_
                    rintro e w5 ⟨rfl, hb5⟩
                    have B5 : Hid (Blk w5 w2.heap.size #[.string fo, .int .i64 n, .string cp, .string q, .bool true] 139) := hideB2 ((((B4.out.set 2 _).set 4 _).set 3 _).later hb5)
                    have A5 : Hid (Blk w5 w.heap.size #[.string ⟨#[]⟩, .int .i64 0, .string ⟨#[]⟩, .string ⟨#[]⟩, .bool false] 139) := hideB2 ((((A4.out.other hne 2 _).other hne 4 _).other hne 3 _).later hb5)
                    have HB5 := hideB2 (below_then (((HB4.out.setCell (p := ⟨w2.heap.size, 2, none⟩) hge _).setCell (p := ⟨w2.heap.size, 4, none⟩) hge _).setCell (p := ⟨w2.heap.size, 3, none⟩) hge _) hb5)
                    clear p0 p1 p2 p3 p4 f0 f1 f2 f3 f4 B4 A4 HB4
                    clear hb5
                    obtain ⟨p0, p1, p2, p3, p4⟩ := B5.out.u5
                    obtain ⟨a0, a1, a2, a3, a4⟩ := A5.out.u5
                    obtain ⟨g0, g1, g2, g3, g4⟩ := A5.out.f5U
                    clear B5 HUO
                    cases okv
                    · have HF := hideB2 (show Ending.returned (.tuple #[.agg #[.string ⟨#[]⟩, .int .i64 0, .string ⟨#[]⟩, .string ⟨#[]⟩, .bool false], .bool false]) = .returned (.tuple #[valU U, .bool O]) by obtain ⟨h1, h2⟩ := HUO2.out; rw [h1, h2]; rfl)
                      go_wp2
                      refine bodyPost_ret (results_cellT rfl _ _ _ rfl (A5.out.set5U _ _ _ _ _) Tryz.underlying139 Tryz.infoUrl) rfl ⟨?_, ?_⟩
                      · exact HF.out
                      exact below_set5 HB5.out (Nat.le_refl _) _ _ _ _ _
                    · have HF := hideB2 (show Ending.returned (.tuple #[.agg #[.string fo, .int .i64 n, .string cp, .string q, .bool true], .bool true]) = .returned (.tuple #[valU U, .bool O]) by obtain ⟨h1, h2⟩ := HUO2.out; rw [h1, h2, HK.out]; rfl)
                      go_wp2
                      refine bodyPost_ret (results_cellT rfl _ _ _ rfl (A5.out.set5U _ _ _ _ _) Tryz.underlying139 Tryz.infoUrl) rfl ⟨?_, ?_⟩
                      · exact HF.out
                      exact below_set5 HB5.out (Nat.le_refl _) _ _ _ _ _
                  · have hquery1 : ¬ (fr.size : Int) < (r.size : Int) := by omega
                    have HK := hideB2 (show KK = ⟨fo, clnB pt, ⟨#[]⟩, rdecN p, false⟩ by rw [HKS.out, if_pos hpath, if_neg hquery, if_pos htold, decide_eq_false hquery])
                    have HUO := hideB2 (fun W => sUrlOk_any fo (clnB pt) ⟨#[]⟩ (rdecN p) false W (by omega) (by have := clnB_size pt; omega) (by decide))
                    have HUO2 := hideB2 (show O = urQ KK ∧ U = if urQ KK = true then KK else ur0 from HO0.out)
                    change Hid (∀ W, Calls _ _ _ W fun e w' => e = .returned (.bool (urQ ⟨fo, clnB pt, ⟨#[]⟩, rdecN p, false⟩)) ∧ Below W.heap.size W w') at HUO
                    rw [← HK.out] at HUO
                    generalize urQ KK = okv at *
                    generalize hcp : clnB pt = cp at *
                    clear hcp
                    generalize hnn : rdecN p = n at *
                    clear hnn
                    go_wp2_with fail
                    (try rw [hpo])
                    refine (HRD.out _).mono ?_
                    rintro e w3 ⟨rfl, hb3⟩
                    have B3 := hideB2 ((Blk.new w2 #[.string fo, .int .i64 80, .string ⟨#[47]⟩, .string ⟨#[]⟩, .bool false] 139).later hb3)
                    have A3 := hideB2 ((A2.out.alloc (.cells #[.string fo, .int .i64 80, .string ⟨#[47]⟩, .string ⟨#[]⟩, .bool false] 139)).later hb3)
                    have HB3 := hideB2 (below_then (below_then HB2.out (below_a1 w2 (.cells #[.string fo, .int .i64 80, .string ⟨#[47]⟩, .string ⟨#[]⟩, .bool false] 139))) hb3)
                    clear hb3
                    obtain ⟨p0, p1, p2, p3, p4⟩ := B3.out.u5
                    obtain ⟨f0, f1, f2, f3, f4⟩ := B3.out.f5U
                    go_wp2_with (first | (go_at_call 126; fail) | fail)
                    (try rw [hpp])
                    refine (HCP.out _).mono ?_
                    rintro e w4 ⟨rfl, hb4⟩
                    have B4 : Hid (Blk w4 w2.heap.size #[.string fo, .int .i64 n, .string ⟨#[47]⟩, .string ⟨#[]⟩, .bool false] 139) := hideB2 ((B3.out.set 1 _).later hb4)
                    have A4 : Hid (Blk w4 w.heap.size #[.string ⟨#[]⟩, .int .i64 0, .string ⟨#[]⟩, .string ⟨#[]⟩, .bool false] 139) := hideB2 ((A3.out.other hne 1 _).later hb4)
                    have HB4 := hideB2 (below_then (HB3.out.setCell (p := ⟨w2.heap.size, 1, none⟩) hge _) hb4)
                    clear p0 p1 p2 p3 p4 f0 f1 f2 f3 f4 B3 A3 HB3
                    clear hb4
                    obtain ⟨p0, p1, p2, p3, p4⟩ := B4.out.u5
                    obtain ⟨f0, f1, f2, f3, f4⟩ := B4.out.f5U
                    go_wp2_with fail
                    (try rw [hqq])
                    refine (HUO.out _).mono ?_
                    rintro e w5 ⟨rfl, hb5⟩
                    have B5 : Hid (Blk w5 w2.heap.size #[.string fo, .int .i64 n, .string cp, .string ⟨#[]⟩, .bool false] 139) := hideB2 ((B4.out.set 2 _).later hb5)
                    have A5 : Hid (Blk w5 w.heap.size #[.string ⟨#[]⟩, .int .i64 0, .string ⟨#[]⟩, .string ⟨#[]⟩, .bool false] 139) := hideB2 ((A4.out.other hne 2 _).later hb5)
                    have HB5 := hideB2 (below_then (HB4.out.setCell (p := ⟨w2.heap.size, 2, none⟩) hge _) hb5)
                    clear p0 p1 p2 p3 p4 f0 f1 f2 f3 f4 B4 A4 HB4
                    clear hb5
                    obtain ⟨p0, p1, p2, p3, p4⟩ := B5.out.u5
                    obtain ⟨a0, a1, a2, a3, a4⟩ := A5.out.u5
                    obtain ⟨g0, g1, g2, g3, g4⟩ := A5.out.f5U
                    clear B5 HUO
                    cases okv
                    · have HF := hideB2 (show Ending.returned (.tuple #[.agg #[.string ⟨#[]⟩, .int .i64 0, .string ⟨#[]⟩, .string ⟨#[]⟩, .bool false], .bool false]) = .returned (.tuple #[valU U, .bool O]) by obtain ⟨h1, h2⟩ := HUO2.out; rw [h1, h2]; rfl)
                      go_wp2
                      refine bodyPost_ret (results_cellT rfl _ _ _ rfl (A5.out.set5U _ _ _ _ _) Tryz.underlying139 Tryz.infoUrl) rfl ⟨?_, ?_⟩
                      · exact HF.out
                      exact below_set5 HB5.out (Nat.le_refl _) _ _ _ _ _
                    · have HF := hideB2 (show Ending.returned (.tuple #[.agg #[.string fo, .int .i64 n, .string cp, .string ⟨#[]⟩, .bool false], .bool true]) = .returned (.tuple #[valU U, .bool O]) by obtain ⟨h1, h2⟩ := HUO2.out; rw [h1, h2, HK.out]; rfl)
                      go_wp2
                      refine bodyPost_ret (results_cellT rfl _ _ _ rfl (A5.out.set5U _ _ _ _ _) Tryz.underlying139 Tryz.infoUrl) rfl ⟨?_, ?_⟩
                      · exact HF.out
                      exact below_set5 HB5.out (Nat.le_refl _) _ _ _ _ _
                · have hpath1 : ¬ (au.size : Int) < (fr.size : Int) := by omega
                  by_cases hquery : fr.size < r.size
                  · have hquery1 : (fr.size : Int) < (r.size : Int) := by omega
                    have HK := hideB2 (show KK = ⟨fo, rootB, q, rdecN p, true⟩ by rw [HKS.out, if_neg hpath, if_pos hquery, if_pos htold, decide_eq_true hquery])
                    have HUO := hideB2 (fun W => sUrlOk_any fo ⟨#[47]⟩ q (rdecN p) true W (by omega) (by decide) (by omega))
                    have HUO2 := hideB2 (show O = urQ KK ∧ U = if urQ KK = true then KK else ur0 from HO0.out)
                    change Hid (∀ W, Calls _ _ _ W fun e w' => e = .returned (.bool (urQ ⟨fo, rootB, q, rdecN p, true⟩)) ∧ Below W.heap.size W w') at HUO
                    rw [← HK.out] at HUO
                    generalize urQ KK = okv at *
                    generalize hnn : rdecN p = n at *
                    clear hnn
                    go_wp2_with fail
                    (try rw [hpo])
                    refine (HRD.out _).mono ?_
                    rintro e w3 ⟨rfl, hb3⟩
                    have B3 := hideB2 ((Blk.new w2 #[.string fo, .int .i64 80, .string ⟨#[47]⟩, .string ⟨#[]⟩, .bool false] 139).later hb3)
                    have A3 := hideB2 ((A2.out.alloc (.cells #[.string fo, .int .i64 80, .string ⟨#[47]⟩, .string ⟨#[]⟩, .bool false] 139)).later hb3)
                    have HB3 := hideB2 (below_then (below_then HB2.out (below_a1 w2 (.cells #[.string fo, .int .i64 80, .string ⟨#[47]⟩, .string ⟨#[]⟩, .bool false] 139))) hb3)
                    clear hb3
                    obtain ⟨p0, p1, p2, p3, p4⟩ := B3.out.u5
                    obtain ⟨f0, f1, f2, f3, f4⟩ := B3.out.f5U
                    go_wp2_with fail
                    (try rw [hqq])
                    refine (HUO.out _).mono ?_
                    rintro e w5 ⟨rfl, hb5⟩
                    have B5 : Hid (Blk w5 w2.heap.size #[.string fo, .int .i64 n, .string ⟨#[47]⟩, .string q, .bool true] 139) := hideB2 ((((B3.out.set 1 _).set 4 _).set 3 _).later hb5)
                    have A5 : Hid (Blk w5 w.heap.size #[.string ⟨#[]⟩, .int .i64 0, .string ⟨#[]⟩, .string ⟨#[]⟩, .bool false] 139) := hideB2 ((((A3.out.other hne 1 _).other hne 4 _).other hne 3 _).later hb5)
                    have HB5 := hideB2 (below_then (((HB3.out.setCell (p := ⟨w2.heap.size, 1, none⟩) hge _).setCell (p := ⟨w2.heap.size, 4, none⟩) hge _).setCell (p := ⟨w2.heap.size, 3, none⟩) hge _) hb5)
                    clear p0 p1 p2 p3 p4 f0 f1 f2 f3 f4 B3 A3 HB3
                    clear hb5
                    obtain ⟨p0, p1, p2, p3, p4⟩ := B5.out.u5
                    obtain ⟨a0, a1, a2, a3, a4⟩ := A5.out.u5
                    obtain ⟨g0, g1, g2, g3, g4⟩ := A5.out.f5U
                    clear B5 HUO
                    cases okv
                    · have HF := hideB2 (show Ending.returned (.tuple #[.agg #[.string ⟨#[]⟩, .int .i64 0, .string ⟨#[]⟩, .string ⟨#[]⟩, .bool false], .bool false]) = .returned (.tuple #[valU U, .bool O]) by obtain ⟨h1, h2⟩ := HUO2.out; rw [h1, h2]; rfl)
                      go_wp2
                      refine bodyPost_ret (results_cellT rfl _ _ _ rfl (A5.out.set5U _ _ _ _ _) Tryz.underlying139 Tryz.infoUrl) rfl ⟨?_, ?_⟩
                      · exact HF.out
                      exact below_set5 HB5.out (Nat.le_refl _) _ _ _ _ _
                    · have HF := hideB2 (show Ending.returned (.tuple #[.agg #[.string fo, .int .i64 n, .string ⟨#[47]⟩, .string q, .bool true], .bool true]) = .returned (.tuple #[valU U, .bool O]) by obtain ⟨h1, h2⟩ := HUO2.out; rw [h1, h2, HK.out]; rfl)
                      go_wp2
                      refine bodyPost_ret (results_cellT rfl _ _ _ rfl (A5.out.set5U _ _ _ _ _) Tryz.underlying139 Tryz.infoUrl) rfl ⟨?_, ?_⟩
                      · exact HF.out
                      exact below_set5 HB5.out (Nat.le_refl _) _ _ _ _ _
                  · have hquery1 : ¬ (fr.size : Int) < (r.size : Int) := by omega
                    have HK := hideB2 (show KK = ⟨fo, rootB, ⟨#[]⟩, rdecN p, false⟩ by rw [HKS.out, if_neg hpath, if_neg hquery, if_pos htold, decide_eq_false hquery])
                    have HUO := hideB2 (fun W => sUrlOk_any fo ⟨#[47]⟩ ⟨#[]⟩ (rdecN p) false W (by omega) (by decide) (by decide))
                    have HUO2 := hideB2 (show O = urQ KK ∧ U = if urQ KK = true then KK else ur0 from HO0.out)
                    change Hid (∀ W, Calls _ _ _ W fun e w' => e = .returned (.bool (urQ ⟨fo, rootB, ⟨#[]⟩, rdecN p, false⟩)) ∧ Below W.heap.size W w') at HUO
                    rw [← HK.out] at HUO
                    generalize urQ KK = okv at *
                    generalize hnn : rdecN p = n at *
                    clear hnn
                    go_wp2_with fail
                    (try rw [hpo])
                    refine (HRD.out _).mono ?_
                    rintro e w3 ⟨rfl, hb3⟩
                    have B3 := hideB2 ((Blk.new w2 #[.string fo, .int .i64 80, .string ⟨#[47]⟩, .string ⟨#[]⟩, .bool false] 139).later hb3)
                    have A3 := hideB2 ((A2.out.alloc (.cells #[.string fo, .int .i64 80, .string ⟨#[47]⟩, .string ⟨#[]⟩, .bool false] 139)).later hb3)
                    have HB3 := hideB2 (below_then (below_then HB2.out (below_a1 w2 (.cells #[.string fo, .int .i64 80, .string ⟨#[47]⟩, .string ⟨#[]⟩, .bool false] 139))) hb3)
                    clear hb3
                    obtain ⟨p0, p1, p2, p3, p4⟩ := B3.out.u5
                    obtain ⟨f0, f1, f2, f3, f4⟩ := B3.out.f5U
                    go_wp2_with fail
                    (try rw [hqq])
                    refine (HUO.out _).mono ?_
                    rintro e w5 ⟨rfl, hb5⟩
                    have B5 : Hid (Blk w5 w2.heap.size #[.string fo, .int .i64 n, .string ⟨#[47]⟩, .string ⟨#[]⟩, .bool false] 139) := hideB2 ((B3.out.set 1 _).later hb5)
                    have A5 : Hid (Blk w5 w.heap.size #[.string ⟨#[]⟩, .int .i64 0, .string ⟨#[]⟩, .string ⟨#[]⟩, .bool false] 139) := hideB2 ((A3.out.other hne 1 _).later hb5)
                    have HB5 := hideB2 (below_then (HB3.out.setCell (p := ⟨w2.heap.size, 1, none⟩) hge _) hb5)
                    clear p0 p1 p2 p3 p4 f0 f1 f2 f3 f4 B3 A3 HB3
                    clear hb5
                    obtain ⟨p0, p1, p2, p3, p4⟩ := B5.out.u5
                    obtain ⟨a0, a1, a2, a3, a4⟩ := A5.out.u5
                    obtain ⟨g0, g1, g2, g3, g4⟩ := A5.out.f5U
                    clear B5 HUO
                    cases okv
                    · have HF := hideB2 (show Ending.returned (.tuple #[.agg #[.string ⟨#[]⟩, .int .i64 0, .string ⟨#[]⟩, .string ⟨#[]⟩, .bool false], .bool false]) = .returned (.tuple #[valU U, .bool O]) by obtain ⟨h1, h2⟩ := HUO2.out; rw [h1, h2]; rfl)
                      go_wp2
                      refine bodyPost_ret (results_cellT rfl _ _ _ rfl (A5.out.set5U _ _ _ _ _) Tryz.underlying139 Tryz.infoUrl) rfl ⟨?_, ?_⟩
                      · exact HF.out
                      exact below_set5 HB5.out (Nat.le_refl _) _ _ _ _ _
                    · have HF := hideB2 (show Ending.returned (.tuple #[.agg #[.string fo, .int .i64 n, .string ⟨#[47]⟩, .string ⟨#[]⟩, .bool false], .bool true]) = .returned (.tuple #[valU U, .bool O]) by obtain ⟨h1, h2⟩ := HUO2.out; rw [h1, h2, HK.out]; rfl)
                      go_wp2
                      refine bodyPost_ret (results_cellT rfl _ _ _ rfl (A5.out.set5U _ _ _ _ _) Tryz.underlying139 Tryz.infoUrl) rfl ⟨?_, ?_⟩
                      · exact HF.out
                      exact below_set5 HB5.out (Nat.le_refl _) _ _ _ _ _
            · have htold1 : ¬ (ho.size : Int) < (au.size : Int) := by omega
              by_cases hpath : au.size < fr.size
              · have hpath1 : (au.size : Int) < (fr.size : Int) := by omega
                by_cases hquery : fr.size < r.size
                · have hquery1 : (fr.size : Int) < (r.size : Int) := by omega
                  have HK := hideB2 (show KK = ⟨fo, clnB pt, q, 80, true⟩ by rw [HKS.out, if_pos hpath, if_pos hquery, if_neg htold, decide_eq_true hquery])
                  have HUO := hideB2 (fun W => sUrlOk_any fo (clnB pt) q (80) true W (by omega) (by have := clnB_size pt; omega) (by omega))
                  have HUO2 := hideB2 (show O = urQ KK ∧ U = if urQ KK = true then KK else ur0 from HO0.out)
                  change Hid (∀ W, Calls _ _ _ W fun e w' => e = .returned (.bool (urQ ⟨fo, clnB pt, q, 80, true⟩)) ∧ Below W.heap.size W w') at HUO
                  rw [← HK.out] at HUO
                  generalize urQ KK = okv at *
                  generalize hcp : clnB pt = cp at *
                  clear hcp
                  go_wp2_with (first | (go_at_call 126; fail) | fail)
                  (try rw [hpp])
                  refine (HCP.out _).mono ?_
                  rintro e w4 ⟨rfl, hb4⟩
                  have B4 := hideB2 ((Blk.new w2 #[.string fo, .int .i64 80, .string ⟨#[47]⟩, .string ⟨#[]⟩, .bool false] 139).later hb4)
                  have A4 := hideB2 ((A2.out.alloc (.cells #[.string fo, .int .i64 80, .string ⟨#[47]⟩, .string ⟨#[]⟩, .bool false] 139)).later hb4)
                  have HB4 := hideB2 (below_then (below_then HB2.out (below_a1 w2 (.cells #[.string fo, .int .i64 80, .string ⟨#[47]⟩, .string ⟨#[]⟩, .bool false] 139))) hb4)
                  clear hb4
                  obtain ⟨p0, p1, p2, p3, p4⟩ := B4.out.u5
                  obtain ⟨f0, f1, f2, f3, f4⟩ := B4.out.f5U
                  go_wp2_with fail
                  (try rw [hqq])
                  refine (HUO.out _).mono ?_
                  rintro e w5 ⟨rfl, hb5⟩
                  have B5 : Hid (Blk w5 w2.heap.size #[.string fo, .int .i64 80, .string cp, .string q, .bool true] 139) := hideB2 ((((B4.out.set 2 _).set 4 _).set 3 _).later hb5)
                  have A5 : Hid (Blk w5 w.heap.size #[.string ⟨#[]⟩, .int .i64 0, .string ⟨#[]⟩, .string ⟨#[]⟩, .bool false] 139) := hideB2 ((((A4.out.other hne 2 _).other hne 4 _).other hne 3 _).later hb5)
                  have HB5 := hideB2 (below_then (((HB4.out.setCell (p := ⟨w2.heap.size, 2, none⟩) hge _).setCell (p := ⟨w2.heap.size, 4, none⟩) hge _).setCell (p := ⟨w2.heap.size, 3, none⟩) hge _) hb5)
                  clear p0 p1 p2 p3 p4 f0 f1 f2 f3 f4 B4 A4 HB4
                  clear hb5
                  obtain ⟨p0, p1, p2, p3, p4⟩ := B5.out.u5
                  obtain ⟨a0, a1, a2, a3, a4⟩ := A5.out.u5
                  obtain ⟨g0, g1, g2, g3, g4⟩ := A5.out.f5U
                  clear B5 HUO
                  cases okv
                  · have HF := hideB2 (show Ending.returned (.tuple #[.agg #[.string ⟨#[]⟩, .int .i64 0, .string ⟨#[]⟩, .string ⟨#[]⟩, .bool false], .bool false]) = .returned (.tuple #[valU U, .bool O]) by obtain ⟨h1, h2⟩ := HUO2.out; rw [h1, h2]; rfl)
                    go_wp2
                    refine bodyPost_ret (results_cellT rfl _ _ _ rfl (A5.out.set5U _ _ _ _ _) Tryz.underlying139 Tryz.infoUrl) rfl ⟨?_, ?_⟩
                    · exact HF.out
                    exact below_set5 HB5.out (Nat.le_refl _) _ _ _ _ _
                  · have HF := hideB2 (show Ending.returned (.tuple #[.agg #[.string fo, .int .i64 80, .string cp, .string q, .bool true], .bool true]) = .returned (.tuple #[valU U, .bool O]) by obtain ⟨h1, h2⟩ := HUO2.out; rw [h1, h2, HK.out]; rfl)
                    go_wp2
                    refine bodyPost_ret (results_cellT rfl _ _ _ rfl (A5.out.set5U _ _ _ _ _) Tryz.underlying139 Tryz.infoUrl) rfl ⟨?_, ?_⟩
                    · exact HF.out
                    exact below_set5 HB5.out (Nat.le_refl _) _ _ _ _ _
                · have hquery1 : ¬ (fr.size : Int) < (r.size : Int) := by omega
                  have HK := hideB2 (show KK = ⟨fo, clnB pt, ⟨#[]⟩, 80, false⟩ by rw [HKS.out, if_pos hpath, if_neg hquery, if_neg htold, decide_eq_false hquery])
                  have HUO := hideB2 (fun W => sUrlOk_any fo (clnB pt) ⟨#[]⟩ (80) false W (by omega) (by have := clnB_size pt; omega) (by decide))
                  have HUO2 := hideB2 (show O = urQ KK ∧ U = if urQ KK = true then KK else ur0 from HO0.out)
                  change Hid (∀ W, Calls _ _ _ W fun e w' => e = .returned (.bool (urQ ⟨fo, clnB pt, ⟨#[]⟩, 80, false⟩)) ∧ Below W.heap.size W w') at HUO
                  rw [← HK.out] at HUO
                  generalize urQ KK = okv at *
                  generalize hcp : clnB pt = cp at *
                  clear hcp
                  go_wp2_with (first | (go_at_call 126; fail) | fail)
                  (try rw [hpp])
                  refine (HCP.out _).mono ?_
                  rintro e w4 ⟨rfl, hb4⟩
                  have B4 := hideB2 ((Blk.new w2 #[.string fo, .int .i64 80, .string ⟨#[47]⟩, .string ⟨#[]⟩, .bool false] 139).later hb4)
                  have A4 := hideB2 ((A2.out.alloc (.cells #[.string fo, .int .i64 80, .string ⟨#[47]⟩, .string ⟨#[]⟩, .bool false] 139)).later hb4)
                  have HB4 := hideB2 (below_then (below_then HB2.out (below_a1 w2 (.cells #[.string fo, .int .i64 80, .string ⟨#[47]⟩, .string ⟨#[]⟩, .bool false] 139))) hb4)
                  clear hb4
                  obtain ⟨p0, p1, p2, p3, p4⟩ := B4.out.u5
                  obtain ⟨f0, f1, f2, f3, f4⟩ := B4.out.f5U
                  go_wp2_with fail
                  (try rw [hqq])
                  refine (HUO.out _).mono ?_
                  rintro e w5 ⟨rfl, hb5⟩
                  have B5 : Hid (Blk w5 w2.heap.size #[.string fo, .int .i64 80, .string cp, .string ⟨#[]⟩, .bool false] 139) := hideB2 ((B4.out.set 2 _).later hb5)
                  have A5 : Hid (Blk w5 w.heap.size #[.string ⟨#[]⟩, .int .i64 0, .string ⟨#[]⟩, .string ⟨#[]⟩, .bool false] 139) := hideB2 ((A4.out.other hne 2 _).later hb5)
                  have HB5 := hideB2 (below_then (HB4.out.setCell (p := ⟨w2.heap.size, 2, none⟩) hge _) hb5)
                  clear p0 p1 p2 p3 p4 f0 f1 f2 f3 f4 B4 A4 HB4
                  clear hb5
                  obtain ⟨p0, p1, p2, p3, p4⟩ := B5.out.u5
                  obtain ⟨a0, a1, a2, a3, a4⟩ := A5.out.u5
                  obtain ⟨g0, g1, g2, g3, g4⟩ := A5.out.f5U
                  clear B5 HUO
                  cases okv
                  · have HF := hideB2 (show Ending.returned (.tuple #[.agg #[.string ⟨#[]⟩, .int .i64 0, .string ⟨#[]⟩, .string ⟨#[]⟩, .bool false], .bool false]) = .returned (.tuple #[valU U, .bool O]) by obtain ⟨h1, h2⟩ := HUO2.out; rw [h1, h2]; rfl)
                    go_wp2
                    refine bodyPost_ret (results_cellT rfl _ _ _ rfl (A5.out.set5U _ _ _ _ _) Tryz.underlying139 Tryz.infoUrl) rfl ⟨?_, ?_⟩
                    · exact HF.out
                    exact below_set5 HB5.out (Nat.le_refl _) _ _ _ _ _
                  · have HF := hideB2 (show Ending.returned (.tuple #[.agg #[.string fo, .int .i64 80, .string cp, .string ⟨#[]⟩, .bool false], .bool true]) = .returned (.tuple #[valU U, .bool O]) by obtain ⟨h1, h2⟩ := HUO2.out; rw [h1, h2, HK.out]; rfl)
                    go_wp2
                    refine bodyPost_ret (results_cellT rfl _ _ _ rfl (A5.out.set5U _ _ _ _ _) Tryz.underlying139 Tryz.infoUrl) rfl ⟨?_, ?_⟩
                    · exact HF.out
                    exact below_set5 HB5.out (Nat.le_refl _) _ _ _ _ _
              · have hpath1 : ¬ (au.size : Int) < (fr.size : Int) := by omega
                by_cases hquery : fr.size < r.size
                · have hquery1 : (fr.size : Int) < (r.size : Int) := by omega
                  have HK := hideB2 (show KK = ⟨fo, rootB, q, 80, true⟩ by rw [HKS.out, if_neg hpath, if_pos hquery, if_neg htold, decide_eq_true hquery])
                  have HUO := hideB2 (fun W => sUrlOk_any fo ⟨#[47]⟩ q (80) true W (by omega) (by decide) (by omega))
                  have HUO2 := hideB2 (show O = urQ KK ∧ U = if urQ KK = true then KK else ur0 from HO0.out)
                  change Hid (∀ W, Calls _ _ _ W fun e w' => e = .returned (.bool (urQ ⟨fo, rootB, q, 80, true⟩)) ∧ Below W.heap.size W w') at HUO
                  rw [← HK.out] at HUO
                  generalize urQ KK = okv at *
                  go_wp2_with fail
                  (try rw [hqq])
                  refine (HUO.out _).mono ?_
                  rintro e w5 ⟨rfl, hb5⟩
                  have B5 := hideB2 ((Blk.new w2 #[.string fo, .int .i64 80, .string ⟨#[47]⟩, .string q, .bool true] 139).later hb5)
                  have A5 := hideB2 ((A2.out.alloc (.cells #[.string fo, .int .i64 80, .string ⟨#[47]⟩, .string q, .bool true] 139)).later hb5)
                  have HB5 := hideB2 (below_then (below_then HB2.out (below_a1 w2 (.cells #[.string fo, .int .i64 80, .string ⟨#[47]⟩, .string q, .bool true] 139))) hb5)
                  clear hb5
                  obtain ⟨p0, p1, p2, p3, p4⟩ := B5.out.u5
                  obtain ⟨a0, a1, a2, a3, a4⟩ := A5.out.u5
                  obtain ⟨g0, g1, g2, g3, g4⟩ := A5.out.f5U
                  clear B5 HUO
                  cases okv
                  · have HF := hideB2 (show Ending.returned (.tuple #[.agg #[.string ⟨#[]⟩, .int .i64 0, .string ⟨#[]⟩, .string ⟨#[]⟩, .bool false], .bool false]) = .returned (.tuple #[valU U, .bool O]) by obtain ⟨h1, h2⟩ := HUO2.out; rw [h1, h2]; rfl)
                    go_wp2
                    refine bodyPost_ret (results_cellT rfl _ _ _ rfl (A5.out.set5U _ _ _ _ _) Tryz.underlying139 Tryz.infoUrl) rfl ⟨?_, ?_⟩
                    · exact HF.out
                    exact below_set5 HB5.out (Nat.le_refl _) _ _ _ _ _
                  · have HF := hideB2 (show Ending.returned (.tuple #[.agg #[.string fo, .int .i64 80, .string ⟨#[47]⟩, .string q, .bool true], .bool true]) = .returned (.tuple #[valU U, .bool O]) by obtain ⟨h1, h2⟩ := HUO2.out; rw [h1, h2, HK.out]; rfl)
                    go_wp2
                    refine bodyPost_ret (results_cellT rfl _ _ _ rfl (A5.out.set5U _ _ _ _ _) Tryz.underlying139 Tryz.infoUrl) rfl ⟨?_, ?_⟩
                    · exact HF.out
                    exact below_set5 HB5.out (Nat.le_refl _) _ _ _ _ _
                · have hquery1 : ¬ (fr.size : Int) < (r.size : Int) := by omega
                  have HK := hideB2 (show KK = ⟨fo, rootB, ⟨#[]⟩, 80, false⟩ by rw [HKS.out, if_neg hpath, if_neg hquery, if_neg htold, decide_eq_false hquery])
                  have HUO := hideB2 (fun W => sUrlOk_any fo ⟨#[47]⟩ ⟨#[]⟩ (80) false W (by omega) (by decide) (by decide))
                  have HUO2 := hideB2 (show O = urQ KK ∧ U = if urQ KK = true then KK else ur0 from HO0.out)
                  change Hid (∀ W, Calls _ _ _ W fun e w' => e = .returned (.bool (urQ ⟨fo, rootB, ⟨#[]⟩, 80, false⟩)) ∧ Below W.heap.size W w') at HUO
                  rw [← HK.out] at HUO
                  generalize urQ KK = okv at *
                  go_wp2_with fail
                  (try rw [hqq])
                  refine (HUO.out _).mono ?_
                  rintro e w5 ⟨rfl, hb5⟩
                  have B5 := hideB2 ((Blk.new w2 #[.string fo, .int .i64 80, .string ⟨#[47]⟩, .string ⟨#[]⟩, .bool false] 139).later hb5)
                  have A5 := hideB2 ((A2.out.alloc (.cells #[.string fo, .int .i64 80, .string ⟨#[47]⟩, .string ⟨#[]⟩, .bool false] 139)).later hb5)
                  have HB5 := hideB2 (below_then (below_then HB2.out (below_a1 w2 (.cells #[.string fo, .int .i64 80, .string ⟨#[47]⟩, .string ⟨#[]⟩, .bool false] 139))) hb5)
                  clear hb5
                  obtain ⟨p0, p1, p2, p3, p4⟩ := B5.out.u5
                  obtain ⟨a0, a1, a2, a3, a4⟩ := A5.out.u5
                  obtain ⟨g0, g1, g2, g3, g4⟩ := A5.out.f5U
                  clear B5 HUO
                  cases okv
                  · have HF := hideB2 (show Ending.returned (.tuple #[.agg #[.string ⟨#[]⟩, .int .i64 0, .string ⟨#[]⟩, .string ⟨#[]⟩, .bool false], .bool false]) = .returned (.tuple #[valU U, .bool O]) by obtain ⟨h1, h2⟩ := HUO2.out; rw [h1, h2]; rfl)
                    go_wp2
                    refine bodyPost_ret (results_cellT rfl _ _ _ rfl (A5.out.set5U _ _ _ _ _) Tryz.underlying139 Tryz.infoUrl) rfl ⟨?_, ?_⟩
                    · exact HF.out
                    exact below_set5 HB5.out (Nat.le_refl _) _ _ _ _ _
                  · have HF := hideB2 (show Ending.returned (.tuple #[.agg #[.string fo, .int .i64 80, .string ⟨#[47]⟩, .string ⟨#[]⟩, .bool false], .bool true]) = .returned (.tuple #[valU U, .bool O]) by obtain ⟨h1, h2⟩ := HUO2.out; rw [h1, h2, HK.out]; rfl)
                    go_wp2
                    refine bodyPost_ret (results_cellT rfl _ _ _ rfl (A5.out.set5U _ _ _ _ _) Tryz.underlying139 Tryz.infoUrl) rfl ⟨?_, ?_⟩
                    · exact HF.out
                    exact below_set5 HB5.out (Nat.le_refl _) _ _ _ _ _
end Go.Proofs.YthdgeepedofleaaGreatDoor
namespace Go.Proofs.YthdgeepedofleaaGreatDoor
set_option linter.unusedVariables false
set_option linter.unusedSimpArgs false
open Go.RowKit
theorem rdK_ho (r : ByteArray) : (rdK r).ho = foldB (uptS 58 (auU r)) := by simp only [rdK]
theorem rdK_pa (r : ByteArray) : (rdK r).pa = clnB (if (uptS 63 (reU r)).size = 0 then rootB else uptS 63 (reU r)) := by simp only [rdK]
theorem rdK_qu (r : ByteArray) : (rdK r).qu = bhS 63 r := by simp only [rdK]
theorem rdU_sizes (s : ByteArray) : (rdU s).ho.size ≤ s.size ∧ (rdU s).pa.size ≤ 202 ∧ (rdU s).qu.size ≤ s.size := by
  have h1 := uptS_size 58 (auU (s.extract 7 s.size))
  have h2 := auU_size (s.extract 7 s.size)
  have h3 : (s.extract 7 s.size).size ≤ s.size := by rw [ByteArray.size_extract]; omega
  have h4 := bhS_size 63 (s.extract 7 s.size)
  have h5 := clnB_size (if (uptS 63 (reU (s.extract 7 s.size))).size = 0 then rootB else uptS 63 (reU (s.extract 7 s.size)))
  rw [← rdK_pa] at h5
  rw [← rdK_qu] at h4
  rw [← foldB_size, ← rdK_ho] at h1
  unfold rdU
  generalize rdK (s.extract 7 s.size) = K at *
  by_cases h : rdO s = true
  · rw [if_pos h]
    exact ⟨by omega, h5, by omega⟩
  · rw [if_neg h]
    have e : ur0.ho.size = 0 ∧ ur0.pa.size = 0 ∧ ur0.qu.size = 0 := ⟨rfl, rfl, rfl⟩
    omega
theorem ret_sbU {s t : ByteArray} {a b : Bool} (h : t = s) (h' : b = a) : Ending.returned (.tuple #[.string s, .bool a]) = .returned (.tuple #[.string t, .bool b]) := by rw [h, h']
def canB (s : ByteArray) : ByteArray := textB (rdU s).ho (rdU s).pa (rdU s).qu (rdU s).po (rdU s).hq
theorem urQ_zero : urQ ur0 = false := urQ_port rfl
theorem canB_no {s : ByteArray} (h : rdO s = false) : canB s = ⟨#[]⟩ := by
  unfold canB
  rw [rdU_no h]
  unfold textB
  rw [if_neg]
  have := urQ_zero
  unfold urQ at this
  rw [this]; simp
set_option maxHeartbeats 2000000 in
theorem Canon_any (s : ByteArray) (w : World) (hs : s.size ≤ 1048576) (htab : Tab10 w) :
    Calls Tryz.prog 103 #[.string s] w fun e w' => e = .returned (.tuple #[.string (canB s), .bool (rdO s)]) ∧ Below w.heap.size w w' := by
  have HR := hideB2 (fun W (h : Tab10 W) => ReadUrl_any s W hs h)
  have HT := hideB2 htab
  obtain ⟨z1, z2, z3⟩ := rdU_sizes s
  unfold canB
  clear htab
  generalize rdU s = u at *
  generalize rdO s = O at *
  obtain ⟨ho, pa, qu, po, hq⟩ := u
  simp only [valU] at HR
  simp only at z1 z2 z3
  have HX := hideB2 (fun W (h : Tab10 W) => UrlText_any ho pa qu po hq W h (by omega) (by omega) (by omega))
  show Calls _ _ _ _ fun e w' => e = .returned (.tuple #[.string (textB ho pa qu po hq), .bool O]) ∧ Below w.heap.size w w'
  generalize textB ho pa qu po hq = T at *
  go_enter Tryz.func103, Tryz.ntmps103
  go_wp2_with fail
  refine (HR.out _ HT.out).mono ?_
  rintro e w1 ⟨rfl, hb1⟩
  have hb1' := below_then hb1 (below_a1 w1 (.cells #[.string ho, .int .i64 po, .string pa, .string qu, .bool hq] 139))
  have HB1 := hideB2 hb1'
  clear hb1 hb1'
  go_wp2_with (go_at_call 139; refine (HX.out _ (tab_later HT.out HB1.out)).mono ?_; rintro e w2 ⟨rfl, hb2⟩)
  go_ret2
  exact ⟨rfl, below_then HB1.out hb2⟩
set_option maxHeartbeats 2000000 in
theorem sCanon_any (s : ByteArray) (w : World) (hs : s.size ≤ 1048576) :
    Calls Tryz.prog 70 #[.string s] w fun e w' => e = .returned (.tuple #[.string (canB s), .bool (rdO s)]) ∧ Below w.heap.size w w' := by
  have HR := hideB2 (fun W => sReadUrl_any s W hs)
  have HN := hideB2 (fun (h : rdO s = false) => canB_no h)
  obtain ⟨z1, z2, z3⟩ := rdU_sizes s
  have hcan : canB s = textB (rdU s).ho (rdU s).pa (rdU s).qu (rdU s).po (rdU s).hq := rfl
  generalize canB s = C at *
  generalize rdU s = u at *
  generalize rdO s = O at *
  obtain ⟨ho, pa, qu, po, hq⟩ := u
  simp only [valU] at HR
  simp only at z1 z2 z3 hcan
  have HX := hideB2 (fun W => sUrlText_any ho pa qu po hq W (by omega) (by omega) (by omega))
  rw [← hcan] at HX
  clear hcan
  cases O
  · have HF := hideB2 (HN.out rfl)
    go_enter Tryz.func70, Tryz.ntmps70
    go_wp2_with fail
    refine (HR.out _).mono ?_
    rintro e w1 ⟨rfl, hb1⟩
    have HB1 := hideB2 (below_then hb1 (below_a1 w1 (.cells #[.string ho, .int .i64 po, .string pa, .string qu, .bool hq] 139)))
    clear hb1
    go_wp2
    go_ret2
    exact ⟨ret_sbU HF.out rfl, HB1.out⟩
  · go_enter Tryz.func70, Tryz.ntmps70
    go_wp2_with fail
    refine (HR.out _).mono ?_
    rintro e w1 ⟨rfl, hb1⟩
    have HB1 := hideB2 (below_then hb1 (below_a1 w1 (.cells #[.string ho, .int .i64 po, .string pa, .string qu, .bool hq] 139)))
    clear hb1
    go_wp2_with (go_at_call 98; refine (HX.out _).mono ?_; rintro e w2 ⟨rfl, hb2⟩)
    go_ret2
    exact ⟨rfl, below_then HB1.out hb2⟩
end Go.Proofs.YthdgeepedofleaaGreatDoor
namespace Go.Proofs.YthdgeepedofleaaGreatDoor
set_option linter.unusedVariables false
set_option linter.unusedSimpArgs false
open Go.RowKit
/-- An exchange: Side, Asked, At, Url, Request, Answer. -/
structure Ex where
  si : Int
  ak : Int
  wh : Int
  ur : ByteArray
  rq : ByteArray
  an : ByteArray
def exC6 (x : Ex) : Array Value := #[.int .i64 x.si, .int .i64 x.ak, .int .i64 x.wh, .string x.ur, .string x.rq, .string x.an]
def exV (x : Ex) : Value := .agg (exC6 x)
def ZE (x : Ex) : Prop := x.ur.size ≤ maxLen ∧ x.rq.size ≤ maxLen ∧ x.an.size ≤ maxLen
def szE (x : Ex) : Nat := x.ur.size + x.rq.size + x.an.size
def headW : ByteArray := ⟨#[72, 69, 65, 68]⟩
def exT (x : Ex) : Bool := (x.si == 0 || x.si == 1) && (timeB x.ak && timeB x.wh && decide (x.ak ≤ x.wh))
/-- The request as it is read, and whether it is one for that address. -/
def rrX (x : Ex) : Mg × Bool :=
  match msX false false x.rq with
  | .error _ => (mg0, false)
  | .ok q => (q, rdO q.ta && eqB (canB q.ta) x.ur)
/-- The answer as it is read, and whether it is in its one form. -/
def raX (x : Ex) (me : ByteArray) : Mg × Bool :=
  match msX true (eqB me headW) x.an with
  | .error _ => (mg0, false)
  | .ok a => (a, eqB (wmsgB a) x.an)
theorem rr_err {x : Ex} {c : Int} (h : msX false false x.rq = .error c) : rrX x = (mg0, false) := by unfold rrX; rw [h]
theorem rr_ok {x : Ex} {q : Mg} (h : msX false false x.rq = .ok q) : rrX x = (q, rdO q.ta && eqB (canB q.ta) x.ur) := by unfold rrX; rw [h]
theorem ra_err {x : Ex} {me : ByteArray} {c : Int} (h : msX true (eqB me headW) x.an = .error c) : raX x me = (mg0, false) := by unfold raX; rw [h]
theorem ra_ok {x : Ex} {me : ByteArray} {a : Mg} (h : msX true (eqB me headW) x.an = .ok a) : raX x me = (a, eqB (wmsgB a) x.an) := by unfold raX; rw [h]
/-- Both messages of an exchange. -/
def exX (x : Ex) : Option (Mg × Mg) := if exT x = true ∧ (rrX x).2 = true ∧ (raX x (rrX x).1.me).2 = true then some ((rrX x).1, (raX x (rrX x).1.me).1) else none
theorem exX_no1 {x : Ex} (h : exT x = false) : exX x = none := by unfold exX; rw [if_neg (by intro h1; rw [h] at h1; exact absurd h1.1 (by simp))]
theorem exX_no2 {x : Ex} (h : (rrX x).2 = false) : exX x = none := by unfold exX; rw [if_neg (by intro h1; rw [h] at h1; exact absurd h1.2.1 (by simp))]
theorem exX_no3 {x : Ex} (h : (raX x (rrX x).1.me).2 = false) : exX x = none := by unfold exX; rw [if_neg (by intro h1; rw [h] at h1; exact absurd h1.2.2 (by simp))]
theorem exX_yes {x : Ex} (h1 : exT x = true) (h2 : (rrX x).2 = true) (h3 : (raX x (rrX x).1.me).2 = true) : exX x = some ((rrX x).1, (raX x (rrX x).1.me).1) := by unfold exX; rw [if_pos ⟨h1, h2, h3⟩]
/-- What is said of a message that was read. -/
structure MgB (g : Mg) : Prop where
  me : g.me.size ≤ 20
  ta : g.ta.size ≤ 200
  re : g.re.size ≤ 40
  bo : g.bo.size ≤ 600
  fs : g.fs.length ≤ 20
  tot : totF g.fs ≤ 4600
theorem msgQ_bds {g : Mg} (h : msgQ g = true) : MgB g := by
  obtain ⟨h1, h2, h3, _⟩ := msgQ_iff.1 h
  obtain ⟨k1, k2, k3, _⟩ := kindQ_sizes h3
  obtain ⟨f1, f2⟩ := fieldsQ_bds (ownQ_iff.1 h1).1
  exact ⟨k1, k2, k3, h2, f1, f2⟩
theorem msX_bds {answer head : Bool} {s : ByteArray} {g : Mg} (h : msX answer head s = .ok g) : MgB g := by
  cases hh : hdX answer s with
  | error c => rw [msX_bad hh] at h; cases h
  | ok y =>
    obtain ⟨x, fs, m⟩ := y
    cases hb : bodX (s.extract m s.size) (frK fs answer (bareR answer head x.2.2.1)) (frN fs answer (bareR answer head x.2.2.1)) with
    | error c => rw [msX_body hh hb] at h; cases h
    | ok body =>
      cases hq : msgQ (mgR answer head x fs body)
      · rw [msX_no hh hb hq] at h; cases h
      · rw [msX_yes hh hb hq] at h
        injection h with h
        subst h
        exact msgQ_bds hq
theorem mg0_bds : MgB mg0 := ⟨Nat.zero_le _, Nat.zero_le _, Nat.zero_le _, Nat.zero_le _, Nat.zero_le _, Nat.zero_le _⟩
theorem msX_err {answer head : Bool} {s : ByteArray} {c : Int} (h : msX answer head s = .error c) : c ≠ 0 := by
  cases hh : hdX answer s with
  | error d => rw [msX_bad hh] at h; injection h with h; subst h; exact hdX_err hh
  | ok y =>
    obtain ⟨x, fs, m⟩ := y
    cases hb : bodX (s.extract m s.size) (frK fs answer (bareR answer head x.2.2.1)) (frN fs answer (bareR answer head x.2.2.1)) with
    | error d => rw [msX_body hh hb] at h; injection h with h; subst h; exact bodX_err hb
    | ok body =>
      cases hq : msgQ (mgR answer head x fs body)
      · rw [msX_no hh hb hq] at h; injection h with h; subst h; decide
      · rw [msX_yes hh hb hq] at h; cases h
theorem rr_bds (x : Ex) : MgB (rrX x).1 := by
  cases h : msX false false x.rq with
  | error c => rw [rr_err h]; exact mg0_bds
  | ok q => rw [rr_ok h]; exact msX_bds h
theorem ra_bds (x : Ex) (me : ByteArray) : MgB (raX x me).1 := by
  cases h : msX true (eqB me headW) x.an with
  | error c => rw [ra_err h]; exact mg0_bds
  | ok q => rw [ra_ok h]; exact msX_bds h
/-- The request, the answer of an exchange; none: the zero value. -/
def reqX (x : Ex) : Mg := match exX x with
  | some (q, _) => q
  | none => mg0
def ansX (x : Ex) : Mg := match exX x with
  | some (_, a) => a
  | none => mg0
end Go.Proofs.YthdgeepedofleaaGreatDoor
namespace Go.Proofs.YthdgeepedofleaaGreatDoor
set_option linter.unusedVariables false
set_option linter.unusedSimpArgs false
open Go.RowKit
theorem Blk.c7 {w : World} {g : Nat} {a b c d e f h : Value} {t : TypeId} (H : Blk w g #[a, b, c, d, e, f, h] t) : w.cell? ⟨g, 0, none⟩ = some a ∧ w.cell? ⟨g, 1, none⟩ = some b ∧ w.cell? ⟨g, 2, none⟩ = some c ∧ w.cell? ⟨g, 3, none⟩ = some d ∧ w.cell? ⟨g, 4, none⟩ = some e ∧ w.cell? ⟨g, 5, none⟩ = some f ∧ w.cell? ⟨g, 6, none⟩ = some h :=
  ⟨H.cell 0, H.cell 1, H.cell 2, H.cell 3, H.cell 4, H.cell 5, H.cell 6⟩
set_option maxHeartbeats 400000 in
theorem bareStatus_any (n : Int) (w : World) :
    Calls Tryz.prog 177 #[.int .i64 n] w fun e w' => e = .returned (.bool (bareSt n)) ∧ w' = w := by
  cases h : (n == 204)
  · rw [show bareSt n = (n == 304) by simp [bareSt, h]]
    go_enter Tryz.func177, Tryz.ntmps177
    go_wp2
    go_ret
    exact ⟨rfl, rfl⟩
  · rw [show bareSt n = true by simp [bareSt, h]]
    go_enter Tryz.func177, Tryz.ntmps177
    go_wp2
    go_ret
    exact ⟨rfl, rfl⟩
theorem eqB_nil {s : ByteArray} : eqB s ⟨#[]⟩ = s.toList.isEmpty := by
  unfold eqB
  rw [ByteArray.toList_eq ⟨#[]⟩]
  cases s.toList <;> rfl
set_option maxHeartbeats 1000000 in
theorem requestOk_any (me ta re bo : ByteArray) (st : Int) (ba : Bool) (fa : Option Addr) (fn fc : Nat) (fs : List Fd) (w : World) (hme : me.size ≤ maxLen) (hta : ta.size ≤ maxLen) :
    Calls Tryz.prog 235 #[.agg #[.string me, .string ta, .int .i64 st, .string re, .bool ba, .slice fa fn fc, .string bo]] w fun e w' => e = .returned (.bool (reqQ ⟨me, ta, st, re, ba, fs, bo⟩)) ∧ Below w.heap.size w w' := by
  have HB := hideB2 (below_a1 w (.cells #[.string me, .string ta, .int .i64 st, .string re, .bool ba, .slice fa fn fc, .string bo] 50))
  cases h1 : methQ me
  · rw [show reqQ ⟨me, ta, st, re, ba, fs, bo⟩ = false by simp [reqQ, h1]]
    go_enter Tryz.func235, Tryz.ntmps235
    go_wp2_with (go_at_call 270; refine (methodOk_any _ _ hme).mono ?_; rintro e w' ⟨rfl, rfl⟩; rw [h1])
    go_ret
    exact ⟨rfl, HB.out⟩
  · cases h2 : targQ ta
    · rw [show reqQ ⟨me, ta, st, re, ba, fs, bo⟩ = false by simp [reqQ, h2]]
      go_enter Tryz.func235, Tryz.ntmps235
      go_wp2_with (first | (go_at_call 270; refine (methodOk_any _ _ hme).mono ?_; rintro e w' ⟨rfl, rfl⟩; rw [h1]) | (go_at_call 182; refine (targetOk_any _ _ hta).mono ?_; rintro e w' ⟨rfl, rfl⟩; rw [h2]))
      go_ret
      exact ⟨rfl, HB.out⟩
    · cases h3 : (st == 0)
      · rw [show reqQ ⟨me, ta, st, re, ba, fs, bo⟩ = false by simp [reqQ, h3]]
        go_enter Tryz.func235, Tryz.ntmps235
        go_wp2_with (first | (go_at_call 270; refine (methodOk_any _ _ hme).mono ?_; rintro e w' ⟨rfl, rfl⟩; rw [h1]) | (go_at_call 182; refine (targetOk_any _ _ hta).mono ?_; rintro e w' ⟨rfl, rfl⟩; rw [h2]))
        go_ret
        exact ⟨rfl, HB.out⟩
      · cases h4 : eqB re ⟨#[]⟩
        · rw [show reqQ ⟨me, ta, st, re, ba, fs, bo⟩ = false by simp [reqQ, h4]]
          rw [eqB_nil] at h4
          go_enter Tryz.func235, Tryz.ntmps235
          go_wp2_with (first | (go_at_call 270; refine (methodOk_any _ _ hme).mono ?_; rintro e w' ⟨rfl, rfl⟩; rw [h1]) | (go_at_call 182; refine (targetOk_any _ _ hta).mono ?_; rintro e w' ⟨rfl, rfl⟩; rw [h2]))
          go_ret
          exact ⟨rfl, HB.out⟩
        · rw [show reqQ ⟨me, ta, st, re, ba, fs, bo⟩ = !ba by simp only [reqQ, h1, h2, h3, h4, Bool.true_and]]
          rw [eqB_nil] at h4
          go_enter Tryz.func235, Tryz.ntmps235
          go_wp2_with (first | (go_at_call 270; refine (methodOk_any _ _ hme).mono ?_; rintro e w' ⟨rfl, rfl⟩; rw [h1]) | (go_at_call 182; refine (targetOk_any _ _ hta).mono ?_; rintro e w' ⟨rfl, rfl⟩; rw [h2]))
          go_ret
          exact ⟨rfl, HB.out⟩
set_option maxHeartbeats 1000000 in
theorem answerOk_any (me ta re bo : ByteArray) (st : Int) (ba : Bool) (fa : Option Addr) (fn fc : Nat) (fs : List Fd) (w : World) (hre : re.size ≤ maxLen) :
    Calls Tryz.prog 236 #[.agg #[.string me, .string ta, .int .i64 st, .string re, .bool ba, .slice fa fn fc, .string bo]] w fun e w' => e = .returned (.bool (ansQ ⟨me, ta, st, re, ba, fs, bo⟩)) ∧ Below w.heap.size w w' := by
  have HB := hideB2 (below_a1 w (.cells #[.string me, .string ta, .int .i64 st, .string re, .bool ba, .slice fa fn fc, .string bo] 50))
  have hre' := hre
  unfold maxLen at hre'
  cases h1 : eqB ta ⟨#[]⟩
  · rw [show ansQ ⟨me, ta, st, re, ba, fs, bo⟩ = false by simp [ansQ, h1]]
    rw [eqB_nil] at h1
    go_enter Tryz.func236, Tryz.ntmps236
    go_wp2
    go_ret
    exact ⟨rfl, HB.out⟩
  · cases h2 : stQ st
    · rw [show ansQ ⟨me, ta, st, re, ba, fs, bo⟩ = false by simp [ansQ, h2]]
      rw [eqB_nil] at h1
      go_enter Tryz.func236, Tryz.ntmps236
      go_wp2_with (go_at_call 271; refine (statusOk_any _ _).mono ?_; rintro e w' ⟨rfl, rfl⟩; rw [h2])
      go_ret
      exact ⟨rfl, HB.out⟩
    · by_cases h3 : (re.size : Int) ≤ 40
      · rw [show ansQ ⟨me, ta, st, re, ba, fs, bo⟩ = plnB re by simp [ansQ, h1, h2]; omega]
        rw [eqB_nil] at h1
        go_enter Tryz.func236, Tryz.ntmps236
        go_wp2_with (first | (go_at_call 271; refine (statusOk_any _ _).mono ?_; rintro e w' ⟨rfl, rfl⟩; rw [h2]) | (go_at_call 272; refine (plainText_any _ _ hre).mono ?_; rintro e w' ⟨rfl, rfl⟩))
        go_ret
        exact ⟨rfl, HB.out⟩
      · have h4 : decide ((re.size : Int) ≤ 40) = false := decide_eq_false h3
        rw [show ansQ ⟨me, ta, st, re, ba, fs, bo⟩ = false by simp only [ansQ, h4, Bool.and_false, Bool.false_and]]
        rw [eqB_nil] at h1
        go_enter Tryz.func236, Tryz.ntmps236
        go_wp2_with (first | (go_at_call 271; refine (statusOk_any _ _).mono ?_; rintro e w' ⟨rfl, rfl⟩; rw [h2]) | (go_at_call 272; refine (plainText_any _ _ hre).mono ?_; rintro e w' ⟨rfl, rfl⟩))
        go_ret
        exact ⟨rfl, HB.out⟩
set_option maxHeartbeats 400000 in
theorem barenessOk_any (me ta re bo : ByteArray) (st : Int) (ba : Bool) (fa : Option Addr) (fn fc : Nat) (fs : List Fd) (w : World) :
    Calls Tryz.prog 237 #[.agg #[.string me, .string ta, .int .i64 st, .string re, .bool ba, .slice fa fn fc, .string bo]] w fun e w' => e = .returned (.bool (bareQ ⟨me, ta, st, re, ba, fs, bo⟩)) ∧ Below w.heap.size w w' := by
  have HB := hideB2 (below_a1 w (.cells #[.string me, .string ta, .int .i64 st, .string re, .bool ba, .slice fa fn fc, .string bo] 50))
  cases ba
  · rw [show bareQ ⟨me, ta, st, re, false, fs, bo⟩ = !bareSt st from rfl]
    go_enter Tryz.func237, Tryz.ntmps237
    go_wp2_with (go_at_call 177; refine (bareStatus_any _ _).mono ?_; rintro e w' ⟨rfl, rfl⟩)
    go_ret
    exact ⟨rfl, HB.out⟩
  · rw [show bareQ ⟨me, ta, st, re, true, fs, bo⟩ = eqB bo ⟨#[]⟩ from rfl, eqB_nil]
    go_enter Tryz.func237, Tryz.ntmps237
    go_wp2
    go_ret
    exact ⟨rfl, HB.out⟩
set_option maxHeartbeats 1000000 in
theorem kindOk_any (me ta re bo : ByteArray) (st : Int) (ba : Bool) (fa : Option Addr) (fn fc : Nat) (fs : List Fd) (w : World) (hme : me.size ≤ maxLen) (hta : ta.size ≤ maxLen) (hre : re.size ≤ maxLen) :
    Calls Tryz.prog 191 #[.agg #[.string me, .string ta, .int .i64 st, .string re, .bool ba, .slice fa fn fc, .string bo]] w fun e w' => e = .returned (.bool (kindQ ⟨me, ta, st, re, ba, fs, bo⟩)) ∧ Below w.heap.size w w' := by
  have HB := hideB2 (below_a1 w (.cells #[.string me, .string ta, .int .i64 st, .string re, .bool ba, .slice fa fn fc, .string bo] 50))
  have A1 := hideB2 (Blk.new w #[.string me, .string ta, .int .i64 st, .string re, .bool ba, .slice fa fn fc, .string bo] 50)
  cases h1 : eqB me ⟨#[]⟩
  · have HQ := hideB2 (kindQ_req (m := ⟨me, ta, st, re, ba, fs, bo⟩) h1)
    rw [eqB_nil] at h1
    have HR := hideB2 (fun W => requestOk_any me ta re bo st ba fa fn fc fs W hme hta)
    generalize reqQ ⟨me, ta, st, re, ba, fs, bo⟩ = q at *
    go_enter Tryz.func191, Tryz.ntmps191
    go_wp2_with (go_at_call 235; refine (HR.out _).mono ?_; rintro e w' ⟨rfl, hb⟩)
    go_ret
    exact ⟨ret_bool HQ.out, below_then HB.out hb⟩
  · have HQ := hideB2 (kindQ_ans (m := ⟨me, ta, st, re, ba, fs, bo⟩) h1)
    rw [eqB_nil] at h1
    have HA := hideB2 (fun W => answerOk_any me ta re bo st ba fa fn fc fs W hre)
    have HE := hideB2 (fun W => barenessOk_any me ta re bo st ba fa fn fc fs W)
    generalize ansQ ⟨me, ta, st, re, ba, fs, bo⟩ = q at *
    generalize bareQ ⟨me, ta, st, re, ba, fs, bo⟩ = p at *
    cases q
    · go_enter Tryz.func191, Tryz.ntmps191
      go_wp2_with (go_at_call 236; refine (HA.out _).mono ?_; rintro e w' ⟨rfl, hb⟩)
      go_ret
      exact ⟨ret_bool HQ.out, below_then HB.out hb⟩
    · go_enter Tryz.func191, Tryz.ntmps191
      go_wp2_with (first | (go_at_call 236; refine (HA.out _).mono ?_; rintro e w' ⟨rfl, hb⟩; obtain ⟨p0, p1, p2, p3, p4, p5, p6⟩ := (A1.out.later hb).c7) | (go_at_call 237; refine (HE.out _).mono ?_; rintro e w2 ⟨rfl, hb2⟩))
      go_ret
      exact ⟨ret_bool HQ.out, below_then (below_then HB.out hb) hb2⟩
set_option maxHeartbeats 400000 in
theorem tellsLength_any (me ta re bo : ByteArray) (st : Int) (ba : Bool) (fa : Option Addr) (fn fc : Nat) (fs : List Fd) (w : World) :
    Calls Tryz.prog 194 #[.agg #[.string me, .string ta, .int .i64 st, .string re, .bool ba, .slice fa fn fc, .string bo]] w fun e w' => e = .returned (.bool (tellsQ ⟨me, ta, st, re, ba, fs, bo⟩)) ∧ Below w.heap.size w w' := by
  have HB := hideB2 (below_a1 w (.cells #[.string me, .string ta, .int .i64 st, .string re, .bool ba, .slice fa fn fc, .string bo] 50))
  cases h1 : eqB me ⟨#[]⟩
  · have HQ := hideB2 (show tellsQ ⟨me, ta, st, re, ba, fs, bo⟩ = !eqB bo ⟨#[]⟩ by unfold tellsQ; rw [h1]; rfl)
    rw [eqB_nil] at h1 HQ
    go_enter Tryz.func194, Tryz.ntmps194
    go_wp2
    go_ret
    exact ⟨ret_bool HQ.out, HB.out⟩
  · have HQ := hideB2 (show tellsQ ⟨me, ta, st, re, ba, fs, bo⟩ = !ba by unfold tellsQ; rw [if_pos h1])
    rw [eqB_nil] at h1
    go_enter Tryz.func194, Tryz.ntmps194
    go_wp2
    go_ret
    exact ⟨ret_bool HQ.out, HB.out⟩
end Go.Proofs.YthdgeepedofleaaGreatDoor
namespace Go.Proofs.YthdgeepedofleaaGreatDoor
set_option linter.unusedVariables false
set_option linter.unusedSimpArgs false
open Go.RowKit
theorem Blk.f7 {w : World} {g : Nat} {c : Array Value} {t : TypeId} (H : Blk w g c t) : w.frozen? ⟨g, 0, none⟩ = false ∧ w.frozen? ⟨g, 1, none⟩ = false ∧ w.frozen? ⟨g, 2, none⟩ = false ∧ w.frozen? ⟨g, 3, none⟩ = false ∧ w.frozen? ⟨g, 4, none⟩ = false ∧ w.frozen? ⟨g, 5, none⟩ = false ∧ w.frozen? ⟨g, 6, none⟩ = false := ⟨H.free 0, H.free 1, H.free 2, H.free 3, H.free 4, H.free 5, H.free 6⟩
theorem Blk.set7 {w : World} {g : Nat} {a b c d e f h : Value} {t : TypeId} (H : Blk w g #[a, b, c, d, e, f, h] t) (x0 x1 x2 x3 x4 x5 x6 : Value) : Blk (((((((w.setCell ⟨g, 0, none⟩ x0).setCell ⟨g, 1, none⟩ x1).setCell ⟨g, 2, none⟩ x2).setCell ⟨g, 3, none⟩ x3).setCell ⟨g, 4, none⟩ x4).setCell ⟨g, 5, none⟩ x5).setCell ⟨g, 6, none⟩ x6) g #[x0, x1, x2, x3, x4, x5, x6] t := by
  have h0 : Blk (w.setCell ⟨g, 0, none⟩ x0) g #[x0, b, c, d, e, f, h] t := H.set 0 x0
  have h1 : Blk ((w.setCell ⟨g, 0, none⟩ x0).setCell ⟨g, 1, none⟩ x1) g #[x0, x1, c, d, e, f, h] t := h0.set 1 x1
  have h2 : Blk (((w.setCell ⟨g, 0, none⟩ x0).setCell ⟨g, 1, none⟩ x1).setCell ⟨g, 2, none⟩ x2) g #[x0, x1, x2, d, e, f, h] t := h1.set 2 x2
  have h3 : Blk ((((w.setCell ⟨g, 0, none⟩ x0).setCell ⟨g, 1, none⟩ x1).setCell ⟨g, 2, none⟩ x2).setCell ⟨g, 3, none⟩ x3) g #[x0, x1, x2, x3, e, f, h] t := h2.set 3 x3
  have h4 : Blk (((((w.setCell ⟨g, 0, none⟩ x0).setCell ⟨g, 1, none⟩ x1).setCell ⟨g, 2, none⟩ x2).setCell ⟨g, 3, none⟩ x3).setCell ⟨g, 4, none⟩ x4) g #[x0, x1, x2, x3, x4, f, h] t := h3.set 4 x4
  have h5 : Blk ((((((w.setCell ⟨g, 0, none⟩ x0).setCell ⟨g, 1, none⟩ x1).setCell ⟨g, 2, none⟩ x2).setCell ⟨g, 3, none⟩ x3).setCell ⟨g, 4, none⟩ x4).setCell ⟨g, 5, none⟩ x5) g #[x0, x1, x2, x3, x4, x5, h] t := h4.set 5 x5
  have h6 : Blk (((((((w.setCell ⟨g, 0, none⟩ x0).setCell ⟨g, 1, none⟩ x1).setCell ⟨g, 2, none⟩ x2).setCell ⟨g, 3, none⟩ x3).setCell ⟨g, 4, none⟩ x4).setCell ⟨g, 5, none⟩ x5).setCell ⟨g, 6, none⟩ x6) g #[x0, x1, x2, x3, x4, x5, x6] t := h5.set 6 x6
  exact h6
theorem Blk.oth7 {w : World} {b g : Nat} {c : Array Value} {t : TypeId} (H : Blk w b c t) (hne : g ≠ b) (x0 x1 x2 x3 x4 x5 x6 : Value) : Blk (((((((w.setCell ⟨g, 0, none⟩ x0).setCell ⟨g, 1, none⟩ x1).setCell ⟨g, 2, none⟩ x2).setCell ⟨g, 3, none⟩ x3).setCell ⟨g, 4, none⟩ x4).setCell ⟨g, 5, none⟩ x5).setCell ⟨g, 6, none⟩ x6) b c t := ((((((H.other hne 0 x0).other hne 1 x1).other hne 2 x2).other hne 3 x3).other hne 4 x4).other hne 5 x5).other hne 6 x6
theorem RowF.oth7 {w : World} {b g : Nat} {l : List Fd} (H : RowF w b l) (hne : g ≠ b) (x0 x1 x2 x3 x4 x5 x6 : Value) : RowF (((((((w.setCell ⟨g, 0, none⟩ x0).setCell ⟨g, 1, none⟩ x1).setCell ⟨g, 2, none⟩ x2).setCell ⟨g, 3, none⟩ x3).setCell ⟨g, 4, none⟩ x4).setCell ⟨g, 5, none⟩ x5).setCell ⟨g, 6, none⟩ x6) b l := ((((((H.other hne 0 x0).other hne 1 x1).other hne 2 x2).other hne 3 x3).other hne 4 x4).other hne 5 x5).other hne 6 x6
theorem below_set7 {B g : Nat} {w0 w : World} (H : Below B w0 w) (hg : B ≤ g) (x0 x1 x2 x3 x4 x5 x6 : Value) : Below B w0 (((((((w.setCell ⟨g, 0, none⟩ x0).setCell ⟨g, 1, none⟩ x1).setCell ⟨g, 2, none⟩ x2).setCell ⟨g, 3, none⟩ x3).setCell ⟨g, 4, none⟩ x4).setCell ⟨g, 5, none⟩ x5).setCell ⟨g, 6, none⟩ x6) := ((((((H.setCell (p := ⟨g, 0, none⟩) hg x0).setCell (p := ⟨g, 1, none⟩) hg x1).setCell (p := ⟨g, 2, none⟩) hg x2).setCell (p := ⟨g, 3, none⟩) hg x3).setCell (p := ⟨g, 4, none⟩) hg x4).setCell (p := ⟨g, 5, none⟩) hg x5).setCell (p := ⟨g, 6, none⟩) hg x6
theorem Tryz.infoMsg : (Tryz.prog.info? 50).map (·.size) = some 7 := by kernel_rfl
/-- All that a message holds. -/
def totM (me ta re bo : ByteArray) (len : Nat) (fs : List Fd) : Nat := me.size + ta.size + re.size + len + totF fs + bo.size
set_option maxHeartbeats 2000000 in
theorem eqMsg_same (me ta re bo : ByteArray) (st : Int) (ba : Bool) (fa : Option Addr) (fn fc : Nat) (fs : List Fd) (ga : Option Addr) (gc : Nat) (w : World) (ha : SlF w (.slice fa fn fc) fs) (hb : SlF w (.slice ga fn gc) fs) (hm : fs.length ≤ 1048576) :
    Calls Tryz.prog 28 #[.agg #[.string me, .string ta, .int .i64 st, .string re, .bool ba, .slice fa fn fc, .string bo], .agg #[.string me, .string ta, .int .i64 st, .string re, .bool ba, .slice ga fn gc, .string bo]] w fun e w' => e = .returned (.bool true) ∧ Below w.heap.size w w' := by
  have HB := hideB2 (below_a2 w (.cells #[.string me, .string ta, .int .i64 st, .string re, .bool ba, .slice fa fn fc, .string bo] 50) (.cells #[.string me, .string ta, .int .i64 st, .string re, .bool ba, .slice ga fn gc, .string bo] 50))
  have A1 := hideB2 ((Blk.new w #[.string me, .string ta, .int .i64 st, .string re, .bool ba, .slice fa fn fc, .string bo] 50).alloc (.cells #[.string me, .string ta, .int .i64 st, .string re, .bool ba, .slice ga fn gc, .string bo] 50))
  have A2 := hideB2 (show Blk ((w.alloc (.cells #[.string me, .string ta, .int .i64 st, .string re, .bool ba, .slice fa fn fc, .string bo] 50)).alloc (.cells #[.string me, .string ta, .int .i64 st, .string re, .bool ba, .slice ga fn gc, .string bo] 50)) (w.heap.size + 1) #[.string me, .string ta, .int .i64 st, .string re, .bool ba, .slice ga fn gc, .string bo] 50 by
    have := Blk.new (w.alloc (.cells #[.string me, .string ta, .int .i64 st, .string re, .bool ba, .slice fa fn fc, .string bo] 50)) #[.string me, .string ta, .int .i64 st, .string re, .bool ba, .slice ga fn gc, .string bo] 50
    simpa using this)
  have HE := hideB2 (fun W h1 h2 => eqFieldS_same (.slice fa fn fc) (.slice ga fn gc) fs W h1 h2 hm)
  have HA := hideB2 ha
  have HC := hideB2 hb
  clear ha hb
  have e1 : (me.toList == me.toList) = true := by simp
  have e2 : (ta.toList == ta.toList) = true := by simp
  have e3 : (re.toList == re.toList) = true := by simp
  have e4 : (bo.toList == bo.toList) = true := by simp
  go_enter Tryz.func28, Tryz.ntmps28
  go_wp2_with (go_at_call 49; refine (HE.out _ (HA.out.later HB.out) (HC.out.later HB.out)).mono ?_; rintro e w3 ⟨rfl, hb3⟩; obtain ⟨p0, p1, p2, p3, p4, p5, p6⟩ := (A1.out.later hb3).c7; obtain ⟨q0, q1, q2, q3, q4, q5, q6⟩ := (A2.out.later hb3).c7)
  go_ret
  exact ⟨rfl, below_then HB.out hb3⟩
end Go.Proofs.YthdgeepedofleaaGreatDoor
namespace Go.Proofs.YthdgeepedofleaaGreatDoor
set_option linter.unusedVariables false
set_option linter.unusedSimpArgs false
open Go.RowKit
/-- The marks of n fields. -/
def marksF (n : Nat) : List Fd := (List.range n).map fun i => (mtB (2 * i + 1), mtB (2 * i + 2))
theorem marksF_len (n : Nat) : (marksF n).length = n := by simp [marksF]
theorem marksF_at (n j : Nat) (h : j < n) : fdAt (marksF n) j = (mtB (2 * j + 1), mtB (2 * j + 2)) := by
  rw [fdAt_get (by rw [marksF_len]; exact h)]; simp [marksF]
theorem marksF_next (l : List Fd) (k : Nat) (h : k < l.length) : (marksF k ++ l.drop k).set k (mtB (2 * k + 1), mtB (2 * k + 2)) = marksF (k + 1) ++ l.drop (k + 1) := by
  rw [List.set_append_right _ _ (by rw [marksF_len]; exact Nat.le_refl _), marksF_len, Nat.sub_self, List.drop_eq_getElem_cons h, List.set_cons_zero]
  simp [marksF, List.range_succ]
theorem fdAt_set (l : List Fd) (k : Nat) (x : Fd) (h : k < l.length) : fdAt (l.set k x) k = x := by
  rw [fdAt_get (by rw [List.length_set]; exact h), List.getElem_set]; simp
theorem fdAt_set_ne (l : List Fd) (k j : Nat) (x : Fd) (h : j < l.length) (hne : j ≠ k) : fdAt (l.set k x) j = fdAt l j := by
  rw [fdAt_get (by rw [List.length_set]; exact h), List.getElem_set, if_neg (Ne.symm hne), fdAt_get h]
/-- Number k gets a new name. -/
theorem RowF.setN {w : World} {b : Nat} {l : List Fd} (h : RowF w b l) (k : Nat) (d : ByteArray) (hk : k < l.length) : RowF (w.setCell ⟨b, k * 2, none⟩ (.string d)) b (l.set k (d, (fdAt l k).2)) := by
  refine ⟨fun j hj => ?_, fun j hj => ?_, fun j => ?_, by simpa [World.setCell] using h.lt⟩
  · rw [List.length_set] at hj
    by_cases e : j = k
    · subst e
      rw [fdAt_set l j _ hj, World.cell?_setCell_same _ _ _ (h.dat j hj)]
    · rw [fdAt_set_ne l k j _ hj e, World.cell?_setCell_other _ _ _ _ (by intro hh; injection hh with _ h2; omega), h.dat j hj]
  · rw [List.length_set] at hj
    rw [World.cell?_setCell_other _ _ _ _ (by intro hh; injection hh with _ h2; omega), h.saf j hj]
    by_cases e : j = k
    · subst e
      rw [fdAt_set l j _ hj]
    · rw [fdAt_set_ne l k j _ hj e]
  · rw [World.frozen?_setCell]
    exact h.free j
/-- Number k gets a new value. -/
theorem RowF.setV {w : World} {b : Nat} {l : List Fd} (h : RowF w b l) (k : Nat) (d : ByteArray) (hk : k < l.length) : RowF (w.setCell ⟨b, k * 2 + 1, none⟩ (.string d)) b (l.set k ((fdAt l k).1, d)) := by
  refine ⟨fun j hj => ?_, fun j hj => ?_, fun j => ?_, by simpa [World.setCell] using h.lt⟩
  · rw [List.length_set] at hj
    rw [World.cell?_setCell_other _ _ _ _ (by intro hh; injection hh with _ h2; omega), h.dat j hj]
    by_cases e : j = k
    · subst e
      rw [fdAt_set l j _ hj]
    · rw [fdAt_set_ne l k j _ hj e]
  · rw [List.length_set] at hj
    by_cases e : j = k
    · subst e
      rw [fdAt_set l j _ hj, World.cell?_setCell_same _ _ _ (h.saf j hj)]
    · rw [fdAt_set_ne l k j _ hj e, World.cell?_setCell_other _ _ _ _ (by intro hh; injection hh with _ h2; omega), h.saf j hj]
  · rw [World.frozen?_setCell]
    exact h.free j
set_option maxHeartbeats 2000000 in
theorem markFieldS_any (v : Value) (l : List Fd) (w : World) (hv : SlF w v l) (hm : l.length ≤ 1048576) :
    Calls Tryz.prog 50 #[v, .int .i64 1] w fun e w' => e = .returned (.int .i64 (1 + 2 * (l.length : Int))) ∧ SlF w' v (marksF l.length) ∧ w.grownBy w' v.ownBlock := by
  obtain ⟨a, c0, rfl⟩ := hv.form
  generalize hn : l.length = n at *
  have HN := hideB2 hn
  have HV := hideB2 hv
  clear hn hv
  go_enter Tryz.func50, Tryz.ntmps50
  go_wp2
  go_loopw [1, 5] (fun kk i wr => ∃ k : Nat, k ≤ n ∧ i = .int .i64 k ∧ kk = .int .i64 (1 + 2 * (k : Int)) ∧ SlF wr (.slice a n c0) (marksF k ++ l.drop k) ∧ w.grownBy wr (Value.slice a n c0).ownBlock) (fun _ i _ => n - (intOf i).toNat)
  case atStart => exact ⟨0, Nat.zero_le _, rfl, rfl, by simpa [marksF] using HV.out, grown_refl _ _⟩
  case round =>
    obtain ⟨k, hk, rfl, rfl, hs, hgr⟩ := hrel
    have hlen : (marksF k ++ l.drop k).length = n := by rw [List.length_append, marksF_len, List.length_drop, HN.out]; omega
    by_cases hlt : k < n
    · obtain ⟨b, rfl, hr⟩ := hs.row (by rw [hlen]; omega)
      have HNX := hideB2 (marksF_next l k (by rw [HN.out]; exact hlt))
      have HLN := hideB2 hlen
      have HR := hideB2 hr
      have HGR := hideB2 hgr
      clear hr hgr hs hlen
      have e0 : 1 + 2 * (k : Int) = ((2 * k + 1 : Nat) : Int) := by omega
      rw [e0]
      go_wp2_with fail
      refine (markText_any (2 * k + 1) _ (by omega) (by omega)).mono ?_
      rintro e w2 ⟨rfl, hb2⟩
      have hr2 := HR.out.keep hb2
      have hd0 := hr2.dat k (by rw [HLN.out]; exact hlt)
      have hf0 := hr2.free (k * 2)
      have R1 := hr2.setN k (mtB (2 * k + 1)) (by rw [HLN.out]; exact hlt)
      have G1 := grown_set (grown_then HGR.out hb2) (k * 2) (.string (mtB (2 * k + 1)))
      have HR1 := hideB2 R1
      have HG1 := hideB2 G1
      clear R1 G1 hr2 hb2 HR HGR e0
      generalize hm1 : mtB (2 * k + 1) = mt at *
      have HM1 := hideB2 hm1
      clear hm1
      have e1 : IntKind.i64.wrap (((2 * k + 1 : Nat) : Int) + 1) = ((2 * k + 2 : Nat) : Int) := by rw [IntKind.wrap_i64]; omega
      go_wp2_with fail
      have e2 : ((2 * k + 1 : Nat) : Int) + 1 = ((2 * k + 2 : Nat) : Int) := by omega
      first | rw [e2] | skip
      refine (markText_any (2 * k + 2) _ (by omega) (by omega)).mono ?_
      rintro e w3 ⟨rfl, hb3⟩
      have hr3 := HR1.out.keep hb3
      have hlen3 : ((marksF k ++ l.drop k).set k (mt, (fdAt (marksF k ++ l.drop k) k).2)).length = n := by rw [List.length_set]; exact HLN.out
      have hd1 := hr3.saf k (by rw [hlen3]; exact hlt)
      have hf1 := hr3.free (k * 2 + 1)
      have R2 := hr3.setV k (mtB (2 * k + 2)) (by rw [hlen3]; exact hlt)
      rw [fdAt_set _ k _ (by rw [HLN.out]; exact hlt), List.set_set] at R2
      simp only at R2
      rw [HNX.out] at R2
      have HR2 := hideB2 R2
      have HG2 := hideB2 (grown_set (grown_then HG1.out hb3) (k * 2 + 1) (.string (mtB (2 * k + 2))))
      clear R2 hr3 hb3 HR1 HG1 HNX HM1 hd0 hf0
      generalize (fdAt ((marksF k ++ l.drop k).set k (mt, (fdAt (marksF k ++ l.drop k) k).2)) k).2 = y1 at *
      generalize mtB (2 * k + 2) = mt2 at *
      go_wp2
      refine ⟨⟨k + 1, by omega, by go_num, by simp; omega, ?_, HG2.out⟩, by simp [intOf]; omega⟩
      exact HR2.out.sl (by rw [List.length_append, marksF_len, List.length_drop, HN.out]; omega) c0
    · obtain rfl : k = n := by omega
      have hsn : SlF wr (.slice a k c0) (marksF k) := by
        have hh := hs
        rwa [List.drop_of_length_le (by rw [HN.out]; exact Nat.le_refl _), List.append_nil] at hh
      go_wp2
      go_ret
      exact ⟨rfl, hsn, hgr⟩
set_option maxHeartbeats 2000000 in
theorem heldFieldS_any (v : Value) (n : Nat) (w : World) (hv : SlF w v (marksF n)) (hm : n ≤ 1048576) :
    Calls Tryz.prog 51 #[v, .int .i64 1] w fun e w' => e = .returned (.int .i64 (1 + 2 * (n : Int))) ∧ Below w.heap.size w w' := by
  obtain ⟨a, c0, rfl⟩ := hv.form
  have HV := hideB2 hv
  rw [marksF_len] at *
  clear hv
  go_enter Tryz.func51, Tryz.ntmps51
  go_wp2
  go_loopw [1, 5] (fun kk i wr => ∃ k : Nat, k ≤ n ∧ i = .int .i64 k ∧ kk = .int .i64 (1 + 2 * (k : Int)) ∧ Below w.heap.size w wr) (fun _ i _ => n - (intOf i).toNat)
  case atStart => exact ⟨0, Nat.zero_le _, rfl, rfl, Below.refl _ _⟩
  case round =>
    obtain ⟨k, hk, rfl, rfl, hb⟩ := hrel
    by_cases hlt : k < n
    · obtain ⟨b, rfl, hr⟩ := HV.out.row (by rw [marksF_len]; omega)
      have hr1 := hr.keep hb
      have p0 := hr1.dat k (by rw [marksF_len]; exact hlt)
      have p1 := hr1.saf k (by rw [marksF_len]; exact hlt)
      rw [marksF_at n k hlt] at p0 p1
      simp only at p0 p1
      have e0 : 1 + 2 * (k : Int) = ((2 * k + 1 : Nat) : Int) := by omega
      rw [e0]
      have z0 := fun V => grw_some p0 V
      have z1 := fun V => grw_some p1 V
      have HMT := hideB2 (fun V : Gr wr => markText_any (2 * k + 1) (grw wr V) (by omega) (by omega))
      have HMT2 := hideB2 (fun W : World => markText_any (2 * k + 2) W (by omega) (by omega))
      have HB := hideB2 hb
      generalize mtB (2 * k + 1) = mt at *
      generalize mtB (2 * k + 2) = mt2 at *
      have hmt : (mt.toList == mt.toList) = true := by simp
      have hmt2 : (mt2.toList == mt2.toList) = true := by simp
      clear hr hr1 hb e0 p0 p1
      go_wp2
      refine wp_region_grow ?_ ?_ ?_
      · kernel_rfl
      · kernel_rfl
      · intro hne
        repeat (go_big_quiet_step ((go_at_call 78; exact grow_call (HMT.out _))))
        refine wpQuiet_nil ?_
        rintro _ ⟨V, rfl⟩
        have hbb := hideB2 (below_then HB.out (grw_below wr V))
        have y1 := z1 V
        clear z0 z1 HMT HB
        generalize grw wr V = w3 at *
        have u1 := fun V => grw_some y1 V
        have e1 : IntKind.i64.wrap (((2 * k + 1 : Nat) : Int) + 1) = ((2 * k + 2 : Nat) : Int) := by rw [IntKind.wrap_i64]; omega
        go_wp2
        have e2 : ((2 * k + 1 : Nat) : Int) + 1 = ((2 * k + 2 : Nat) : Int) := by omega
        first | rw [e2] | skip
        refine wp_region_grow ?_ ?_ ?_
        · kernel_rfl
        · kernel_rfl
        · intro hne
          repeat (go_big_quiet_step ((go_at_call 78; exact grow_call (HMT2.out _))))
          refine wpQuiet_nil ?_
          rintro _ ⟨V, rfl⟩
          have hbc := hideB2 (below_then hbb.out (grw_below w3 V))
          clear u1 hbb HMT2
          generalize grw w3 V = w4 at *
          go_wp2
          exact ⟨⟨k + 1, by omega, by go_num, by simp; omega, hbc.out⟩, by simp [intOf]; omega⟩
    · obtain rfl : k = n := by omega
      go_wp2
      go_ret
      exact ⟨rfl, hb⟩
theorem SlF.own_lt {w : World} {s : Value} {l : List Fd} (h : SlF w s l) {g : Nat} (hg : s.ownBlock = some g) : g < w.heap.size := by
  rcases h with ⟨rfl, _⟩ | ⟨b, cap, rfl, hr⟩
  · cases hg
  · injection hg with hg; subst hg; exact hr.lt
theorem RowF.gb {w w' : World} {b : Nat} {l : List Fd} {r : Option Nat} (h : RowF w b l) (k : w.grownBy w' r) (hne : r ≠ some b) : RowF w' b l := by
  have hb : w'.heap[b]? = w.heap[b]? := k.block b h.lt (fun e => hne e.symm)
  refine ⟨fun j hj => ?_, fun j hj => ?_, fun j => ?_, Nat.lt_of_lt_of_le h.lt k.size⟩
  · exact (World.cell?_of_block (w := w) hb).trans (h.dat j hj)
  · exact (World.cell?_of_block (w := w) hb).trans (h.saf j hj)
  · have hf := h.free j
    unfold World.frozen? at *
    rw [hb]; exact hf
theorem SlF.gb {w w' : World} {s : Value} {l : List Fd} {r : Option Nat} (h : SlF w s l) (k : w.grownBy w' r) (hne : ∀ g, s.ownBlock = some g → r ≠ some g) : SlF w' s l := by
  rcases h with h | ⟨b, cap, rfl, hr⟩
  · exact .inl h
  · exact .inr ⟨b, cap, rfl, hr.gb k (hne b rfl)⟩
end Go.Proofs.YthdgeepedofleaaGreatDoor
