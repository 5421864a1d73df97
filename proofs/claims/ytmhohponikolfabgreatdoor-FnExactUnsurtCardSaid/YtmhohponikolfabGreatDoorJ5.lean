/-
  Chapter 7: an address read off its place in the index; the specification's side. · What a card of a door seat of chapter 1 needs: the listed tables. · What a card of a door seat of chapter 6 needs: the table of the powers of ten.
-/
import Derived.Test.YtmhohponikolfabGreatDoorJ4
import Derived.Lib.LaidTab
import Derived.LaidLaws
import Derived.LaidHandle
import Derived.ChangeVars
import Derived.OpenVars
import Derived.SevenTiedAt
import Derived.Test.YtmhohponikolfabGreatDoorJ0
namespace Go.Proofs.YtmhohponikolfabGreatDoor
set_option linter.unusedVariables false
set_option linter.unusedSimpArgs false
open Go.RowKit
theorem ssK_form (s : ByteArray) : ssK s = ⟨turnS (uptS 58 (uptS 41 s)) 44 46, uptS 63 (bhS 41 s), bhS 63 (bhS 41 s), if hasS 58 (uptS 41 s) = true then rdecN (bhS 58 (uptS 41 s)) else 80, hasS 63 (bhS 41 s)⟩ := by
  simp only [ssK, usT, hoS]
theorem us_no {s : ByteArray} (h : ¬ (s.size ≤ 200 ∧ hasS 41 s = true ∧ suU (ssK s) = s ∧ s ≠ ⟨#[]⟩)) : usO s = false ∧ usU s = ur0 := by
  have h1 : usO s = false := by
    cases ho : usO s with
    | false => rfl
    | true => exact absurd ((us_same s).1.2 ho) h
  exact ⟨h1, by unfold usU; rw [if_neg (by rw [h1]; simp)]⟩
theorem us_yes {s : ByteArray} (h : s.size ≤ 200 ∧ hasS 41 s = true ∧ suU (ssK s) = s ∧ s ≠ ⟨#[]⟩) : usO s = true ∧ usU s = ssK s := by
  have h1 := (us_same s).1.1 h
  exact ⟨h1, by unfold usU; rw [if_pos h1, (us_same s).2 h1]⟩
theorem ext_rest {s e : ByteArray} {n k : Nat} (h : s.extract n s.size = e) (hn : n + k ≤ s.size) : (s.extract (n + k) s.size).extract 1 (s.extract (n + k) s.size).size = e.extract (k + 1) e.size := by
  subst h
  have h1 : (s.extract (n + k) s.size).size = s.size - (n + k) := by rw [ByteArray.size_extract]; omega
  have h2 : (s.extract n s.size).size = s.size - n := by rw [ByteArray.size_extract]; omega
  rw [h1, h2, ByteArray.extract_extract, ByteArray.extract_extract]
  exact ext_congr (by omega) (by omega)
theorem turnS_size (h : ByteArray) (c d : UInt8) : (turnS h c d).size ≤ 2 * h.size + 1 := by
  have h1 := trnF_size d (splS c h).reverse
  have h2 := splS_le c h
  rw [List.length_reverse, sumS_rev] at h1
  unfold turnS
  omega
set_option maxRecDepth 100000 in
set_option maxHeartbeats 8000000 in
theorem sUnsurt_any (s : ByteArray) (w : World) (hs : s.size ≤ 1048576) :
    Calls Tryz.prog 4 #[.string s] w fun e w' => e = .returned (.tuple #[valU (usU s), .bool (usO s)]) ∧ Below w.heap.size w w' := by
  have HB := hideB2 (below_a1 w (.cells #[.string ⟨#[]⟩, .int .i64 0, .string ⟨#[]⟩, .string ⟨#[]⟩, .bool false] 23))
  have A0 := hideB2 (Blk.new w #[.string ⟨#[]⟩, .int .i64 0, .string ⟨#[]⟩, .string ⟨#[]⟩, .bool false] 23)
  by_cases hbig : (200 : Int) < (s.size : Int)
  · obtain ⟨e1, e2⟩ := us_no (s := s) (fun h => by have := h.1; omega)
    have d1 := decide_eq_true hbig
    rw [e1, e2]
    clear e1 e2
    go_enter Tryz.func4, Tryz.ntmps4
    go_wp2
    refine bodyPost_ret (results_cellT rfl _ _ _ rfl (Blk.new w _ _) Tryz.underlying23 Tryz.infoUrl) rfl ⟨rfl, HB.out⟩
  · have d1 := decide_eq_false hbig
    have H1 := hideB2 (fun W => l6uptoS_any s 41 W (by unfold maxLen; omega))
    change Hid (∀ W, Calls _ _ #[_, .int .u8 41] W _) at H1
    obtain ⟨c1, c2⟩ := cut_len 41 s
    have za := uptS_size 41 s
    by_cases hcut : (uptS 41 s).size < s.size
    · have hcut1 : (((uptS 41 s).size : Int) == (s.size : Int)) = false := by rw [beq_eq_false_iff_ne]; omega
      rw [decide_eq_true hcut] at c1
      rw [if_pos hcut] at c2
      have HK0 := ssK_form s
      have hsne : s ≠ ⟨#[]⟩ := by
        intro he
        have : s.size = 0 := by rw [he]; rfl
        omega
      have hse0 := nonempty_of (s := s) (by omega)
      have N2 := hideB2 (fun (h : eqB (suU (ssK s)) s = false) => us_no (s := s) (fun hh => by rw [hh.2.2.1, eqB_self] at h; cases h))
      have N3 := hideB2 (fun (h : eqB (suU (ssK s)) s = true) => us_yes (s := s) ⟨by omega, c1, eqB_iff.1 h, hsne⟩)
      have HSE := hideB2 (show ((suU (ssK s)).toList == s.toList) = eqB (suU (ssK s)) s from rfl)
      clear hsne c1
      generalize usU s = U at *
      generalize usO s = O at *
      generalize ssK s = K at *
      generalize eqB (suU K) s = b at *
      obtain ⟨d3, d4⟩ := cut_len 63 (bhS 41 s)
      obtain ⟨d5, d6⟩ := cut_len 58 (uptS 41 s)
      rw [d3, d4, d5, d6] at HK0
      have zb := bhS_size 41 s
      have hez : (bhS 41 s).size = s.size - ((uptS 41 s).size + 1) := by rw [c2, ByteArray.size_extract]; omega
      have hee : s.extract ((uptS 41 s).size + 1) s.size = bhS 41 s := c2.symm
      have zp := uptS_size 63 (bhS 41 s)
      have zpe : (uptS 41 s).size + 1 + (uptS 63 (bhS 41 s)).size ≤ s.size := by omega
      have hrs0 : (s.extract ((uptS 41 s).size + 1 + (uptS 63 (bhS 41 s)).size) s.size).size = s.size - ((uptS 41 s).size + 1 + (uptS 63 (bhS 41 s)).size) := by rw [ByteArray.size_extract]; omega
      have hq0 := ext_rest (k := (uptS 63 (bhS 41 s)).size) hee zpe
      clear c2 d3 d4 d5 d6
      generalize bhS 41 s = e at *
      generalize uptS 41 s = a at *
      have H3 := hideB2 (fun W => l6uptoS_any e 63 W (by unfold maxLen; omega))
      change Hid (∀ W, Calls _ _ #[_, .int .u8 63] W _) at H3
      generalize uptS 63 e = p at *
      have H2 := hideB2 (fun W => l6uptoS_any a 58 W (by unfold maxLen; omega))
      change Hid (∀ W, Calls _ _ #[_, .int .u8 58] W _) at H2
      have zh := uptS_size 58 a
      generalize uptS 58 a = h at *
      have H4 := hideB2 (fun W => l7turned_any h 44 46 W (by omega))
      change Hid (∀ W, Calls _ _ #[_, .int .u8 44, _] W _) at H4
      have zt := turnS_size h 44 46
      generalize turnS h 44 46 = th at *
      have zd : (a.extract (h.size + 1) a.size).size ≤ a.size := by rw [ByteArray.size_extract]; omega
      have zq : (e.extract (p.size + 1) e.size).size ≤ e.size := by rw [ByteArray.size_extract]; omega
      generalize hdd : a.extract (h.size + 1) a.size = d at *
      have HRD := hideB2 (fun W => sReadDec_any d W (by unfold maxLen; omega))
      generalize e.extract (p.size + 1) e.size = q at *
      generalize hrs : s.extract (a.size + 1 + p.size) s.size = rs at *
      have hqq := hq0
      have hrz : (rs.size = 0 ↔ ¬ p.size < e.size) := by omega
      have hee2 := hee
      have HK := hideB2 HK0
      clear HK0 hq0 hrs0 hez
      have w1n : IntKind.i64.wrap ((a.size : Int) + 1) = (a.size : Int) + 1 := by rw [IntKind.wrap_i64]; omega
      have w2n : IntKind.i64.wrap ((h.size : Int) + 1) = (h.size : Int) + 1 := by rw [IntKind.wrap_i64]; omega
      have w3n : IntKind.i64.wrap ((a.size : Int) + 1 + (p.size : Int)) = (a.size : Int) + 1 + (p.size : Int) := by rw [IntKind.wrap_i64]; omega
      have b1 : (0 : Int) ≤ (a.size : Int) + 1 := by omega
      have b2 : (a.size : Int) + 1 ≤ (s.size : Int) := by omega
      have b3 : (0 : Int) ≤ (a.size : Int) + 1 + (p.size : Int) := by omega
      have b4 : (a.size : Int) + 1 + (p.size : Int) ≤ (s.size : Int) := by have := zpe; omega
      have b5 : (0 : Int) ≤ (h.size : Int) + 1 := by omega
      have hse := HSE.out
      clear HSE
      go_enter Tryz.func4, Tryz.ntmps4
      go_wp2_with fail
      refine (H1.out _).mono ?_
      rintro e1 wa ⟨rfl, rfl⟩
      go_wp2_with fail
      refine (H2.out _).mono ?_
      rintro e2 wb ⟨rfl, rfl⟩
      go_wp2_with fail
      (try rw [hee])
      refine (H3.out _).mono ?_
      rintro e3 wc ⟨rfl, rfl⟩
      go_wp2_with fail
      refine (H4.out _).mono ?_
      rintro e4 w1 ⟨rfl, hb1⟩
      have A1 := hideB2 (A0.out.later hb1)
      have HB1 := hideB2 (below_then HB.out hb1)
      have hlt := A1.out.lt
      clear hb1 HB A0 H1 H2 H3 H4 hee hee2
      have hne : w1.heap.size ≠ w.heap.size := by omega
      have hge : w.heap.size ≤ w1.heap.size := by omega
      clear hlt
      by_cases htold : h.size < a.size
      · have htold1 : (h.size : Int) < (a.size : Int) := by omega
        have b6 : (h.size : Int) + 1 ≤ (a.size : Int) := by omega
        by_cases hquery : p.size < e.size
        · have hrn := nonempty_of (s := rs) (by omega)
          have c9 : (1 : Int) ≤ (rs.size : Int) := by omega
          clear hrz
          have HKF := hideB2 (show K = ⟨th, p, q, rdecN d, true⟩ by rw [HK.out, if_pos hquery, decide_eq_true htold, if_pos rfl, if_pos htold, decide_eq_true hquery])
          have HSU := hideB2 (fun W => sSurt_any th p q (rdecN d) true W (by omega) (by omega) (by omega))
          change Hid (∀ W, Calls _ _ _ W fun e w' => e = .returned (.string (suU ⟨th, p, q, rdecN d, true⟩)) ∧ Below W.heap.size W w') at HSU
          rw [← HKF.out] at HSU
          generalize suU K = sk at *
          generalize rdecN d = n at *
          go_wp2_with fail
          (try rw [hdd])
          refine (HRD.out _).mono ?_
          rintro e3 w3 ⟨rfl, hb3⟩
          have B3 := hideB2 ((Blk.new w1 #[.string th, .int .i64 80, .string p, .string ⟨#[]⟩, .bool false] 23).later hb3)
          have A3 := hideB2 ((A1.out.alloc (.cells #[.string th, .int .i64 80, .string p, .string ⟨#[]⟩, .bool false] 23)).later hb3)
          have HB3 := hideB2 (below_then (below_then HB1.out (below_a1 w1 (.cells #[.string th, .int .i64 80, .string p, .string ⟨#[]⟩, .bool false] 23))) hb3)
          clear hb3 HRD
          obtain ⟨p0, p1, p2, p3, p4⟩ := B3.out.u5
          obtain ⟨f0, f1, f2, f3, f4⟩ := B3.out.f5U
          go_wp2_with fail
          (try rw [hrs])
          (try rw [hqq])
          refine (HSU.out _).mono ?_
          rintro e5 w5 ⟨rfl, hb5⟩
          have B5 : Hid (Blk w5 w1.heap.size #[.string th, .int .i64 n, .string p, .string q, .bool true] 23) := hideB2 ((((B3.out.set 1 _).set 4 _).set 3 _).later hb5)
          have A5 : Hid (Blk w5 w.heap.size #[.string ⟨#[]⟩, .int .i64 0, .string ⟨#[]⟩, .string ⟨#[]⟩, .bool false] 23) := hideB2 ((((A3.out.other hne 1 _).other hne 4 _).other hne 3 _).later hb5)
          have HB5 := hideB2 (below_then (((HB3.out.setCell (p := ⟨w1.heap.size, 1, none⟩) hge _).setCell (p := ⟨w1.heap.size, 4, none⟩) hge _).setCell (p := ⟨w1.heap.size, 3, none⟩) hge _) hb5)
          clear p0 p1 p2 p3 p4 f0 f1 f2 f3 f4 B3 A3 HB3
          clear hb5
          obtain ⟨p0, p1, p2, p3, p4⟩ := B5.out.u5
          obtain ⟨a0, a1, a2, a3, a4⟩ := A5.out.u5
          obtain ⟨g0, g1, g2, g3, g4⟩ := A5.out.f5U
          clear B5 HSU
          cases b
          · have HF := hideB2 (show Ending.returned (.tuple #[.agg #[.string ⟨#[]⟩, .int .i64 0, .string ⟨#[]⟩, .string ⟨#[]⟩, .bool false], .bool false]) = .returned (.tuple #[valU U, .bool O]) by obtain ⟨h1, h2⟩ := N2.out (by simp); rw [h1, h2]; rfl)
            go_wp2
            refine bodyPost_ret (results_cellT rfl _ _ _ rfl (A5.out.set5U _ _ _ _ _) Tryz.underlying23 Tryz.infoUrl) rfl ⟨?_, ?_⟩
            · exact HF.out
            exact below_set5 HB5.out (Nat.le_refl _) _ _ _ _ _
          · have HF := hideB2 (show Ending.returned (.tuple #[.agg #[.string th, .int .i64 n, .string p, .string q, .bool true], .bool true]) = .returned (.tuple #[valU U, .bool O]) by obtain ⟨h1, h2⟩ := N3.out (by simp); rw [h1, h2, HKF.out]; rfl)
            go_wp2
            refine bodyPost_ret (results_cellT rfl _ _ _ rfl (A5.out.set5U _ _ _ _ _) Tryz.underlying23 Tryz.infoUrl) rfl ⟨?_, ?_⟩
            · exact HF.out
            exact below_set5 HB5.out (Nat.le_refl _) _ _ _ _ _
        · have hrn := empty_of (s := rs) (by omega)
          clear hrz
          have HKF := hideB2 (show K = ⟨th, p, ⟨#[]⟩, rdecN d, false⟩ by rw [HK.out, if_neg hquery, decide_eq_true htold, if_pos rfl, if_pos htold, decide_eq_false hquery])
          have HSU := hideB2 (fun W => sSurt_any th p ⟨#[]⟩ (rdecN d) false W (by omega) (by omega) (by decide))
          change Hid (∀ W, Calls _ _ _ W fun e w' => e = .returned (.string (suU ⟨th, p, ⟨#[]⟩, rdecN d, false⟩)) ∧ Below W.heap.size W w') at HSU
          rw [← HKF.out] at HSU
          generalize suU K = sk at *
          generalize rdecN d = n at *
          go_wp2_with fail
          (try rw [hdd])
          refine (HRD.out _).mono ?_
          rintro e3 w3 ⟨rfl, hb3⟩
          have B3 := hideB2 ((Blk.new w1 #[.string th, .int .i64 80, .string p, .string ⟨#[]⟩, .bool false] 23).later hb3)
          have A3 := hideB2 ((A1.out.alloc (.cells #[.string th, .int .i64 80, .string p, .string ⟨#[]⟩, .bool false] 23)).later hb3)
          have HB3 := hideB2 (below_then (below_then HB1.out (below_a1 w1 (.cells #[.string th, .int .i64 80, .string p, .string ⟨#[]⟩, .bool false] 23))) hb3)
          clear hb3 HRD
          obtain ⟨p0, p1, p2, p3, p4⟩ := B3.out.u5
          obtain ⟨f0, f1, f2, f3, f4⟩ := B3.out.f5U
          go_wp2_with fail
          (try rw [hrs])
          (try rw [hqq])
          refine (HSU.out _).mono ?_
          rintro e5 w5 ⟨rfl, hb5⟩
          have B5 : Hid (Blk w5 w1.heap.size #[.string th, .int .i64 n, .string p, .string ⟨#[]⟩, .bool false] 23) := hideB2 ((B3.out.set 1 _).later hb5)
          have A5 : Hid (Blk w5 w.heap.size #[.string ⟨#[]⟩, .int .i64 0, .string ⟨#[]⟩, .string ⟨#[]⟩, .bool false] 23) := hideB2 ((A3.out.other hne 1 _).later hb5)
          have HB5 := hideB2 (below_then (HB3.out.setCell (p := ⟨w1.heap.size, 1, none⟩) hge _) hb5)
          clear p0 p1 p2 p3 p4 f0 f1 f2 f3 f4 B3 A3 HB3
          clear hb5
          obtain ⟨p0, p1, p2, p3, p4⟩ := B5.out.u5
          obtain ⟨a0, a1, a2, a3, a4⟩ := A5.out.u5
          obtain ⟨g0, g1, g2, g3, g4⟩ := A5.out.f5U
          clear B5 HSU
          cases b
          · have HF := hideB2 (show Ending.returned (.tuple #[.agg #[.string ⟨#[]⟩, .int .i64 0, .string ⟨#[]⟩, .string ⟨#[]⟩, .bool false], .bool false]) = .returned (.tuple #[valU U, .bool O]) by obtain ⟨h1, h2⟩ := N2.out (by simp); rw [h1, h2]; rfl)
            go_wp2
            refine bodyPost_ret (results_cellT rfl _ _ _ rfl (A5.out.set5U _ _ _ _ _) Tryz.underlying23 Tryz.infoUrl) rfl ⟨?_, ?_⟩
            · exact HF.out
            exact below_set5 HB5.out (Nat.le_refl _) _ _ _ _ _
          · have HF := hideB2 (show Ending.returned (.tuple #[.agg #[.string th, .int .i64 n, .string p, .string ⟨#[]⟩, .bool false], .bool true]) = .returned (.tuple #[valU U, .bool O]) by obtain ⟨h1, h2⟩ := N3.out (by simp); rw [h1, h2, HKF.out]; rfl)
            go_wp2
            refine bodyPost_ret (results_cellT rfl _ _ _ rfl (A5.out.set5U _ _ _ _ _) Tryz.underlying23 Tryz.infoUrl) rfl ⟨?_, ?_⟩
            · exact HF.out
            exact below_set5 HB5.out (Nat.le_refl _) _ _ _ _ _
      · have htold1 : ¬ (h.size : Int) < (a.size : Int) := by omega
        clear HRD
        by_cases hquery : p.size < e.size
        · have hrn := nonempty_of (s := rs) (by omega)
          have c9 : (1 : Int) ≤ (rs.size : Int) := by omega
          clear hrz
          have HKF := hideB2 (show K = ⟨th, p, q, 80, true⟩ by rw [HK.out, if_pos hquery, decide_eq_false htold, if_neg (by simp), decide_eq_true hquery])
          have HSU := hideB2 (fun W => sSurt_any th p q (80) true W (by omega) (by omega) (by omega))
          change Hid (∀ W, Calls _ _ _ W fun e w' => e = .returned (.string (suU ⟨th, p, q, 80, true⟩)) ∧ Below W.heap.size W w') at HSU
          rw [← HKF.out] at HSU
          generalize suU K = sk at *
          go_wp2_with fail
          (try rw [hrs])
          (try rw [hqq])
          refine (HSU.out _).mono ?_
          rintro e5 w5 ⟨rfl, hb5⟩
          have B5 := hideB2 ((Blk.new w1 #[.string th, .int .i64 80, .string p, .string q, .bool true] 23).later hb5)
          have A5 := hideB2 ((A1.out.alloc (.cells #[.string th, .int .i64 80, .string p, .string q, .bool true] 23)).later hb5)
          have HB5 := hideB2 (below_then (below_then HB1.out (below_a1 w1 (.cells #[.string th, .int .i64 80, .string p, .string q, .bool true] 23))) hb5)
          clear hb5
          obtain ⟨p0, p1, p2, p3, p4⟩ := B5.out.u5
          obtain ⟨a0, a1, a2, a3, a4⟩ := A5.out.u5
          obtain ⟨g0, g1, g2, g3, g4⟩ := A5.out.f5U
          clear B5 HSU
          cases b
          · have HF := hideB2 (show Ending.returned (.tuple #[.agg #[.string ⟨#[]⟩, .int .i64 0, .string ⟨#[]⟩, .string ⟨#[]⟩, .bool false], .bool false]) = .returned (.tuple #[valU U, .bool O]) by obtain ⟨h1, h2⟩ := N2.out (by simp); rw [h1, h2]; rfl)
            go_wp2
            refine bodyPost_ret (results_cellT rfl _ _ _ rfl (A5.out.set5U _ _ _ _ _) Tryz.underlying23 Tryz.infoUrl) rfl ⟨?_, ?_⟩
            · exact HF.out
            exact below_set5 HB5.out (Nat.le_refl _) _ _ _ _ _
          · have HF := hideB2 (show Ending.returned (.tuple #[.agg #[.string th, .int .i64 80, .string p, .string q, .bool true], .bool true]) = .returned (.tuple #[valU U, .bool O]) by obtain ⟨h1, h2⟩ := N3.out (by simp); rw [h1, h2, HKF.out]; rfl)
            go_wp2
            refine bodyPost_ret (results_cellT rfl _ _ _ rfl (A5.out.set5U _ _ _ _ _) Tryz.underlying23 Tryz.infoUrl) rfl ⟨?_, ?_⟩
            · exact HF.out
            exact below_set5 HB5.out (Nat.le_refl _) _ _ _ _ _
        · have hrn := empty_of (s := rs) (by omega)
          clear hrz
          have HKF := hideB2 (show K = ⟨th, p, ⟨#[]⟩, 80, false⟩ by rw [HK.out, if_neg hquery, decide_eq_false htold, if_neg (by simp), decide_eq_false hquery])
          have HSU := hideB2 (fun W => sSurt_any th p ⟨#[]⟩ (80) false W (by omega) (by omega) (by decide))
          change Hid (∀ W, Calls _ _ _ W fun e w' => e = .returned (.string (suU ⟨th, p, ⟨#[]⟩, 80, false⟩)) ∧ Below W.heap.size W w') at HSU
          rw [← HKF.out] at HSU
          generalize suU K = sk at *
          go_wp2_with fail
          (try rw [hrs])
          (try rw [hqq])
          refine (HSU.out _).mono ?_
          rintro e5 w5 ⟨rfl, hb5⟩
          have B5 := hideB2 ((Blk.new w1 #[.string th, .int .i64 80, .string p, .string ⟨#[]⟩, .bool false] 23).later hb5)
          have A5 := hideB2 ((A1.out.alloc (.cells #[.string th, .int .i64 80, .string p, .string ⟨#[]⟩, .bool false] 23)).later hb5)
          have HB5 := hideB2 (below_then (below_then HB1.out (below_a1 w1 (.cells #[.string th, .int .i64 80, .string p, .string ⟨#[]⟩, .bool false] 23))) hb5)
          clear hb5
          obtain ⟨p0, p1, p2, p3, p4⟩ := B5.out.u5
          obtain ⟨a0, a1, a2, a3, a4⟩ := A5.out.u5
          obtain ⟨g0, g1, g2, g3, g4⟩ := A5.out.f5U
          clear B5 HSU
          cases b
          · have HF := hideB2 (show Ending.returned (.tuple #[.agg #[.string ⟨#[]⟩, .int .i64 0, .string ⟨#[]⟩, .string ⟨#[]⟩, .bool false], .bool false]) = .returned (.tuple #[valU U, .bool O]) by obtain ⟨h1, h2⟩ := N2.out (by simp); rw [h1, h2]; rfl)
            go_wp2
            refine bodyPost_ret (results_cellT rfl _ _ _ rfl (A5.out.set5U _ _ _ _ _) Tryz.underlying23 Tryz.infoUrl) rfl ⟨?_, ?_⟩
            · exact HF.out
            exact below_set5 HB5.out (Nat.le_refl _) _ _ _ _ _
          · have HF := hideB2 (show Ending.returned (.tuple #[.agg #[.string th, .int .i64 80, .string p, .string ⟨#[]⟩, .bool false], .bool true]) = .returned (.tuple #[valU U, .bool O]) by obtain ⟨h1, h2⟩ := N3.out (by simp); rw [h1, h2, HKF.out]; rfl)
            go_wp2
            refine bodyPost_ret (results_cellT rfl _ _ _ rfl (A5.out.set5U _ _ _ _ _) Tryz.underlying23 Tryz.infoUrl) rfl ⟨?_, ?_⟩
            · exact HF.out
            exact below_set5 HB5.out (Nat.le_refl _) _ _ _ _ _
    · have hcut1 : (((uptS 41 s).size : Int) == (s.size : Int)) = true := by rw [beq_iff_eq]; omega
      obtain ⟨e1, e2⟩ := us_no (s := s) (fun h => by have := h.2.1; rw [c1, decide_eq_false hcut] at this; cases this)
      rw [e1, e2]
      clear e1 e2 c1 c2 hcut
      generalize uptS 41 s = a at *
      go_enter Tryz.func4, Tryz.ntmps4
      go_wp2_with (go_at_call 7; refine (H1.out _).mono ?_; rintro e1 w1 ⟨rfl, rfl⟩)
      refine bodyPost_ret (results_cellT rfl _ _ _ rfl (Blk.new w _ _) Tryz.underlying23 Tryz.infoUrl) rfl ⟨rfl, HB.out⟩
end Go.Proofs.YtmhohponikolfabGreatDoor
namespace Go.Proofs.YtmhohponikolfabGreatDoor
set_option linter.unusedVariables false
set_option linter.unusedSimpArgs false
open Go.ChangeShapes Go.WideShapes Go.ChangeAt Go.RowKit

/-- A block's cells, laid anew. -/
def laidRow (cs : Array Value) : Obj → Obj
  | .cells _ t frozen => .cells cs t frozen
  | o => o
theorem laid_mem {P : Program} {w : World} : ∀ {l : List (String × DataW Unit)} {ps : List MemPlace}, DataW.LaidVars P w l ps → ∀ (n : String) (d : DataW Unit), (n, d) ∈ l →
    ∃ g t cs fuel p, P.globalNamed n = some g ∧ (P.globals[g]?).map (·.type) = some t ∧ w.var? P n = some cs ∧ DataW.trod (fun _ => ()) P w 0 (fun _ => true) false fuel t cs.toList = some (d, p)
  | [], _, _, n, d, hm => by simp at hm
  | (n0, d0) :: r, ps, h, n, d, hm => by
    obtain ⟨g, t, cs, fuel, p, q, h1, h2, h3, h4, h5, _⟩ := h
    rcases List.mem_cons.1 hm with e | e
    · cases e
      exact ⟨g, t, cs, fuel, p, h1, h2, h3, h4⟩
    · exact laid_mem h5 n d e
end Go.Proofs.YtmhohponikolfabGreatDoor
namespace Go.Proofs.YtmhohponikolfabGreatDoor
set_option linter.unusedVariables false
set_option linter.unusedSimpArgs false
open Go.ChangeShapes Go.WideShapes Go.ChangeAt Go.RowKit
theorem dectab_of_laid {W : World} {l : List (String × DataW Unit)} (hm : ("internal/strconv.uint64pow10", Rows.laid_internal_strconv_uint64pow10) ∈ l) (h : laidMet Tryz.prog l W) : Tab10 W := by
  obtain ⟨ps, hl, _⟩ := h
  obtain ⟨g, t, cs, fuel, p, h1, h2, h3, h4⟩ := laid_mem hl _ _ hm
  have hg : Tryz.prog.globalNamed "internal/strconv.uint64pow10" = some 4 := by kernel_rfl
  have ht : (Tryz.prog.globals[4]?).map (·.type) = some 115 := by kernel_rfl
  obtain rfl := Option.some.inj (hg.symm.trans h1)
  obtain rfl := Option.some.inj (ht.symm.trans h2)
  have hc := Lib.cells_of_tab (k := .u64) (zs := Lib.pow10Tab) Tryz.underlying115 Tryz.underlying105 (by kernel_rfl) (by kernel_rfl) h4
  unfold Tab10 Lib.TabIs
  rw [h3, ← hc]
end Go.Proofs.YtmhohponikolfabGreatDoor
