/-
  Chapter 7: an address read; the program's side.
-/
import Derived.Test.YtefhpjipcdmbaabGreatDoorU11
import Derived.Test.YtefhpjipcdmbaabGreatDoorOpenU
namespace Go.Proofs.YtefhpjipcdmbaabGreatDoor
set_option linter.unusedVariables false
set_option linter.unusedSimpArgs false
open Go.RowKit
theorem Blk.set5U {w : World} {g : Nat} {a b c d e : Value} {t : TypeId} (H : Blk w g #[a, b, c, d, e] t) (x0 x1 x2 x3 x4 : Value) : Blk (((((w.setCell ⟨g, 0, none⟩ x0).setCell ⟨g, 1, none⟩ x1).setCell ⟨g, 2, none⟩ x2).setCell ⟨g, 3, none⟩ x3).setCell ⟨g, 4, none⟩ x4) g #[x0, x1, x2, x3, x4] t := by
  have h0 : Blk (w.setCell ⟨g, 0, none⟩ x0) g #[x0, b, c, d, e] t := H.set 0 x0
  have h1 : Blk ((w.setCell ⟨g, 0, none⟩ x0).setCell ⟨g, 1, none⟩ x1) g #[x0, x1, c, d, e] t := h0.set 1 x1
  have h2 : Blk (((w.setCell ⟨g, 0, none⟩ x0).setCell ⟨g, 1, none⟩ x1).setCell ⟨g, 2, none⟩ x2) g #[x0, x1, x2, d, e] t := h1.set 2 x2
  have h3 : Blk ((((w.setCell ⟨g, 0, none⟩ x0).setCell ⟨g, 1, none⟩ x1).setCell ⟨g, 2, none⟩ x2).setCell ⟨g, 3, none⟩ x3) g #[x0, x1, x2, x3, e] t := h2.set 3 x3
  exact h3.set 4 x4
theorem Blk.f5U {w : World} {g : Nat} {c : Array Value} {t : TypeId} (H : Blk w g c t) : w.frozen? ⟨g, 0, none⟩ = false ∧ w.frozen? ⟨g, 1, none⟩ = false ∧ w.frozen? ⟨g, 2, none⟩ = false ∧ w.frozen? ⟨g, 3, none⟩ = false ∧ w.frozen? ⟨g, 4, none⟩ = false := ⟨H.free 0, H.free 1, H.free 2, H.free 3, H.free 4⟩
theorem below_set5 {B g : Nat} {w0 w : World} (H : Below B w0 w) (hg : B ≤ g) (x0 x1 x2 x3 x4 : Value) : Below B w0 (((((w.setCell ⟨g, 0, none⟩ x0).setCell ⟨g, 1, none⟩ x1).setCell ⟨g, 2, none⟩ x2).setCell ⟨g, 3, none⟩ x3).setCell ⟨g, 4, none⟩ x4) := ((((H.setCell (p := ⟨g, 0, none⟩) hg x0).setCell (p := ⟨g, 1, none⟩) hg x1).setCell (p := ⟨g, 2, none⟩) hg x2).setCell (p := ⟨g, 3, none⟩) hg x3).setCell (p := ⟨g, 4, none⟩) hg x4
set_option maxRecDepth 100000 in
set_option maxHeartbeats 4000000 in
theorem looseUrl_any (a e : ByteArray) (w : World) (ha : a.size ≤ 1048576) (he : e.size ≤ 1048576) :
    Calls Tryz.prog 34 #[.string a, .string e] w fun r w' => r = .returned (.agg #[.string (uptS 58 a), .int .i64 (if hasS 58 a = true then rdecN (bhS 58 a) else 80), .string (uptS 63 e), .string (bhS 63 e), .bool (hasS 63 e)]) ∧ Below w.heap.size w w' := by
  have HB := hideB2 (below_a1 w (.cells #[.string ⟨#[]⟩, .int .i64 0, .string ⟨#[]⟩, .string ⟨#[]⟩, .bool false] 23))
  have A0 := hideB2 (Blk.new w #[.string ⟨#[]⟩, .int .i64 0, .string ⟨#[]⟩, .string ⟨#[]⟩, .bool false] 23)
  have H1 := hideB2 (fun W => CutS_any a 58 W (by unfold maxLen; omega))
  have H2 := hideB2 (fun W => CutS_any e 63 W (by unfold maxLen; omega))
  have hz := bhS_size 58 a
  have HD := hideB2 (fun W => ReadDec_any (bhS 58 a) W (by unfold maxLen; omega))
  clear hz
  generalize rdecN (bhS 58 a) = n at *
  generalize rdecOk (bhS 58 a) = okn at *
  generalize bhS 58 a = d at *
  generalize uptS 58 a = h at *
  generalize uptS 63 e = p at *
  generalize bhS 63 e = q at *
  generalize hasS 63 e = b at *
  generalize hasS 58 a = told at *
  cases told
  · rw [if_neg (by simp)]
    go_enter Tryz.func34, Tryz.ntmps34
    go_wp2_with fail
    refine (H1.out _).mono ?_
    rintro e1 w1 ⟨rfl, hb1⟩
    have B1 := Blk.new w1 #[.string h, .int .i64 80, .string ⟨#[]⟩, .string ⟨#[]⟩, .bool false] 23
    have A1 := (A0.out.later hb1).alloc (.cells #[.string h, .int .i64 80, .string ⟨#[]⟩, .string ⟨#[]⟩, .bool false] 23)
    have hb1' := below_then (below_then HB.out hb1) (below_a1 w1 (.cells #[.string h, .int .i64 80, .string ⟨#[]⟩, .string ⟨#[]⟩, .bool false] 23))
    have hlt := (A0.out.later hb1).lt
    clear hb1 HB A0
    go_wp2_with fail
    refine (H2.out _).mono ?_
    rintro e2 w2 ⟨rfl, hb2⟩
    have B2 := B1.later hb2
    have A2 := A1.later hb2
    have HB2 := hideB2 (below_then hb1' hb2)
    obtain ⟨p0, p1, p2, p3, p4⟩ := B2.u5
    obtain ⟨f0, f1, f2, f3, f4⟩ := B2.f5U
    obtain ⟨a0, a1, a2, a3, a4⟩ := A2.u5
    obtain ⟨g0, g1, g2, g3, g4⟩ := A2.f5U
    have HA2 := hideB2 A2
    clear B1 B2 A1 A2 hb1' hb2 H1 H2
    generalize w1.heap.size = G at *
    have hne : G ≠ w.heap.size := by omega
    have hne' : w.heap.size ≠ G := by omega
    go_wp2
    refine bodyPost_ret (results_cellS rfl _ _ _ rfl ((((HA2.out.other hne 2 _).other hne 3 _).other hne 4 _).set5U _ _ _ _ _) Tryz.underlying23 Tryz.infoUrl) rfl ⟨rfl, ?_⟩
    exact below_set5 (((HB2.out.setCell (p := ⟨G, 2, none⟩) (by show w.heap.size ≤ G; omega) _).setCell (p := ⟨G, 3, none⟩) (by show w.heap.size ≤ G; omega) _).setCell (p := ⟨G, 4, none⟩) (by show w.heap.size ≤ G; omega) _) (Nat.le_refl _) _ _ _ _ _
  · rw [if_pos rfl]
    go_enter Tryz.func34, Tryz.ntmps34
    go_wp2_with fail
    refine (H1.out _).mono ?_
    rintro e1 w1 ⟨rfl, hb1⟩
    have B1 := Blk.new w1 #[.string h, .int .i64 n, .string ⟨#[]⟩, .string ⟨#[]⟩, .bool false] 23
    have A1 := (A0.out.later hb1).alloc (.cells #[.string h, .int .i64 n, .string ⟨#[]⟩, .string ⟨#[]⟩, .bool false] 23)
    have hb1' := below_then (below_then HB.out hb1) (below_a1 w1 (.cells #[.string h, .int .i64 n, .string ⟨#[]⟩, .string ⟨#[]⟩, .bool false] 23))
    have hlt := (A0.out.later hb1).lt
    clear hb1 HB A0
    go_wp2_with (first | (go_at_call 67; refine (HD.out _).mono ?_; rintro e3 w3 ⟨rfl, rfl⟩) | fail)
    refine (H2.out _).mono ?_
    rintro e2 w2 ⟨rfl, hb2⟩
    have B2 := B1.later hb2
    have A2 := A1.later hb2
    have HB2 := hideB2 (below_then hb1' hb2)
    obtain ⟨p0, p1, p2, p3, p4⟩ := B2.u5
    obtain ⟨f0, f1, f2, f3, f4⟩ := B2.f5U
    obtain ⟨a0, a1, a2, a3, a4⟩ := A2.u5
    obtain ⟨g0, g1, g2, g3, g4⟩ := A2.f5U
    have HA2 := hideB2 A2
    clear B1 B2 A1 A2 hb1' hb2 H1 H2
    have hne : w1.heap.size ≠ w.heap.size := by omega
    have hne' : w.heap.size ≠ w1.heap.size := by omega
    generalize w1.heap.size = G at *
    go_wp2
    refine bodyPost_ret (results_cellS rfl _ _ _ rfl ((((HA2.out.other hne 2 _).other hne 3 _).other hne 4 _).set5U _ _ _ _ _) Tryz.underlying23 Tryz.infoUrl) rfl ⟨rfl, ?_⟩
    exact below_set5 (((HB2.out.setCell (p := ⟨G, 2, none⟩) (by show w.heap.size ≤ G; omega) _).setCell (p := ⟨G, 3, none⟩) (by show w.heap.size ≤ G; omega) _).setCell (p := ⟨G, 4, none⟩) (by show w.heap.size ≤ G; omega) _) (Nat.le_refl _) _ _ _ _ _
theorem clnB_size (p : ByteArray) : (clnB p).size ≤ 202 := by
  cases hp : pthQ p
  · rw [clnB_no hp]; show (0 : Nat) ≤ _; omega
  · rw [clnB_yes hp]
    have hz : p.size ≤ 200 := by
      unfold pthQ at hp
      rw [Bool.and_eq_true, Bool.and_eq_true] at hp
      exact (targQ_iff.1 hp.1.1).2.1
    have h1 := evB_size (p.extract 1 p.size)
    have h2 : (p.extract 1 p.size).size ≤ p.size := by rw [ByteArray.size_extract]; omega
    generalize evB (p.extract 1 p.size) = y at *
    have h3 := splS_len 47 y
    have h4 := splS_sum 47 y.size y (Nat.le_refl _)
    generalize splS 47 y = L at *
    have h5 := keptL_le L
    generalize keptL L = K at *
    unfold clnL
    split
    · show (1 : Nat) ≤ _; omega
    · show (tailS 47 K).toArray.size ≤ _
      rw [List.size_toArray, tailS_len]
      omega
theorem ext7 {s : ByteArray} (h : 7 ≤ s.size) : (foldB s).extract 0 7 = foldB (s.extract 0 7) := by
  apply bytes_ext
  rw [Lib.extract_data]
  unfold foldB foldL
  rw [Lib.extract_data]
  simp [List.map_take]
set_option maxHeartbeats 1000000 in
theorem HasPre7_any (s : ByteArray) (w : World) (hs : s.size ≤ maxLen) :
    Calls Tryz.prog 31 #[.string (foldB s), .string ⟨#[104, 116, 116, 112, 58, 47, 47]⟩] w fun e w' => e = .returned (.bool (pre7 s)) ∧ w' = w := by
  unfold maxLen at hs
  have hz := foldB_size s
  by_cases h7 : 7 ≤ s.size
  · have e1 : pre7 s = ((foldB s).extract 0 7).toList.beq [104, 116, 116, 112, 58, 47, 47] := by
      unfold pre7
      rw [decide_eq_true h7, Bool.true_and, ext7 h7]
      unfold eqB
      rw [ByteArray.toList_eq schB]
      rfl
    have h1 : (7 : Int) ≤ ((foldB s).size : Int) := by omega
    have h2 : (((foldB s).extract 0 7).toList == [104, 116, 116, 112, 58, 47, 47]) = pre7 s := e1.symm
    clear e1 h7
    generalize foldB s = x at *
    generalize pre7 s = q at *
    go_enter Tryz.func31, Tryz.ntmps31
    go_wp2
    go_ret
    exact ⟨by first | rfl | (rw [h2]), rfl⟩
  · have e1 : pre7 s = false := by unfold pre7; rw [decide_eq_false h7]; rfl
    have h1 : ¬ (7 : Int) ≤ ((foldB s).size : Int) := by omega
    rw [e1]
    clear e1 h7
    generalize foldB s = x at *
    go_enter Tryz.func31, Tryz.ntmps31
    go_wp2
    go_ret
    exact ⟨rfl, rfl⟩
theorem rdA_no {s : ByteArray} (h : rdA s = false) : rdO s = false ∧ rdU s = ur0 := by
  have h1 : rdO s = false := by unfold rdO; rw [h]; rfl
  exact ⟨h1, by unfold rdU; rw [h1]; rfl⟩
theorem rdA_yes {s : ByteArray} (h : rdA s = true) : rdO s = urQ (rdK (s.extract 7 s.size)) ∧ rdU s = if urQ (rdK (s.extract 7 s.size)) = true then rdK (s.extract 7 s.size) else ur0 := by
  have h1 : rdO s = urQ (rdK (s.extract 7 s.size)) := by unfold rdO; rw [h, Bool.true_and]
  exact ⟨h1, by unfold rdU; rw [h1]⟩
theorem vis_at {s : ByteArray} (h : targQ s = true) : ∀ j, j < s.size → (at8 s j).toNat < 128 := by
  intro j hj
  have hl : j < s.data.toList.length := by rw [len_data]; exact hj
  have e : s.data.toList[j]? = some (at8 s j) := by
    unfold at8
    rw [List.getD, List.getElem?_eq_getElem hl, Option.getD_some]
  exact vis_ascii h j _ e
set_option maxRecDepth 100000 in
set_option maxHeartbeats 8000000 in
theorem ReadUrl_any (s : ByteArray) (w : World) (hs : s.size ≤ 1048576) (htab : Tab10 w) :
    Calls Tryz.prog 9 #[.string s] w fun e w' => e = .returned (.tuple #[valU (rdU s), .bool (rdO s)]) ∧ Below w.heap.size w w' := by
  have HB := hideB2 (below_a1 w (.cells #[.string ⟨#[]⟩, .int .i64 0, .string ⟨#[]⟩, .string ⟨#[]⟩, .bool false] 23))
  have A0 := hideB2 (Blk.new w #[.string ⟨#[]⟩, .int .i64 0, .string ⟨#[]⟩, .string ⟨#[]⟩, .bool false] 23)
  have HT := hideB2 htab
  have H1 := hideB2 (fun W => targetOk_any s W (by unfold maxLen; omega))
  have H2 := hideB2 (fun W => Any.strings_Contains_one Tryz.lays144 s 35 W)
  change Hid (∀ W, Calls _ _ _ W fun e w' => e = .returned (.bool (decide (0 ≤ idxS 35 s))) ∧ w' = W) at H2
  have H3 := hideB2 (fun W => Fold_any s W (by unfold maxLen; omega))
  have H4 := hideB2 (fun W => HasPre7_any s W (by unfold maxLen; omega))
  clear htab
  cases q1 : targQ s
  · obtain ⟨e1, e2⟩ := rdA_no (s := s) (by unfold rdA; rw [q1]; rfl)
    rw [e1, e2]
    rw [q1] at H1
    clear e1 e2 q1
    go_enter Tryz.func9, Tryz.ntmps9
    go_wp2_with (go_at_call 29; refine (H1.out _).mono ?_; rintro e w' ⟨rfl, rfl⟩)
    refine bodyPost_ret (results_cellT rfl _ _ _ rfl (Blk.new w _ _) Tryz.underlying23 Tryz.infoUrl) rfl ⟨rfl, HB.out⟩
  · rw [q1] at H1
    by_cases q2 : 0 ≤ idxS 35 s
    · obtain ⟨e1, e2⟩ := rdA_no (s := s) (by unfold rdA; rw [decide_eq_false (show ¬ idxS 35 s < 0 by omega)]; simp)
      rw [e1, e2]
      rw [decide_eq_true q2] at H2
      clear e1 e2 q1 q2
      go_enter Tryz.func9, Tryz.ntmps9
      go_wp2_with (first | (go_at_call 29; refine (H1.out _).mono ?_; rintro e w' ⟨rfl, rfl⟩) | (go_at_call 30; refine (H2.out _).mono ?_; rintro e w' ⟨rfl, rfl⟩))
      refine bodyPost_ret (results_cellT rfl _ _ _ rfl (Blk.new w _ _) Tryz.underlying23 Tryz.infoUrl) rfl ⟨rfl, HB.out⟩
    · rw [decide_eq_false q2] at H2
      cases q3 : pre7 s
      · obtain ⟨e1, e2⟩ := rdA_no (s := s) (by unfold rdA; rw [q3]; simp)
        rw [e1, e2]
        rw [q3] at H4
        clear e1 e2 q1 q2 q3
        go_enter Tryz.func9, Tryz.ntmps9
        go_wp2_with (first | (go_at_call 29; refine (H1.out _).mono ?_; rintro e w' ⟨rfl, rfl⟩) | (go_at_call 30; refine (H2.out _).mono ?_; rintro e w' ⟨rfl, rfl⟩) | (go_at_call 32; refine (H3.out _).mono ?_; rintro e w1 ⟨rfl, hb1⟩; have A1 := hideB2 (A0.out.later hb1); have HB1 := hideB2 (below_then HB.out hb1); obtain ⟨a0, a1, a2, a3, a4⟩ := A1.out.u5; obtain ⟨g0, g1, g2, g3, g4⟩ := A1.out.f5U) | (go_at_call 31; refine (H4.out _).mono ?_; rintro e w' ⟨rfl, rfl⟩))
        refine bodyPost_ret (results_cellT rfl _ _ _ rfl (A1.out.set5U _ _ _ _ _) Tryz.underlying23 Tryz.infoUrl) rfl ⟨rfl, ?_⟩
        exact below_set5 HB1.out (Nat.le_refl _) _ _ _ _ _
      · rw [q3] at H4
        obtain ⟨e1, e2⟩ := rdA_yes (s := s) (by unfold rdA; rw [q1, q3, decide_eq_true (show idxS 35 s < 0 by omega)]; rfl)
        generalize hU : rdU s = U at *
        generalize hO : rdO s = O at *
        have HUO := hideB2 (And.intro e1 e2)
        clear hU hO
        have h7 : 7 ≤ s.size := by unfold pre7 at q3; rw [Bool.and_eq_true, decide_eq_true_eq] at q3; exact q3.1
        have hva := vis_at q1
        have hrz : (s.extract 7 s.size).size = s.size - 7 := by rw [ByteArray.size_extract]; omega
        have hrv : ∀ j, j < (s.extract 7 s.size).size → (at8 (s.extract 7 s.size) j).toNat < 128 := by
          intro j hj
          rw [at8_extS (Nat.le_refl _) (by omega)]
          exact hva _ (by omega)
        have c1 : (7 : Int) ≤ (s.size : Int) := by omega
        clear e1 e2 q1 q2 q3 hva
        generalize hrr : s.extract 7 s.size = r at *
        have H5 := hideB2 (fun W => cutAuthority_any r W (by omega) hrv)
        have haz := auU_size r
        have hrz2 : (reU r).size ≤ r.size := by unfold reU; rw [ByteArray.size_extract]; omega
        have H6 := hideB2 (fun W => looseUrl_any (auU r) (reU r) W (by omega) (by omega))
        obtain ⟨k1, k2, k3, k4⟩ := reU_cut r
        have hk : rdK r = ⟨foldB (uptS 58 (auU r)), clnB (if (uptS 63 (reU r)).size = 0 then rootB else uptS 63 (reU r)), bhS 63 (reU r), if hasS 58 (auU r) = true then rdecN (bhS 58 (auU r)) else 80, hasS 63 (reU r)⟩ := by unfold rdK; rw [k2, k3]
        have HK := hideB2 hk
        have z1 := uptS_size 58 (auU r)
        have z2 := uptS_size 63 (reU r)
        have z3 := bhS_size 63 (reU r)
        clear k1 k2 k3 k4 hk hrv
        generalize rdK r = KK at *
        generalize (if hasS 58 (auU r) = true then rdecN (bhS 58 (auU r)) else 80) = po at *
        generalize uptS 58 (auU r) = ho at *
        generalize uptS 63 (reU r) = pt at *
        generalize bhS 63 (reU r) = qu at *
        generalize hasS 63 (reU r) = hq at *
        generalize auU r = au at *
        generalize reU r = re at *
        have H7 := hideB2 (fun W => Fold_any ho W (by unfold maxLen; omega))
        have hfz := foldB_size ho
        generalize foldB ho = fo at *
        have hpz : (if pt.size = 0 then rootB else pt).size ≤ 1048576 := by
          split
          · show (1 : Nat) ≤ _; omega
          · omega
        have H8 := hideB2 (fun W => CleanPath_any (if pt.size = 0 then rootB else pt) W (by unfold maxLen; omega))
        have hcz : (clnB (if pt.size = 0 then rootB else pt)).size ≤ 1048576 := by
          have := clnB_size (if pt.size = 0 then rootB else pt)
          omega
        have HKE := hideB2 (show urQ KK = urlQ fo (clnB (if pt.size = 0 then rootB else pt)) qu po hq by rw [HK.out]; rfl)
        generalize clnB (if pt.size = 0 then rootB else pt) = cp at *
        have H9 := hideB2 (fun W (h : Tab10 W) => UrlOk_any fo cp qu po hq W h (by omega) hcz (by omega))
        rw [← HKE.out] at H9
        go_enter Tryz.func9, Tryz.ntmps9
        go_wp2_with (first | (go_at_call 29; refine (H1.out _).mono ?_; rintro e w' ⟨rfl, rfl⟩) | (go_at_call 30; refine (H2.out _).mono ?_; rintro e w' ⟨rfl, rfl⟩) | (go_at_call 32; refine (H3.out _).mono ?_; rintro e w1 ⟨rfl, hb1⟩) | (go_at_call 31; refine (H4.out _).mono ?_; rintro e w' ⟨rfl, rfl⟩) | (go_at_call 33; (try rw [hrr]); refine (H5.out _).mono ?_; rintro e w2 ⟨rfl, hb2⟩) | fail)
        refine (H6.out _).mono ?_
        rintro e w3 ⟨rfl, hb3⟩
        have A3 := ((A0.out.later hb1).later hb2).later hb3
        have hb3' := below_then (below_then (below_then HB.out hb1) hb2) hb3
        have hlt := A3.lt
        have B3 := Blk.new w3 #[.string ho, .int .i64 po, .string pt, .string qu, .bool hq] 23
        have A3' := A3.alloc (.cells #[.string ho, .int .i64 po, .string pt, .string qu, .bool hq] 23)
        have hb3'' := below_then hb3' (below_a1 w3 (.cells #[.string ho, .int .i64 po, .string pt, .string qu, .bool hq] 23))
        clear hb1 hb2 hb3 A3 A0 HB H1 H2 H3 H4 H5 H6
        go_wp2_with fail
        refine (H7.out _).mono ?_
        rintro e w4 ⟨rfl, hb4⟩
        have B4 := B3.later hb4
        have A4 := A3'.later hb4
        have HB4 := hideB2 (below_then hb3'' hb4)
        have hne : w3.heap.size ≠ w.heap.size := by omega
        have hge : w.heap.size ≤ w3.heap.size := by omega
        obtain ⟨p0, p1, p2, p3, p4⟩ := B4.u5
        obtain ⟨f0, f1, f2, f3, f4⟩ := B4.f5U
        have HBB4 := hideB2 B4
        have HA4 := hideB2 A4
        clear B3 A3' hb3'' hb3' hb4 B4 A4 hlt H7
        generalize w3.heap.size = G at *
        obtain rfl := HK.out
        clear HK HKE
        generalize urQ ⟨fo, cp, qu, po, hq⟩ = okv at *
        by_cases hp0 : pt.size = 0
        · have hne0 := empty_of hp0
          rw [if_pos hp0] at H8
          unfold rootB at H8
          clear hp0 hpz
          go_wp2_with fail
          refine (H8.out _).mono ?_
          rintro e w5 ⟨rfl, hb5⟩
          have B5 : Blk w5 G #[.string fo, .int .i64 po, .string ⟨#[47]⟩, .string qu, .bool hq] 23 := ((HBB4.out.set 0 _).set 2 _).later hb5
          have A5 : Blk w5 w.heap.size #[.string ⟨#[]⟩, .int .i64 0, .string ⟨#[]⟩, .string ⟨#[]⟩, .bool false] 23 := ((HA4.out.other hne 0 _).other hne 2 _).later hb5
          have HB5 := hideB2 (below_then ((HB4.out.setCell (p := ⟨G, 0, none⟩) hge _).setCell (p := ⟨G, 2, none⟩) hge _) hb5)
          clear p0 p1 p2 p3 p4 f0 f1 f2 f3 f4 hb5 HBB4 HA4 HB4 H8
          obtain ⟨p0, p1, p2, p3, p4⟩ := B5.u5
          obtain ⟨f0, f1, f2, f3, f4⟩ := B5.f5U
          have HBB5 := hideB2 B5
          have HA5 := hideB2 A5
          clear B5 A5
          go_wp2_with fail
          refine (H9.out _ (tab_later HT.out (HB5.out.setCell (p := ⟨G, 2, none⟩) hge _))).mono ?_
          rintro e w7 ⟨rfl, hb7⟩
          have B7 : Blk w7 G #[.string fo, .int .i64 po, .string cp, .string qu, .bool hq] 23 := (HBB5.out.set 2 _).later hb7
          have A7 : Blk w7 w.heap.size #[.string ⟨#[]⟩, .int .i64 0, .string ⟨#[]⟩, .string ⟨#[]⟩, .bool false] 23 := (HA5.out.other hne 2 _).later hb7
          have HB7 := hideB2 (below_then (HB5.out.setCell (p := ⟨G, 2, none⟩) hge _) hb7)
          clear p0 p1 p2 p3 p4 f0 f1 f2 f3 f4 hb7 HBB5 HA5 HB5
          obtain ⟨p0, p1, p2, p3, p4⟩ := B7.u5
          obtain ⟨a0, a1, a2, a3, a4⟩ := A7.u5
          obtain ⟨g0, g1, g2, g3, g4⟩ := A7.f5U
          have HA7 := hideB2 A7
          clear B7 A7 H9
          cases okv
          · have HF := hideB2 (show Ending.returned (.tuple #[.agg #[.string ⟨#[]⟩, .int .i64 0, .string ⟨#[]⟩, .string ⟨#[]⟩, .bool false], .bool false]) = .returned (.tuple #[valU U, .bool O]) by obtain ⟨h1, h2⟩ := HUO.out; rw [h1, h2]; rfl)
            go_wp2
            refine bodyPost_ret (results_cellT rfl _ _ _ rfl (HA7.out.set5U _ _ _ _ _) Tryz.underlying23 Tryz.infoUrl) rfl ⟨?_, ?_⟩
            · exact HF.out
            exact below_set5 HB7.out (Nat.le_refl _) _ _ _ _ _
          · have HF := hideB2 (show Ending.returned (.tuple #[.agg #[.string fo, .int .i64 po, .string cp, .string qu, .bool hq], .bool true]) = .returned (.tuple #[valU U, .bool O]) by obtain ⟨h1, h2⟩ := HUO.out; rw [h1, h2]; rfl)
            go_wp2
            refine bodyPost_ret (results_cellT rfl _ _ _ rfl (HA7.out.set5U _ _ _ _ _) Tryz.underlying23 Tryz.infoUrl) rfl ⟨?_, ?_⟩
            · exact HF.out
            exact below_set5 HB7.out (Nat.le_refl _) _ _ _ _ _
        · have hne0 := nonempty_of hp0
          rw [if_neg hp0] at H8
          clear hp0 hpz
          go_wp2_with fail
          refine (H8.out _).mono ?_
          rintro e w5 ⟨rfl, hb5⟩
          have B5 : Blk w5 G #[.string fo, .int .i64 po, .string pt, .string qu, .bool hq] 23 := (HBB4.out.set 0 _).later hb5
          have A5 : Blk w5 w.heap.size #[.string ⟨#[]⟩, .int .i64 0, .string ⟨#[]⟩, .string ⟨#[]⟩, .bool false] 23 := (HA4.out.other hne 0 _).later hb5
          have HB5 := hideB2 (below_then (HB4.out.setCell (p := ⟨G, 0, none⟩) hge _) hb5)
          clear p0 p1 p2 p3 p4 f0 f1 f2 f3 f4 hb5 HBB4 HA4 HB4 H8
          obtain ⟨p0, p1, p2, p3, p4⟩ := B5.u5
          obtain ⟨f0, f1, f2, f3, f4⟩ := B5.f5U
          have HBB5 := hideB2 B5
          have HA5 := hideB2 A5
          clear B5 A5
          go_wp2_with fail
          refine (H9.out _ (tab_later HT.out (HB5.out.setCell (p := ⟨G, 2, none⟩) hge _))).mono ?_
          rintro e w7 ⟨rfl, hb7⟩
          have B7 : Blk w7 G #[.string fo, .int .i64 po, .string cp, .string qu, .bool hq] 23 := (HBB5.out.set 2 _).later hb7
          have A7 : Blk w7 w.heap.size #[.string ⟨#[]⟩, .int .i64 0, .string ⟨#[]⟩, .string ⟨#[]⟩, .bool false] 23 := (HA5.out.other hne 2 _).later hb7
          have HB7 := hideB2 (below_then (HB5.out.setCell (p := ⟨G, 2, none⟩) hge _) hb7)
          clear p0 p1 p2 p3 p4 f0 f1 f2 f3 f4 hb7 HBB5 HA5 HB5
          obtain ⟨p0, p1, p2, p3, p4⟩ := B7.u5
          obtain ⟨a0, a1, a2, a3, a4⟩ := A7.u5
          obtain ⟨g0, g1, g2, g3, g4⟩ := A7.f5U
          have HA7 := hideB2 A7
          clear B7 A7 H9
          cases okv
          · have HF := hideB2 (show Ending.returned (.tuple #[.agg #[.string ⟨#[]⟩, .int .i64 0, .string ⟨#[]⟩, .string ⟨#[]⟩, .bool false], .bool false]) = .returned (.tuple #[valU U, .bool O]) by obtain ⟨h1, h2⟩ := HUO.out; rw [h1, h2]; rfl)
            go_wp2
            refine bodyPost_ret (results_cellT rfl _ _ _ rfl (HA7.out.set5U _ _ _ _ _) Tryz.underlying23 Tryz.infoUrl) rfl ⟨?_, ?_⟩
            · exact HF.out
            exact below_set5 HB7.out (Nat.le_refl _) _ _ _ _ _
          · have HF := hideB2 (show Ending.returned (.tuple #[.agg #[.string fo, .int .i64 po, .string cp, .string qu, .bool hq], .bool true]) = .returned (.tuple #[valU U, .bool O]) by obtain ⟨h1, h2⟩ := HUO.out; rw [h1, h2]; rfl)
            go_wp2
            refine bodyPost_ret (results_cellT rfl _ _ _ rfl (HA7.out.set5U _ _ _ _ _) Tryz.underlying23 Tryz.infoUrl) rfl ⟨?_, ?_⟩
            · exact HF.out
            exact below_set5 HB7.out (Nat.le_refl _) _ _ _ _ _
end Go.Proofs.YtefhpjipcdmbaabGreatDoor
