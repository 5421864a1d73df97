/-
  Chapter 7: an address read; the program's side. · Chapter 7: an address read; the specification's side. · Chapter 7: an address in its one form; both sides; addresses held against each other. · What a card of a door seat of chapter 1 needs: the listed tables. · What a card of a door seat of chapter 6 needs: the table of the powers of ten.
-/
import Derived.Test.YtmhohponikolfaaGreatDoorJ4
import Derived.Lib.LaidTab
import Derived.LaidLaws
import Derived.LaidHandle
import Derived.ChangeVars
import Derived.OpenVars
import Derived.SevenTiedAt
import Derived.Test.YtmhohponikolfaaGreatDoorJ0
namespace Go.Proofs.YtmhohponikolfaaGreatDoor
set_option linter.unusedVariables false
set_option linter.unusedSimpArgs false
open Go.RowKit
theorem Blk.set5U {w : World} {g : Nat} {a b c d e : Value} {t : TypeId} (H : Blk w g #[a, b, c, d, e] t) (x0 x1 x2 x3 x4 : Value) : Blk (((((w.setCell ⟨g, 0, none⟩ x0).setCell ⟨g, 1, none⟩ x1).setCell ⟨g, 2, none⟩ x2).setCell ⟨g, 3, none⟩ x3).setCell ⟨g, 4, none⟩ x4) g #[x0, x1, x2, x3, x4] t := by
  have h0 : Blk (w.setCell ⟨g, 0, none⟩ x0) g #[x0, b, c, d, e] t := H.set 0 x0
  have h1 : Blk ((w.setCell ⟨g, 0, none⟩ x0).setCell ⟨g, 1, none⟩ x1) g #[x0, x1, c, d, e] t := h0.set 1 x1
  have h2 : Blk (((w.setCell ⟨g, 0, none⟩ x0).setCell ⟨g, 1, none⟩ x1).setCell ⟨g, 2, none⟩ x2) g #[x0, x1, x2, d, e] t := h1.set 2 x2
  have h3 : Blk ((((w.setCell ⟨g, 0, none⟩ x0).setCell ⟨g, 1, none⟩ x1).setCell ⟨g, 2, none⟩ x2).setCell ⟨g, 3, none⟩ x3) g #[x0, x1, x2, x3, e] t := h2.set 3 x3
  exact h3.set 4 x4
theorem Blk.f5U {w : World} {g : Nat} {c : Array Value} {t : TypeId} (H : Blk w g c t) : w.frozen? ⟨g, 0, none⟩ = false ∧ w.frozen? ⟨g, 1, none⟩ = false ∧ w.frozen? ⟨g, 2, none⟩ = false ∧ w.frozen? ⟨g, 3, none⟩ = false ∧ w.frozen? ⟨g, 4, none⟩ = false := ⟨H.free 0, H.free 1, H.free 2, H.free 3, H.free 4⟩
theorem below_set5 {B g : Nat} {w0 w : World} (H : Below B w0 w) (hg : B ≤ g) (x0 x1 x2 x3 x4 : Value) : Below B w0 (((((w.setCell ⟨g, 0, none⟩ x0).setCell ⟨g, 1, none⟩ x1).setCell ⟨g, 2, none⟩ x2).setCell ⟨g, 3, none⟩ x3).setCell ⟨g, 4, none⟩ x4) := ((((H.setCell (p := ⟨g, 0, none⟩) hg x0).setCell (p := ⟨g, 1, none⟩) hg x1).setCell (p := ⟨g, 2, none⟩) hg x2).setCell (p := ⟨g, 3, none⟩) hg x3).setCell (p := ⟨g, 4, none⟩) hg x4
set_option maxRecDepth 100000 in
set_option maxHeartbeats 4000000 in
theorem looseUrl_any (a e : ByteArray) (w : World) (ha : a.size ≤ 1048576) (he : e.size ≤ 1048576) :
    Calls Tryz.prog 46 #[.string a, .string e] w fun r w' => r = .returned (.agg #[.string (uptS 58 a), .int .i64 (if hasS 58 a = true then rdecN (bhS 58 a) else 80), .string (uptS 63 e), .string (bhS 63 e), .bool (hasS 63 e)]) ∧ Below w.heap.size w w' := by
  have HB := hideB2 (below_a1 w (.cells #[.string ⟨#[]⟩, .int .i64 0, .string ⟨#[]⟩, .string ⟨#[]⟩, .bool false] 38))
  have A0 := hideB2 (Blk.new w #[.string ⟨#[]⟩, .int .i64 0, .string ⟨#[]⟩, .string ⟨#[]⟩, .bool false] 38)
  have H1 := hideB2 (fun W => CutS_any a 58 W (by unfold maxLen; omega))
  have H2 := hideB2 (fun W => CutS_any e 63 W (by unfold maxLen; omega))
  have hz := bhS_size 58 a
  have HD := hideB2 (fun W => ReadDec_any (bhS 58 a) W (by unfold maxLen; omega))
  clear hz
  generalize rdecN (bhS 58 a) = n at *
  generalize rdecOk (bhS 58 a) = okn at *
  generalize bhS 58 a = d at *
  generalize uptS 58 a = h at *
  generalize uptS 63 e = p at *
  generalize bhS 63 e = q at *
  generalize hasS 63 e = b at *
  generalize hasS 58 a = told at *
  cases told
  · rw [if_neg (by simp)]
    go_enter Tryz.func46, Tryz.ntmps46
    go_wp2_with fail
    refine (H1.out _).mono ?_
    rintro e1 w1 ⟨rfl, hb1⟩
    have B1 := Blk.new w1 #[.string h, .int .i64 80, .string ⟨#[]⟩, .string ⟨#[]⟩, .bool false] 38
    have A1 := (A0.out.later hb1).alloc (.cells #[.string h, .int .i64 80, .string ⟨#[]⟩, .string ⟨#[]⟩, .bool false] 38)
    have hb1' := below_then (below_then HB.out hb1) (below_a1 w1 (.cells #[.string h, .int .i64 80, .string ⟨#[]⟩, .string ⟨#[]⟩, .bool false] 38))
    have hlt := (A0.out.later hb1).lt
    clear hb1 HB A0
    go_wp2_with fail
    refine (H2.out _).mono ?_
    rintro e2 w2 ⟨rfl, hb2⟩
    have B2 := B1.later hb2
    have A2 := A1.later hb2
    have HB2 := hideB2 (below_then hb1' hb2)
    obtain ⟨p0, p1, p2, p3, p4⟩ := B2.u5
    obtain ⟨f0, f1, f2, f3, f4⟩ := B2.f5U
    obtain ⟨a0, a1, a2, a3, a4⟩ := A2.u5
    obtain ⟨g0, g1, g2, g3, g4⟩ := A2.f5U
    have HA2 := hideB2 A2
    clear B1 B2 A1 A2 hb1' hb2 H1 H2
    generalize w1.heap.size = G at *
    have hne : G ≠ w.heap.size := by omega
    have hne' : w.heap.size ≠ G := by omega
    go_wp2
    refine bodyPost_ret (results_cellS rfl _ _ _ rfl ((((HA2.out.other hne 2 _).other hne 3 _).other hne 4 _).set5U _ _ _ _ _) Tryz.underlying38 Tryz.infoUrl) rfl ⟨rfl, ?_⟩
    exact below_set5 (((HB2.out.setCell (p := ⟨G, 2, none⟩) (by show w.heap.size ≤ G; omega) _).setCell (p := ⟨G, 3, none⟩) (by show w.heap.size ≤ G; omega) _).setCell (p := ⟨G, 4, none⟩) (by show w.heap.size ≤ G; omega) _) (Nat.le_refl _) _ _ _ _ _
  · rw [if_pos rfl]
    go_enter Tryz.func46, Tryz.ntmps46
    go_wp2_with fail
    refine (H1.out _).mono ?_
    rintro e1 w1 ⟨rfl, hb1⟩
    have B1 := Blk.new w1 #[.string h, .int .i64 n, .string ⟨#[]⟩, .string ⟨#[]⟩, .bool false] 38
    have A1 := (A0.out.later hb1).alloc (.cells #[.string h, .int .i64 n, .string ⟨#[]⟩, .string ⟨#[]⟩, .bool false] 38)
    have hb1' := below_then (below_then HB.out hb1) (below_a1 w1 (.cells #[.string h, .int .i64 n, .string ⟨#[]⟩, .string ⟨#[]⟩, .bool false] 38))
    have hlt := (A0.out.later hb1).lt
    clear hb1 HB A0
    go_wp2_with (first | (go_at_call 90; refine (HD.out _).mono ?_; rintro e3 w3 ⟨rfl, rfl⟩) | fail)
    refine (H2.out _).mono ?_
    rintro e2 w2 ⟨rfl, hb2⟩
    have B2 := B1.later hb2
    have A2 := A1.later hb2
    have HB2 := hideB2 (below_then hb1' hb2)
    obtain ⟨p0, p1, p2, p3, p4⟩ := B2.u5
    obtain ⟨f0, f1, f2, f3, f4⟩ := B2.f5U
    obtain ⟨a0, a1, a2, a3, a4⟩ := A2.u5
    obtain ⟨g0, g1, g2, g3, g4⟩ := A2.f5U
    have HA2 := hideB2 A2
    clear B1 B2 A1 A2 hb1' hb2 H1 H2
    have hne : w1.heap.size ≠ w.heap.size := by omega
    have hne' : w.heap.size ≠ w1.heap.size := by omega
    generalize w1.heap.size = G at *
    go_wp2
    refine bodyPost_ret (results_cellS rfl _ _ _ rfl ((((HA2.out.other hne 2 _).other hne 3 _).other hne 4 _).set5U _ _ _ _ _) Tryz.underlying38 Tryz.infoUrl) rfl ⟨rfl, ?_⟩
    exact below_set5 (((HB2.out.setCell (p := ⟨G, 2, none⟩) (by show w.heap.size ≤ G; omega) _).setCell (p := ⟨G, 3, none⟩) (by show w.heap.size ≤ G; omega) _).setCell (p := ⟨G, 4, none⟩) (by show w.heap.size ≤ G; omega) _) (Nat.le_refl _) _ _ _ _ _
theorem clnB_size (p : ByteArray) : (clnB p).size ≤ 202 := by
  cases hp : pthQ p
  · rw [clnB_no hp]; show (0 : Nat) ≤ _; omega
  · rw [clnB_yes hp]
    have hz : p.size ≤ 200 := by
      unfold pthQ at hp
      rw [Bool.and_eq_true, Bool.and_eq_true] at hp
      exact (targQ_iff.1 hp.1.1).2.1
    have h1 := evB_size (p.extract 1 p.size)
    have h2 : (p.extract 1 p.size).size ≤ p.size := by rw [ByteArray.size_extract]; omega
    generalize evB (p.extract 1 p.size) = y at *
    have h3 := splS_len 47 y
    have h4 := splS_sum 47 y.size y (Nat.le_refl _)
    generalize splS 47 y = L at *
    have h5 := keptL_le L
    generalize keptL L = K at *
    unfold clnL
    split
    · show (1 : Nat) ≤ _; omega
    · show (tailS 47 K).toArray.size ≤ _
      rw [List.size_toArray, tailS_len]
      omega
theorem ext7 {s : ByteArray} (h : 7 ≤ s.size) : (foldB s).extract 0 7 = foldB (s.extract 0 7) := by
  apply bytes_ext
  rw [Lib.extract_data]
  unfold foldB foldL
  rw [Lib.extract_data]
  simp [List.map_take]
set_option maxHeartbeats 1000000 in
theorem HasPre7_any (s : ByteArray) (w : World) (hs : s.size ≤ maxLen) :
    Calls Tryz.prog 43 #[.string (foldB s), .string ⟨#[104, 116, 116, 112, 58, 47, 47]⟩] w fun e w' => e = .returned (.bool (pre7 s)) ∧ w' = w := by
  unfold maxLen at hs
  have hz := foldB_size s
  by_cases h7 : 7 ≤ s.size
  · have e1 : pre7 s = ((foldB s).extract 0 7).toList.beq [104, 116, 116, 112, 58, 47, 47] := by
      unfold pre7
      rw [decide_eq_true h7, Bool.true_and, ext7 h7]
      unfold eqB
      rw [ByteArray.toList_eq schB]
      rfl
    have h1 : (7 : Int) ≤ ((foldB s).size : Int) := by omega
    have h2 : (((foldB s).extract 0 7).toList == [104, 116, 116, 112, 58, 47, 47]) = pre7 s := e1.symm
    clear e1 h7
    generalize foldB s = x at *
    generalize pre7 s = q at *
    go_enter Tryz.func43, Tryz.ntmps43
    go_wp2
    go_ret
    exact ⟨by first | rfl | (rw [h2]), rfl⟩
  · have e1 : pre7 s = false := by unfold pre7; rw [decide_eq_false h7]; rfl
    have h1 : ¬ (7 : Int) ≤ ((foldB s).size : Int) := by omega
    rw [e1]
    clear e1 h7
    generalize foldB s = x at *
    go_enter Tryz.func43, Tryz.ntmps43
    go_wp2
    go_ret
    exact ⟨rfl, rfl⟩
theorem rdA_no {s : ByteArray} (h : rdA s = false) : rdO s = false ∧ rdU s = ur0 := by
  have h1 : rdO s = false := by unfold rdO; rw [h]; rfl
  exact ⟨h1, by unfold rdU; rw [h1]; rfl⟩
theorem rdA_yes {s : ByteArray} (h : rdA s = true) : rdO s = urQ (rdK (s.extract 7 s.size)) ∧ rdU s = if urQ (rdK (s.extract 7 s.size)) = true then rdK (s.extract 7 s.size) else ur0 := by
  have h1 : rdO s = urQ (rdK (s.extract 7 s.size)) := by unfold rdO; rw [h, Bool.true_and]
  exact ⟨h1, by unfold rdU; rw [h1]⟩
theorem vis_at {s : ByteArray} (h : targQ s = true) : ∀ j, j < s.size → (at8 s j).toNat < 128 := by
  intro j hj
  have hl : j < s.data.toList.length := by rw [len_data]; exact hj
  have e : s.data.toList[j]? = some (at8 s j) := by
    unfold at8
    rw [List.getD, List.getElem?_eq_getElem hl, Option.getD_some]
  exact vis_ascii h j _ e
set_option maxRecDepth 100000 in
set_option maxHeartbeats 8000000 in
theorem ReadUrl_any (s : ByteArray) (w : World) (hs : s.size ≤ 1048576) (htab : Tab10 w) :
    Calls Tryz.prog 18 #[.string s] w fun e w' => e = .returned (.tuple #[valU (rdU s), .bool (rdO s)]) ∧ Below w.heap.size w w' := by
  have HB := hideB2 (below_a1 w (.cells #[.string ⟨#[]⟩, .int .i64 0, .string ⟨#[]⟩, .string ⟨#[]⟩, .bool false] 38))
  have A0 := hideB2 (Blk.new w #[.string ⟨#[]⟩, .int .i64 0, .string ⟨#[]⟩, .string ⟨#[]⟩, .bool false] 38)
  have HT := hideB2 htab
  have H1 := hideB2 (fun W => targetOk_any s W (by unfold maxLen; omega))
  have H2 := hideB2 (fun W => Any.strings_Contains_one Tryz.lays144 s 35 W)
  change Hid (∀ W, Calls _ _ _ W fun e w' => e = .returned (.bool (decide (0 ≤ idxS 35 s))) ∧ w' = W) at H2
  have H3 := hideB2 (fun W => Fold_any s W (by unfold maxLen; omega))
  have H4 := hideB2 (fun W => HasPre7_any s W (by unfold maxLen; omega))
  clear htab
  cases q1 : targQ s
  · obtain ⟨e1, e2⟩ := rdA_no (s := s) (by unfold rdA; rw [q1]; rfl)
    rw [e1, e2]
    rw [q1] at H1
    clear e1 e2 q1
    go_enter Tryz.func18, Tryz.ntmps18
    go_wp2_with (go_at_call 41; refine (H1.out _).mono ?_; rintro e w' ⟨rfl, rfl⟩)
    refine bodyPost_ret (results_cellT rfl _ _ _ rfl (Blk.new w _ _) Tryz.underlying38 Tryz.infoUrl) rfl ⟨rfl, HB.out⟩
  · rw [q1] at H1
    by_cases q2 : 0 ≤ idxS 35 s
    · obtain ⟨e1, e2⟩ := rdA_no (s := s) (by unfold rdA; rw [decide_eq_false (show ¬ idxS 35 s < 0 by omega)]; simp)
      rw [e1, e2]
      rw [decide_eq_true q2] at H2
      clear e1 e2 q1 q2
      go_enter Tryz.func18, Tryz.ntmps18
      go_wp2_with (first | (go_at_call 41; refine (H1.out _).mono ?_; rintro e w' ⟨rfl, rfl⟩) | (go_at_call 42; refine (H2.out _).mono ?_; rintro e w' ⟨rfl, rfl⟩))
      refine bodyPost_ret (results_cellT rfl _ _ _ rfl (Blk.new w _ _) Tryz.underlying38 Tryz.infoUrl) rfl ⟨rfl, HB.out⟩
    · rw [decide_eq_false q2] at H2
      cases q3 : pre7 s
      · obtain ⟨e1, e2⟩ := rdA_no (s := s) (by unfold rdA; rw [q3]; simp)
        rw [e1, e2]
        rw [q3] at H4
        clear e1 e2 q1 q2 q3
        go_enter Tryz.func18, Tryz.ntmps18
        go_wp2_with (first | (go_at_call 41; refine (H1.out _).mono ?_; rintro e w' ⟨rfl, rfl⟩) | (go_at_call 42; refine (H2.out _).mono ?_; rintro e w' ⟨rfl, rfl⟩) | (go_at_call 44; refine (H3.out _).mono ?_; rintro e w1 ⟨rfl, hb1⟩; have A1 := hideB2 (A0.out.later hb1); have HB1 := hideB2 (below_then HB.out hb1); obtain ⟨a0, a1, a2, a3, a4⟩ := A1.out.u5; obtain ⟨g0, g1, g2, g3, g4⟩ := A1.out.f5U) | (go_at_call 43; refine (H4.out _).mono ?_; rintro e w' ⟨rfl, rfl⟩))
        refine bodyPost_ret (results_cellT rfl _ _ _ rfl (A1.out.set5U _ _ _ _ _) Tryz.underlying38 Tryz.infoUrl) rfl ⟨rfl, ?_⟩
        exact below_set5 HB1.out (Nat.le_refl _) _ _ _ _ _
      · rw [q3] at H4
        obtain ⟨e1, e2⟩ := rdA_yes (s := s) (by unfold rdA; rw [q1, q3, decide_eq_true (show idxS 35 s < 0 by omega)]; rfl)
        generalize hU : rdU s = U at *
        generalize hO : rdO s = O at *
        have HUO := hideB2 (And.intro e1 e2)
        clear hU hO
        have h7 : 7 ≤ s.size := by unfold pre7 at q3; rw [Bool.and_eq_true, decide_eq_true_eq] at q3; exact q3.1
        have hva := vis_at q1
        have hrz : (s.extract 7 s.size).size = s.size - 7 := by rw [ByteArray.size_extract]; omega
        have hrv : ∀ j, j < (s.extract 7 s.size).size → (at8 (s.extract 7 s.size) j).toNat < 128 := by
          intro j hj
          rw [at8_extS (Nat.le_refl _) (by omega)]
          exact hva _ (by omega)
        have c1 : (7 : Int) ≤ (s.size : Int) := by omega
        clear e1 e2 q1 q2 q3 hva
        generalize hrr : s.extract 7 s.size = r at *
        have H5 := hideB2 (fun W => cutAuthority_any r W (by omega) hrv)
        have haz := auU_size r
        have hrz2 : (reU r).size ≤ r.size := by unfold reU; rw [ByteArray.size_extract]; omega
        have H6 := hideB2 (fun W => looseUrl_any (auU r) (reU r) W (by omega) (by omega))
        obtain ⟨k1, k2, k3, k4⟩ := reU_cut r
        have hk : rdK r = ⟨foldB (uptS 58 (auU r)), clnB (if (uptS 63 (reU r)).size = 0 then rootB else uptS 63 (reU r)), bhS 63 (reU r), if hasS 58 (auU r) = true then rdecN (bhS 58 (auU r)) else 80, hasS 63 (reU r)⟩ := by unfold rdK; rw [k2, k3]
        have HK := hideB2 hk
        have z1 := uptS_size 58 (auU r)
        have z2 := uptS_size 63 (reU r)
        have z3 := bhS_size 63 (reU r)
        clear k1 k2 k3 k4 hk hrv
        generalize rdK r = KK at *
        generalize (if hasS 58 (auU r) = true then rdecN (bhS 58 (auU r)) else 80) = po at *
        generalize uptS 58 (auU r) = ho at *
        generalize uptS 63 (reU r) = pt at *
        generalize bhS 63 (reU r) = qu at *
        generalize hasS 63 (reU r) = hq at *
        generalize auU r = au at *
        generalize reU r = re at *
        have H7 := hideB2 (fun W => Fold_any ho W (by unfold maxLen; omega))
        have hfz := foldB_size ho
        generalize foldB ho = fo at *
        have hpz : (if pt.size = 0 then rootB else pt).size ≤ 1048576 := by
          split
          · show (1 : Nat) ≤ _; omega
          · omega
        have H8 := hideB2 (fun W => CleanPath_any (if pt.size = 0 then rootB else pt) W (by unfold maxLen; omega))
        have hcz : (clnB (if pt.size = 0 then rootB else pt)).size ≤ 1048576 := by
          have := clnB_size (if pt.size = 0 then rootB else pt)
          omega
        have HKE := hideB2 (show urQ KK = urlQ fo (clnB (if pt.size = 0 then rootB else pt)) qu po hq by rw [HK.out]; rfl)
        generalize clnB (if pt.size = 0 then rootB else pt) = cp at *
        have H9 := hideB2 (fun W (h : Tab10 W) => UrlOk_any fo cp qu po hq W h (by omega) hcz (by omega))
        rw [← HKE.out] at H9
        go_enter Tryz.func18, Tryz.ntmps18
        go_wp2_with (first | (go_at_call 41; refine (H1.out _).mono ?_; rintro e w' ⟨rfl, rfl⟩) | (go_at_call 42; refine (H2.out _).mono ?_; rintro e w' ⟨rfl, rfl⟩) | (go_at_call 44; refine (H3.out _).mono ?_; rintro e w1 ⟨rfl, hb1⟩) | (go_at_call 43; refine (H4.out _).mono ?_; rintro e w' ⟨rfl, rfl⟩) | (go_at_call 45; (try rw [hrr]); refine (H5.out _).mono ?_; rintro e w2 ⟨rfl, hb2⟩) | fail)
        refine (H6.out _).mono ?_
        rintro e w3 ⟨rfl, hb3⟩
        have A3 := ((A0.out.later hb1).later hb2).later hb3
        have hb3' := below_then (below_then (below_then HB.out hb1) hb2) hb3
        have hlt := A3.lt
        have B3 := Blk.new w3 #[.string ho, .int .i64 po, .string pt, .string qu, .bool hq] 38
        have A3' := A3.alloc (.cells #[.string ho, .int .i64 po, .string pt, .string qu, .bool hq] 38)
        have hb3'' := below_then hb3' (below_a1 w3 (.cells #[.string ho, .int .i64 po, .string pt, .string qu, .bool hq] 38))
        clear hb1 hb2 hb3 A3 A0 HB H1 H2 H3 H4 H5 H6
        go_wp2_with fail
        refine (H7.out _).mono ?_
        rintro e w4 ⟨rfl, hb4⟩
        have B4 := B3.later hb4
        have A4 := A3'.later hb4
        have HB4 := hideB2 (below_then hb3'' hb4)
        have hne : w3.heap.size ≠ w.heap.size := by omega
        have hge : w.heap.size ≤ w3.heap.size := by omega
        obtain ⟨p0, p1, p2, p3, p4⟩ := B4.u5
        obtain ⟨f0, f1, f2, f3, f4⟩ := B4.f5U
        have HBB4 := hideB2 B4
        have HA4 := hideB2 A4
        clear B3 A3' hb3'' hb3' hb4 B4 A4 hlt H7
        generalize w3.heap.size = G at *
        obtain rfl := HK.out
        clear HK HKE
        generalize urQ ⟨fo, cp, qu, po, hq⟩ = okv at *
        by_cases hp0 : pt.size = 0
        · have hne0 := empty_of hp0
          rw [if_pos hp0] at H8
          unfold rootB at H8
          clear hp0 hpz
          go_wp2_with fail
          refine (H8.out _).mono ?_
          rintro e w5 ⟨rfl, hb5⟩
          have B5 : Blk w5 G #[.string fo, .int .i64 po, .string ⟨#[47]⟩, .string qu, .bool hq] 38 := ((HBB4.out.set 0 _).set 2 _).later hb5
          have A5 : Blk w5 w.heap.size #[.string ⟨#[]⟩, .int .i64 0, .string ⟨#[]⟩, .string ⟨#[]⟩, .bool false] 38 := ((HA4.out.other hne 0 _).other hne 2 _).later hb5
          have HB5 := hideB2 (below_then ((HB4.out.setCell (p := ⟨G, 0, none⟩) hge _).setCell (p := ⟨G, 2, none⟩) hge _) hb5)
          clear p0 p1 p2 p3 p4 f0 f1 f2 f3 f4 hb5 HBB4 HA4 HB4 H8
          obtain ⟨p0, p1, p2, p3, p4⟩ := B5.u5
          obtain ⟨f0, f1, f2, f3, f4⟩ := B5.f5U
          have HBB5 := hideB2 B5
          have HA5 := hideB2 A5
          clear B5 A5
          go_wp2_with fail
          refine (H9.out _ (tab_later HT.out (HB5.out.setCell (p := ⟨G, 2, none⟩) hge _))).mono ?_
          rintro e w7 ⟨rfl, hb7⟩
          have B7 : Blk w7 G #[.string fo, .int .i64 po, .string cp, .string qu, .bool hq] 38 := (HBB5.out.set 2 _).later hb7
          have A7 : Blk w7 w.heap.size #[.string ⟨#[]⟩, .int .i64 0, .string ⟨#[]⟩, .string ⟨#[]⟩, .bool false] 38 := (HA5.out.other hne 2 _).later hb7
          have HB7 := hideB2 (below_then (HB5.out.setCell (p := ⟨G, 2, none⟩) hge _) hb7)
          clear p0 p1 p2 p3 p4 f0 f1 f2 f3 f4 hb7 HBB5 HA5 HB5
          obtain ⟨p0, p1, p2, p3, p4⟩ := B7.u5
          obtain ⟨a0, a1, a2, a3, a4⟩ := A7.u5
          obtain ⟨g0, g1, g2, g3, g4⟩ := A7.f5U
          have HA7 := hideB2 A7
          clear B7 A7 H9
          cases okv
          · have HF := hideB2 (show Ending.returned (.tuple #[.agg #[.string ⟨#[]⟩, .int .i64 0, .string ⟨#[]⟩, .string ⟨#[]⟩, .bool false], .bool false]) = .returned (.tuple #[valU U, .bool O]) by obtain ⟨h1, h2⟩ := HUO.out; rw [h1, h2]; rfl)
            go_wp2
            refine bodyPost_ret (results_cellT rfl _ _ _ rfl (HA7.out.set5U _ _ _ _ _) Tryz.underlying38 Tryz.infoUrl) rfl ⟨?_, ?_⟩
            · exact HF.out
            exact below_set5 HB7.out (Nat.le_refl _) _ _ _ _ _
          · have HF := hideB2 (show Ending.returned (.tuple #[.agg #[.string fo, .int .i64 po, .string cp, .string qu, .bool hq], .bool true]) = .returned (.tuple #[valU U, .bool O]) by obtain ⟨h1, h2⟩ := HUO.out; rw [h1, h2]; rfl)
            go_wp2
            refine bodyPost_ret (results_cellT rfl _ _ _ rfl (HA7.out.set5U _ _ _ _ _) Tryz.underlying38 Tryz.infoUrl) rfl ⟨?_, ?_⟩
            · exact HF.out
            exact below_set5 HB7.out (Nat.le_refl _) _ _ _ _ _
        · have hne0 := nonempty_of hp0
          rw [if_neg hp0] at H8
          clear hp0 hpz
          go_wp2_with fail
          refine (H8.out _).mono ?_
          rintro e w5 ⟨rfl, hb5⟩
          have B5 : Blk w5 G #[.string fo, .int .i64 po, .string pt, .string qu, .bool hq] 38 := (HBB4.out.set 0 _).later hb5
          have A5 : Blk w5 w.heap.size #[.string ⟨#[]⟩, .int .i64 0, .string ⟨#[]⟩, .string ⟨#[]⟩, .bool false] 38 := (HA4.out.other hne 0 _).later hb5
          have HB5 := hideB2 (below_then (HB4.out.setCell (p := ⟨G, 0, none⟩) hge _) hb5)
          clear p0 p1 p2 p3 p4 f0 f1 f2 f3 f4 hb5 HBB4 HA4 HB4 H8
          obtain ⟨p0, p1, p2, p3, p4⟩ := B5.u5
          obtain ⟨f0, f1, f2, f3, f4⟩ := B5.f5U
          have HBB5 := hideB2 B5
          have HA5 := hideB2 A5
          clear B5 A5
          go_wp2_with fail
          refine (H9.out _ (tab_later HT.out (HB5.out.setCell (p := ⟨G, 2, none⟩) hge _))).mono ?_
          rintro e w7 ⟨rfl, hb7⟩
          have B7 : Blk w7 G #[.string fo, .int .i64 po, .string cp, .string qu, .bool hq] 38 := (HBB5.out.set 2 _).later hb7
          have A7 : Blk w7 w.heap.size #[.string ⟨#[]⟩, .int .i64 0, .string ⟨#[]⟩, .string ⟨#[]⟩, .bool false] 38 := (HA5.out.other hne 2 _).later hb7
          have HB7 := hideB2 (below_then (HB5.out.setCell (p := ⟨G, 2, none⟩) hge _) hb7)
          clear p0 p1 p2 p3 p4 f0 f1 f2 f3 f4 hb7 HBB5 HA5 HB5
          obtain ⟨p0, p1, p2, p3, p4⟩ := B7.u5
          obtain ⟨a0, a1, a2, a3, a4⟩ := A7.u5
          obtain ⟨g0, g1, g2, g3, g4⟩ := A7.f5U
          have HA7 := hideB2 A7
          clear B7 A7 H9
          cases okv
          · have HF := hideB2 (show Ending.returned (.tuple #[.agg #[.string ⟨#[]⟩, .int .i64 0, .string ⟨#[]⟩, .string ⟨#[]⟩, .bool false], .bool false]) = .returned (.tuple #[valU U, .bool O]) by obtain ⟨h1, h2⟩ := HUO.out; rw [h1, h2]; rfl)
            go_wp2
            refine bodyPost_ret (results_cellT rfl _ _ _ rfl (HA7.out.set5U _ _ _ _ _) Tryz.underlying38 Tryz.infoUrl) rfl ⟨?_, ?_⟩
            · exact HF.out
            exact below_set5 HB7.out (Nat.le_refl _) _ _ _ _ _
          · have HF := hideB2 (show Ending.returned (.tuple #[.agg #[.string fo, .int .i64 po, .string cp, .string qu, .bool hq], .bool true]) = .returned (.tuple #[valU U, .bool O]) by obtain ⟨h1, h2⟩ := HUO.out; rw [h1, h2]; rfl)
            go_wp2
            refine bodyPost_ret (results_cellT rfl _ _ _ rfl (HA7.out.set5U _ _ _ _ _) Tryz.underlying38 Tryz.infoUrl) rfl ⟨?_, ?_⟩
            · exact HF.out
            exact below_set5 HB7.out (Nat.le_refl _) _ _ _ _ _
end Go.Proofs.YtmhohponikolfaaGreatDoor
namespace Go.Proofs.YtmhohponikolfaaGreatDoor
set_option linter.unusedVariables false
set_option linter.unusedSimpArgs false
open Go.RowKit
theorem cln_root : clnB rootB = rootB := by
  have h1 : pthQ rootB = true := by decide
  have h2 : evB (rootB.extract 1 rootB.size) = ⟨#[]⟩ := evB_nil (by rw [ByteArray.size_extract]; decide)
  have h3 : splS 47 ⟨#[]⟩ = [⟨#[]⟩] := (splS_none (c := 47) (s := ⟨#[]⟩) (idxS_miss (fun j hj => absurd hj (Nat.not_lt_zero j)))).2
  have h4 : eqB ⟨#[]⟩ dd = false := by unfold eqB; rw [ByteArray.toList_eq, ByteArray.toList_eq]; rfl
  have h5 : eqB ⟨#[]⟩ d1 = false := by unfold eqB; rw [ByteArray.toList_eq, ByteArray.toList_eq]; rfl
  rw [clnB_yes h1, h2, h3]
  have h6 : keepL [⟨#[]⟩] = [⟨#[]⟩] := by
    show keepS [] ⟨#[]⟩ = _
    unfold keepS; rw [h4, h5]; rfl
  have h7 : lastDot [⟨#[]⟩] = false := by
    show dotQ ⟨#[]⟩ = false
    unfold dotQ; rw [h4, h5]; rfl
  unfold keptL
  rw [h7, h6]
  rfl
theorem rdK_spec (r : ByteArray) : rdK r = ⟨foldB (uptS 58 (auU r)), if (auU r).size < (uptS 63 r).size then clnB ((uptS 63 r).extract (auU r).size (uptS 63 r).size) else rootB, if (uptS 63 r).size < r.size then r.extract ((uptS 63 r).size + 1) r.size else ⟨#[]⟩, if (uptS 58 (auU r)).size < (auU r).size then rdecN ((auU r).extract ((uptS 58 (auU r)).size + 1) (auU r).size) else 80, decide ((uptS 63 r).size < r.size)⟩ := by
  obtain ⟨k1, k2, k3, k4⟩ := reU_cut r
  obtain ⟨c1, c2⟩ := cut_len 63 r
  obtain ⟨d1, d2⟩ := cut_len 58 (auU r)
  unfold rdK
  rw [k1, c1, c2, d1, d2]
  have hz : ((uptS 63 r).extract (auU r).size (uptS 63 r).size).size = (uptS 63 r).size - (auU r).size := by rw [ByteArray.size_extract]; omega
  have e1 : clnB (if ((uptS 63 r).extract (auU r).size (uptS 63 r).size).size = 0 then rootB else (uptS 63 r).extract (auU r).size (uptS 63 r).size) = if (auU r).size < (uptS 63 r).size then clnB ((uptS 63 r).extract (auU r).size (uptS 63 r).size) else rootB := by
    by_cases h : (auU r).size < (uptS 63 r).size
    · rw [if_pos h, if_neg (show ¬ ((uptS 63 r).extract (auU r).size (uptS 63 r).size).size = 0 by omega)]
    · rw [if_neg h, if_pos (show ((uptS 63 r).extract (auU r).size (uptS 63 r).size).size = 0 by omega), cln_root]
  have e2 : (if decide ((uptS 58 (auU r)).size < (auU r).size) = true then rdecN (if (uptS 58 (auU r)).size < (auU r).size then (auU r).extract ((uptS 58 (auU r)).size + 1) (auU r).size else ⟨#[]⟩) else 80) = if (uptS 58 (auU r)).size < (auU r).size then rdecN ((auU r).extract ((uptS 58 (auU r)).size + 1) (auU r).size) else 80 := by
    by_cases h : (uptS 58 (auU r)).size < (auU r).size
    · rw [decide_eq_true h, if_pos rfl, if_pos h, if_pos h]
    · rw [decide_eq_false h, if_neg (by simp), if_neg h]
  rw [e1, e2]
theorem rdO_short {s : ByteArray} (h : s.size < 8) : rdO s = false := by
  unfold rdO
  cases hp : rdA s
  · rfl
  · have hr : s.extract 7 s.size = ⟨#[]⟩ := size_nil (by rw [ByteArray.size_extract]; omega)
    rw [hr, Bool.true_and]
    have hau : auU ⟨#[]⟩ = ⟨#[]⟩ := auU_none (fun j hj => absurd hj (Nat.not_lt_zero j))
    have hho : uptS 58 ⟨#[]⟩ = ⟨#[]⟩ := uptS_none (idxS_miss (fun j hj => absurd hj (Nat.not_lt_zero j)))
    unfold urQ urlQ
    have e : (rdK ⟨#[]⟩).ho = ⟨#[]⟩ := by
      show foldB (uptS 58 (auU ⟨#[]⟩)) = _
      rw [hau, hho]; rfl
    rw [e, hostQ_empty rfl]
    rfl
theorem rdU_no {s : ByteArray} (h : rdO s = false) : rdU s = ur0 := by unfold rdU; rw [h]; rfl
theorem urQ_port {u : Ur} (h : u.po = 0) : urQ u = false := by
  unfold urQ urlQ withinB
  rw [h]
  simp
theorem eqB_upt35 (s : ByteArray) : ((uptS 35 s).toList == s.toList) = decide (idxS 35 s < 0) := eqB_upt s
theorem sch_eq {x : ByteArray} : (x.toList == [104, 116, 116, 112, 58, 47, 47]) = eqB x schB := by
  unfold eqB; rw [ByteArray.toList_eq schB]; rfl
set_option maxRecDepth 100000 in
set_option maxHeartbeats 8000000 in
theorem sReadUrl_any (s : ByteArray) (w : World) (hs : s.size ≤ 1048576) :
    Calls Tryz.prog 23 #[.string s] w fun e w' => e = .returned (.tuple #[valU (rdU s), .bool (rdO s)]) ∧ Below w.heap.size w w' := by
  have HB := hideB2 (below_a1 w (.cells #[.string ⟨#[]⟩, .int .i64 0, .string ⟨#[]⟩, .string ⟨#[]⟩, .bool false] 38))
  have A0 := hideB2 (Blk.new w #[.string ⟨#[]⟩, .int .i64 0, .string ⟨#[]⟩, .string ⟨#[]⟩, .bool false] 38)
  have H1 := hideB2 (fun W => l6visible_any s W (by unfold maxLen; omega))
  have H2 := hideB2 (fun W => l6uptoS_any s 35 W (by unfold maxLen; omega))
  change Hid (∀ W, Calls _ _ #[_, .int .u8 35] W _) at H2
  by_cases hbig : (200 : Int) < (s.size : Int)
  · have e1 : rdO s = false := by unfold rdO rdA; rw [show targQ s = false by cases ht : targQ s with | false => rfl | true => have := (targQ_iff.1 ht).2.1; omega]; rfl
    have d1 := decide_eq_true hbig
    rw [rdU_no e1, e1]
    clear e1
    go_enter Tryz.func23, Tryz.ntmps23
    go_wp2
    refine bodyPost_ret (results_cellT rfl _ _ _ rfl (Blk.new w _ _) Tryz.underlying38 Tryz.infoUrl) rfl ⟨rfl, HB.out⟩
  · have d1 := decide_eq_false hbig
    by_cases h8 : (s.size : Int) < 8
    · have e1 := rdO_short (s := s) (by omega)
      have d2 := decide_eq_true h8
      rw [rdU_no e1, e1]
      clear e1
      go_enter Tryz.func23, Tryz.ntmps23
      go_wp2
      refine bodyPost_ret (results_cellT rfl _ _ _ rfl (Blk.new w _ _) Tryz.underlying38 Tryz.infoUrl) rfl ⟨rfl, HB.out⟩
    · have d2 := decide_eq_false h8
      cases hv : (decide (0 < (s.size : Int)) && allB vis8 s)
      · have e1 : rdO s = false := by unfold rdO rdA; rw [vis_no hv]; rfl
        rw [rdU_no e1, e1]
        rw [hv] at H1
        clear e1 hv
        go_enter Tryz.func23, Tryz.ntmps23
        go_wp2_with (go_at_call 57; refine (H1.out _).mono ?_; rintro e w' ⟨rfl, rfl⟩)
        refine bodyPost_ret (results_cellT rfl _ _ _ rfl (Blk.new w _ _) Tryz.underlying38 Tryz.infoUrl) rfl ⟨rfl, HB.out⟩
      · rw [hv] at H1
        have hq := vis_size hv (by omega)
        have hu := eqB_upt35 s
        cases h35 : decide (idxS 35 s < 0)
        · have e1 : rdO s = false := by unfold rdO rdA; rw [h35]; simp
          rw [rdU_no e1, e1]
          rw [h35] at hu
          clear e1 hv h35 hq
          generalize uptS 35 s = us at *
          go_enter Tryz.func23, Tryz.ntmps23
          go_wp2_with (first | (go_at_call 57; refine (H1.out _).mono ?_; rintro e w' ⟨rfl, rfl⟩) | (go_at_call 60; refine (H2.out _).mono ?_; rintro e w' ⟨rfl, rfl⟩))
          refine bodyPost_ret (results_cellT rfl _ _ _ rfl (Blk.new w _ _) Tryz.underlying38 Tryz.infoUrl) rfl ⟨rfl, HB.out⟩
        · rw [h35] at hu
          have c7 : (7 : Int) ≤ (s.size : Int) := by omega
          have h7 : 7 ≤ s.size := by omega
          have HZ7 : (s.extract 0 7).size ≤ maxLen := by rw [ByteArray.size_extract]; unfold maxLen; omega
          have H3 := hideB2 (fun W => sFold_any (s.extract 0 7) W HZ7)
          have hp7 : ((foldB (s.extract 0 7)).toList == [104, 116, 116, 112, 58, 47, 47]) = pre7 s := by rw [sch_eq]; unfold pre7; rw [decide_eq_true h7, Bool.true_and]
          clear HZ7
          cases hpre : pre7 s
          · have e1 : rdO s = false := by unfold rdO rdA; rw [hpre]; simp
            rw [rdU_no e1, e1]
            rw [hpre] at hp7
            clear e1 hv h35 hq hpre
            generalize uptS 35 s = us at *
            generalize h7x : s.extract 0 7 = x7 at *
            generalize foldB x7 = f7 at *
            go_enter Tryz.func23, Tryz.ntmps23
            go_wp2_with (first | (go_at_call 57; refine (H1.out _).mono ?_; rintro e w' ⟨rfl, rfl⟩) | (go_at_call 60; refine (H2.out _).mono ?_; rintro e w' ⟨rfl, rfl⟩) | (go_at_call 34; (try rw [h7x]); refine (H3.out _).mono ?_; rintro e w1 ⟨rfl, hb1⟩; have A1 := hideB2 (A0.out.later hb1); have HB1 := hideB2 (below_then HB.out hb1); obtain ⟨a0, a1, a2, a3, a4⟩ := A1.out.u5; obtain ⟨g0, g1, g2, g3, g4⟩ := A1.out.f5U))
            refine bodyPost_ret (results_cellT rfl _ _ _ rfl (A1.out.set5U _ _ _ _ _) Tryz.underlying38 Tryz.infoUrl) rfl ⟨rfl, ?_⟩
            exact below_set5 HB1.out (Nat.le_refl _) _ _ _ _ _
          · obtain ⟨e1, e2⟩ := rdA_yes (s := s) (by unfold rdA; rw [hq, hpre, h35]; rfl)
            generalize hU : rdU s = U at *
            generalize hO : rdO s = O at *
            have hrz : (s.extract 7 s.size).size = s.size - 7 := by rw [ByteArray.size_extract]; omega
            have HKS0 := rdK_spec (s.extract 7 s.size)
            rw [hpre] at hp7
            have HO0 := hideB2 (And.intro e1 e2)
            clear hU hO e1 e2 hv h35 hq hpre
            generalize uptS 35 s = us at *
            generalize h7x : s.extract 0 7 = x7 at *
            generalize foldB x7 = f7 at *
            generalize hrr : s.extract 7 s.size = r at *
            generalize rdK r = KK at *
            have H4 := hideB2 (fun W => l6uptoS_any r 63 W (by unfold maxLen; omega))
            change Hid (∀ W, Calls _ _ #[_, .int .u8 63] W _) at H4
            have zf := uptS_size 63 r
            unfold auU at HKS0
            generalize uptS 63 r = fr at *
            have H5 := hideB2 (fun W => l6uptoS_any fr 47 W (by unfold maxLen; omega))
            change Hid (∀ W, Calls _ _ #[_, .int .u8 47] W _) at H5
            have za := uptS_size 47 fr
            generalize uptS 47 fr = au at *
            have H6 := hideB2 (fun W => l6uptoS_any au 58 W (by unfold maxLen; omega))
            change Hid (∀ W, Calls _ _ #[_, .int .u8 58] W _) at H6
            have zh := uptS_size 58 au
            generalize uptS 58 au = ho at *
            have H7 := hideB2 (fun W => sFold_any ho W (by unfold maxLen; omega))
            have hfz := foldB_size ho
            generalize foldB ho = fo at *
            have zp : (au.extract (ho.size + 1) au.size).size ≤ au.size := by rw [ByteArray.size_extract]; omega
            have zq : (r.extract (fr.size + 1) r.size).size ≤ r.size := by rw [ByteArray.size_extract]; omega
            have zt : (fr.extract au.size fr.size).size ≤ fr.size := by rw [ByteArray.size_extract]; omega
            generalize hpo : au.extract (ho.size + 1) au.size = p at *
            generalize hqq : r.extract (fr.size + 1) r.size = q at *
            generalize hpp : fr.extract au.size fr.size = pt at *
            have HKS := hideB2 HKS0
            have HRD0 := hideB2 (fun W => sReadDec_any p W (by unfold maxLen; omega))
            have HCP := hideB2 (fun W => sCleanPath_any pt W (by unfold maxLen; omega))
            clear HKS0
            have w1n : IntKind.i64.wrap ((ho.size : Int) + 1) = (ho.size : Int) + 1 := by rw [IntKind.wrap_i64]; omega
            have w2n : IntKind.i64.wrap ((fr.size : Int) + 1) = (fr.size : Int) + 1 := by rw [IntKind.wrap_i64]; omega
            have b1 : (0 : Int) ≤ (ho.size : Int) + 1 := by omega
            have b2 : (0 : Int) ≤ (fr.size : Int) + 1 := by omega
            have b3 : (0 : Int) ≤ (au.size : Int) := by omega
            have b4 : (au.size : Int) ≤ (fr.size : Int) := by omega
            have hr9 : r.size ≤ 1048576 := by omega
            clear hrz
            go_enter Tryz.func23, Tryz.ntmps23
            go_wp2_with fail
            refine (H1.out _).mono ?_
            rintro e wx ⟨rfl, rfl⟩
            go_wp2_with fail
            refine (H2.out _).mono ?_
            rintro e wy ⟨rfl, rfl⟩
            go_wp2_with fail
            (try rw [h7x])
            refine (H3.out _).mono ?_
            rintro e w1 ⟨rfl, hb1⟩
            go_wp2_with fail
            (try rw [hrr])
            refine (H4.out _).mono ?_
            rintro e wa ⟨rfl, rfl⟩
            go_wp2_with fail
            refine (H5.out _).mono ?_
            rintro e wb ⟨rfl, rfl⟩
            go_wp2_with fail
            refine (H6.out _).mono ?_
            rintro e wc ⟨rfl, rfl⟩
            go_wp2_with fail
            refine (H7.out _).mono ?_
            rintro e w2 ⟨rfl, hb2⟩
            have A2 := hideB2 ((A0.out.later hb1).later hb2)
            have HB2 := hideB2 (below_then (below_then HB.out hb1) hb2)
            have hlt := A2.out.lt
            clear hb1 hb2 HB A0 H1 H2 H3 H4 H5 H6 H7
            have hne : w2.heap.size ≠ w.heap.size := by omega
            have hge : w.heap.size ≤ w2.heap.size := by omega
            by_cases htold : ho.size < au.size
            · have htold1 : (ho.size : Int) < (au.size : Int) := by omega
              have b5 : (ho.size : Int) + 1 ≤ (au.size : Int) := by omega
              cases hok : rdecOk p
              · have hn0 : rdecN p = 0 := by
                  unfold rdecOk at hok
                  unfold rdecN
                  cases hr : rdec p with
                  | none => rfl
                  | some x => rw [hr] at hok; cases hok
                have HRD := HRD0
                rw [hok] at HRD
                have HUO2 := hideB2 (show O = false ∧ U = ur0 by
                  obtain ⟨h1, h2⟩ := HO0.out
                  have : urQ KK = false := urQ_port (by rw [HKS.out]; simp only []; rw [if_pos htold, hn0])
                  rw [this] at h1 h2
                  exact ⟨h1, h2⟩)
                clear hok hn0 HRD0
                generalize rdecN p = n at *
                go_wp2_with fail
                (try rw [hpo])
                refine (HRD.out _).mono ?_
                rintro e w3 ⟨rfl, hb3⟩
                have A3 := hideB2 ((A2.out.alloc (.cells #[.string fo, .int .i64 80, .string ⟨#[47]⟩, .string ⟨#[]⟩, .bool false] 38)).later hb3)
                have HB3 := hideB2 (below_then (below_then HB2.out (below_a1 w2 (.cells #[.string fo, .int .i64 80, .string ⟨#[47]⟩, .string ⟨#[]⟩, .bool false] 38))) hb3)
                clear hb3
                obtain ⟨a0, a1, a2, a3, a4⟩ := A3.out.u5
                obtain ⟨g0, g1, g2, g3, g4⟩ := A3.out.f5U
                have HF := hideB2 (show Ending.returned (.tuple #[.agg #[.string ⟨#[]⟩, .int .i64 0, .string ⟨#[]⟩, .string ⟨#[]⟩, .bool false], .bool false]) = .returned (.tuple #[valU U, .bool O]) by obtain ⟨h1, h2⟩ := HUO2.out; rw [h1, h2]; rfl)
                go_wp2
                refine bodyPost_ret (results_cellT rfl _ _ _ rfl (A3.out.set5U _ _ _ _ _) Tryz.underlying38 Tryz.infoUrl) rfl ⟨?_, ?_⟩
                · exact HF.out
                exact below_set5 HB3.out (Nat.le_refl _) _ _ _ _ _
              · have HRD := HRD0
                rw [hok] at HRD
                clear hok HRD0
                by_cases hpath : au.size < fr.size
                · have hpath1 : (au.size : Int) < (fr.size : Int) := by omega
                  by_cases hquery : fr.size < r.size
                  · have hquery1 : (fr.size : Int) < (r.size : Int) := by omega
                    have HK := hideB2 (show KK = ⟨fo, clnB pt, q, rdecN p, true⟩ by rw [HKS.out, if_pos hpath, if_pos hquery, if_pos htold, decide_eq_true hquery])
                    have HUO := hideB2 (fun W => sUrlOk_any fo (clnB pt) q (rdecN p) true W (by omega) (by have := clnB_size pt; omega) (by omega))
                    have HUO2 := hideB2 (show O = urQ KK ∧ U = if urQ KK = true then KK else ur0 from HO0.out)
                    change Hid (∀ W, Calls _ _ _ W fun e w' => e = .returned (.bool (urQ ⟨fo, clnB pt, q, rdecN p, true⟩)) ∧ Below W.heap.size W w') at HUO
                    rw [← HK.out] at HUO
                    generalize urQ KK = okv at *
                    generalize hcp : clnB pt = cp at *
                    clear hcp
                    generalize hnn : rdecN p = n at *
                    clear hnn
                    go_wp2_with fail
                    (try rw [hpo])
                    refine (HRD.out _).mono ?_
                    rintro e w3 ⟨rfl, hb3⟩
                    have B3 := hideB2 ((Blk.new w2 #[.string fo, .int .i64 80, .string ⟨#[47]⟩, .string ⟨#[]⟩, .bool false] 38).later hb3)
                    have A3 := hideB2 ((A2.out.alloc (.cells #[.string fo, .int .i64 80, .string ⟨#[47]⟩, .string ⟨#[]⟩, .bool false] 38)).later hb3)
                    have HB3 := hideB2 (below_then (below_then HB2.out (below_a1 w2 (.cells #[.string fo, .int .i64 80, .string ⟨#[47]⟩, .string ⟨#[]⟩, .bool false] 38))) hb3)
                    clear hb3
                    obtain ⟨p0, p1, p2, p3, p4⟩ := B3.out.u5
                    obtain ⟨f0, f1, f2, f3, f4⟩ := B3.out.f5U
                    go_wp2_with (first | (go_at_call 61; fail) | fail)
                    (try rw [hpp])
                    refine (HCP.out _).mono ?_
                    rintro e w4 ⟨rfl, hb4⟩
                    have B4 : Hid (Blk w4 w2.heap.size #[.string fo, .int .i64 n, .string ⟨#[47]⟩, .string ⟨#[]⟩, .bool false] 38) := hideB2 ((B3.out.set 1 _).later hb4)
                    have A4 : Hid (Blk w4 w.heap.size #[.string ⟨#[]⟩, .int .i64 0, .string ⟨#[]⟩, .string ⟨#[]⟩, .bool false] 38) := hideB2 ((A3.out.other hne 1 _).later hb4)
                    have HB4 := hideB2 (below_then (HB3.out.setCell (p := ⟨w2.heap.size, 1, none⟩) hge _) hb4)
                    clear p0 p1 p2 p3 p4 f0 f1 f2 f3 f4 B3 A3 HB3
                    clear hb4
                    obtain ⟨p0, p1, p2, p3, p4⟩ := B4.out.u5
                    obtain ⟨f0, f1, f2, f3, f4⟩ := B4.out.f5U
                    go_wp2_with fail
                    (try rw [hqq])
                    refine (HUO.out _).mono ?_
                    rintro e w5 ⟨rfl, hb5⟩
                    have B5 : Hid (Blk w5 w2.heap.size #[.string fo, .int .i64 n, .string cp, .string q, .bool true] 38) := hideB2 ((((B4.out.set 2 _).set 4 _).set 3 _).later hb5)
                    have A5 : Hid (Blk w5 w.heap.size #[.string ⟨#[]⟩, .int .i64 0, .string ⟨#[]⟩, .string ⟨#[]⟩, .bool false] 38) := hideB2 ((((A4.out.other hne 2 _).other hne 4 _).other hne 3 _).later hb5)
                    have HB5 := hideB2 (below_then (((HB4.out.setCell (p := ⟨w2.heap.size, 2, none⟩) hge _).setCell (p := ⟨w2.heap.size, 4, none⟩) hge _).setCell (p := ⟨w2.heap.size, 3, none⟩) hge _) hb5)
                    clear p0 p1 p2 p3 p4 f0 f1 f2 f3 f4 B4 A4 HB4
                    clear hb5
                    obtain ⟨p0, p1, p2, p3, p4⟩ := B5.out.u5
                    obtain ⟨a0, a1, a2, a3, a4⟩ := A5.out.u5
                    obtain ⟨g0, g1, g2, g3, g4⟩ := A5.out.f5U
                    clear B5 HUO
                    cases okv
                    · have HF := hideB2 (show Ending.returned (.tuple #[.agg #[.string ⟨#[]⟩, .int .i64 0, .string ⟨#[]⟩, .string ⟨#[]⟩, .bool false], .bool false]) = .returned (.tuple #[valU U, .bool O]) by obtain ⟨h1, h2⟩ := HUO2.out; rw [h1, h2]; rfl)
                      go_wp2
                      refine bodyPost_ret (results_cellT rfl _ _ _ rfl (A5.out.set5U _ _ _ _ _) Tryz.underlying38 Tryz.infoUrl) rfl ⟨?_, ?_⟩
                      · exact HF.out
                      exact below_set5 HB5.out (Nat.le_refl _) _ _ _ _ _
                    · have HF := hideB2 (show Ending.returned (.tuple #[.agg #[.string fo, .int .i64 n, .string cp, .string q, .bool true], .bool true]) = .returned (.tuple #[valU U, .bool O]) by obtain ⟨h1, h2⟩ := HUO2.out; rw [h1, h2, HK.out]; rfl)
                      go_wp2
                      refine bodyPost_ret (results_cellT rfl _ _ _ rfl (A5.out.set5U _ _ _ _ _) Tryz.underlying38 Tryz.infoUrl) rfl ⟨?_, ?_⟩
                      · exact HF.out
                      exact below_set5 HB5.out (Nat.le_refl _) _ _ _ _ _
                  · have hquery1 : ¬ (fr.size : Int) < (r.size : Int) := by omega
                    have HK := hideB2 (show KK = ⟨fo, clnB pt, ⟨#[]⟩, rdecN p, false⟩ by rw [HKS.out, if_pos hpath, if_neg hquery, if_pos htold, decide_eq_false hquery])
                    have HUO := hideB2 (fun W => sUrlOk_any fo (clnB pt) ⟨#[]⟩ (rdecN p) false W (by omega) (by have := clnB_size pt; omega) (by decide))
                    have HUO2 := hideB2 (show O = urQ KK ∧ U = if urQ KK = true then KK else ur0 from HO0.out)
                    change Hid (∀ W, Calls _ _ _ W fun e w' => e = .returned (.bool (urQ ⟨fo, clnB pt, ⟨#[]⟩, rdecN p, false⟩)) ∧ Below W.heap.size W w') at HUO
                    rw [← HK.out] at HUO
                    generalize urQ KK = okv at *
                    generalize hcp : clnB pt = cp at *
                    clear hcp
                    generalize hnn : rdecN p = n at *
                    clear hnn
                    go_wp2_with fail
                    (try rw [hpo])
                    refine (HRD.out _).mono ?_
                    rintro e w3 ⟨rfl, hb3⟩
                    have B3 := hideB2 ((Blk.new w2 #[.string fo, .int .i64 80, .string ⟨#[47]⟩, .string ⟨#[]⟩, .bool false] 38).later hb3)
                    have A3 := hideB2 ((A2.out.alloc (.cells #[.string fo, .int .i64 80, .string ⟨#[47]⟩, .string ⟨#[]⟩, .bool false] 38)).later hb3)
                    have HB3 := hideB2 (below_then (below_then HB2.out (below_a1 w2 (.cells #[.string fo, .int .i64 80, .string ⟨#[47]⟩, .string ⟨#[]⟩, .bool false] 38))) hb3)
                    clear hb3
                    obtain ⟨p0, p1, p2, p3, p4⟩ := B3.out.u5
                    obtain ⟨f0, f1, f2, f3, f4⟩ := B3.out.f5U
                    go_wp2_with (first | (go_at_call 61; fail) | fail)
                    (try rw [hpp])
                    refine (HCP.out _).mono ?_
                    rintro e w4 ⟨rfl, hb4⟩
                    have B4 : Hid (Blk w4 w2.heap.size #[.string fo, .int .i64 n, .string ⟨#[47]⟩, .string ⟨#[]⟩, .bool false] 38) := hideB2 ((B3.out.set 1 _).later hb4)
                    have A4 : Hid (Blk w4 w.heap.size #[.string ⟨#[]⟩, .int .i64 0, .string ⟨#[]⟩, .string ⟨#[]⟩, .bool false] 38) := hideB2 ((A3.out.other hne 1 _).later hb4)
                    have HB4 := hideB2 (below_then (HB3.out.setCell (p := ⟨w2.heap.size, 1, none⟩) hge _) hb4)
                    clear p0 p1 p2 p3 p4 f0 f1 f2 f3 f4 B3 A3 HB3
                    clear hb4
                    obtain ⟨p0, p1, p2, p3, p4⟩ := B4.out.u5
                    obtain ⟨f0, f1, f2, f3, f4⟩ := B4.out.f5U
                    go_wp2_with fail
                    (try rw [hqq])
                    refine (HUO.out _).mono ?_
                    rintro e w5 ⟨rfl, hb5⟩
                    have B5 : Hid (Blk w5 w2.heap.size #[.string fo, .int .i64 n, .string cp, .string ⟨#[]⟩, .bool false] 38) := hideB2 ((B4.out.set 2 _).later hb5)
                    have A5 : Hid (Blk w5 w.heap.size #[.string ⟨#[]⟩, .int .i64 0, .string ⟨#[]⟩, .string ⟨#[]⟩, .bool false] 38) := hideB2 ((A4.out.other hne 2 _).later hb5)
                    have HB5 := hideB2 (below_then (HB4.out.setCell (p := ⟨w2.heap.size, 2, none⟩) hge _) hb5)
                    clear p0 p1 p2 p3 p4 f0 f1 f2 f3 f4 B4 A4 HB4
                    clear hb5
                    obtain ⟨p0, p1, p2, p3, p4⟩ := B5.out.u5
                    obtain ⟨a0, a1, a2, a3, a4⟩ := A5.out.u5
                    obtain ⟨g0, g1, g2, g3, g4⟩ := A5.out.f5U
                    clear B5 HUO
                    cases okv
                    · have HF := hideB2 (show Ending.returned (.tuple #[.agg #[.string ⟨#[]⟩, .int .i64 0, .string ⟨#[]⟩, .string ⟨#[]⟩, .bool false], .bool false]) = .returned (.tuple #[valU U, .bool O]) by obtain ⟨h1, h2⟩ := HUO2.out; rw [h1, h2]; rfl)
                      go_wp2
                      refine bodyPost_ret (results_cellT rfl _ _ _ rfl (A5.out.set5U _ _ _ _ _) Tryz.underlying38 Tryz.infoUrl) rfl ⟨?_, ?_⟩
                      · exact HF.out
                      exact below_set5 HB5.out (Nat.le_refl _) _ _ _ _ _
                    · have HF := hideB2 (show Ending.returned (.tuple #[.agg #[.string fo, .int .i64 n, .string cp, .string ⟨#[]⟩, .bool false], .bool true]) = .returned (.tuple #[valU U, .bool O]) by obtain ⟨h1, h2⟩ := HUO2.out; rw [h1, h2, HK.out]; rfl)
                      go_wp2
                      refine bodyPost_ret (results_cellT rfl _ _ _ rfl (A5.out.set5U _ _ _ _ _) Tryz.underlying38 Tryz.infoUrl) rfl ⟨?_, ?_⟩
                      · exact HF.out
                      exact below_set5 HB5.out (Nat.le_refl _) _ _ _ _ _
                · have hpath1 : ¬ (au.size : Int) < (fr.size : Int) := by omega
                  by_cases hquery : fr.size < r.size
                  · have hquery1 : (fr.size : Int) < (r.size : Int) := by omega
                    have HK := hideB2 (show KK = ⟨fo, rootB, q, rdecN p, true⟩ by rw [HKS.out, if_neg hpath, if_pos hquery, if_pos htold, decide_eq_true hquery])
                    have HUO := hideB2 (fun W => sUrlOk_any fo ⟨#[47]⟩ q (rdecN p) true W (by omega) (by decide) (by omega))
                    have HUO2 := hideB2 (show O = urQ KK ∧ U = if urQ KK = true then KK else ur0 from HO0.out)
                    change Hid (∀ W, Calls _ _ _ W fun e w' => e = .returned (.bool (urQ ⟨fo, rootB, q, rdecN p, true⟩)) ∧ Below W.heap.size W w') at HUO
                    rw [← HK.out] at HUO
                    generalize urQ KK = okv at *
                    generalize hnn : rdecN p = n at *
                    clear hnn
                    go_wp2_with fail
                    (try rw [hpo])
                    refine (HRD.out _).mono ?_
                    rintro e w3 ⟨rfl, hb3⟩
                    have B3 := hideB2 ((Blk.new w2 #[.string fo, .int .i64 80, .string ⟨#[47]⟩, .string ⟨#[]⟩, .bool false] 38).later hb3)
                    have A3 := hideB2 ((A2.out.alloc (.cells #[.string fo, .int .i64 80, .string ⟨#[47]⟩, .string ⟨#[]⟩, .bool false] 38)).later hb3)
                    have HB3 := hideB2 (below_then (below_then HB2.out (below_a1 w2 (.cells #[.string fo, .int .i64 80, .string ⟨#[47]⟩, .string ⟨#[]⟩, .bool false] 38))) hb3)
                    clear hb3
                    obtain ⟨p0, p1, p2, p3, p4⟩ := B3.out.u5
                    obtain ⟨f0, f1, f2, f3, f4⟩ := B3.out.f5U
                    go_wp2_with fail
                    (try rw [hqq])
                    refine (HUO.out _).mono ?_
                    rintro e w5 ⟨rfl, hb5⟩
                    have B5 : Hid (Blk w5 w2.heap.size #[.string fo, .int .i64 n, .string ⟨#[47]⟩, .string q, .bool true] 38) := hideB2 ((((B3.out.set 1 _).set 4 _).set 3 _).later hb5)
                    have A5 : Hid (Blk w5 w.heap.size #[.string ⟨#[]⟩, .int .i64 0, .string ⟨#[]⟩, .string ⟨#[]⟩, .bool false] 38) := hideB2 ((((A3.out.other hne 1 _).other hne 4 _).other hne 3 _).later hb5)
                    have HB5 := hideB2 (below_then (((HB3.out.setCell (p := ⟨w2.heap.size, 1, none⟩) hge _).setCell (p := ⟨w2.heap.size, 4, none⟩) hge _).setCell (p := ⟨w2.heap.size, 3, none⟩) hge _) hb5)
                    clear p0 p1 p2 p3 p4 f0 f1 f2 f3 f4 B3 A3 HB3
                    clear hb5
                    obtain ⟨p0, p1, p2, p3, p4⟩ := B5.out.u5
                    obtain ⟨a0, a1, a2, a3, a4⟩ := A5.out.u5
                    obtain ⟨g0, g1, g2, g3, g4⟩ := A5.out.f5U
                    clear B5 HUO
                    cases okv
                    · have HF := hideB2 (show Ending.returned (.tuple #[.agg #[.string ⟨#[]⟩, .int .i64 0, .string ⟨#[]⟩, .string ⟨#[]⟩, .bool false], .bool false]) = .returned (.tuple #[valU U, .bool O]) by obtain ⟨h1, h2⟩ := HUO2.out; rw [h1, h2]; rfl)
                      go_wp2
                      refine bodyPost_ret (results_cellT rfl _ _ _ rfl (A5.out.set5U _ _ _ _ _) Tryz.underlying38 Tryz.infoUrl) rfl ⟨?_, ?_⟩
                      · exact HF.out
                      exact below_set5 HB5.out (Nat.le_refl _) _ _ _ _ _
                    · have HF := hideB2 (show Ending.returned (.tuple #[.agg #[.string fo, .int .i64 n, .string ⟨#[47]⟩, .string q, .bool true], .bool true]) = .returned (.tuple #[valU U, .bool O]) by obtain ⟨h1, h2⟩ := HUO2.out; rw [h1, h2, HK.out]; rfl)
                      go_wp2
                      refine bodyPost_ret (results_cellT rfl _ _ _ rfl (A5.out.set5U _ _ _ _ _) Tryz.underlying38 Tryz.infoUrl) rfl ⟨?_, ?_⟩
                      · exact HF.out
                      exact below_set5 HB5.out (Nat.le_refl _) _ _ _ _ _
                  · have hquery1 : ¬ (fr.size : Int) < (r.size : Int) := by omega
                    have HK := hideB2 (show KK = ⟨fo, rootB, ⟨#[]⟩, rdecN p, false⟩ by rw [HKS.out, if_neg hpath, if_neg hquery, if_pos htold, decide_eq_false hquery])
                    have HUO := hideB2 (fun W => sUrlOk_any fo ⟨#[47]⟩ ⟨#[]⟩ (rdecN p) false W (by omega) (by decide) (by decide))
                    have HUO2 := hideB2 (show O = urQ KK ∧ U = if urQ KK = true then KK else ur0 from HO0.out)
                    change Hid (∀ W, Calls _ _ _ W fun e w' => e = .returned (.bool (urQ ⟨fo, rootB, ⟨#[]⟩, rdecN p, false⟩)) ∧ Below W.heap.size W w') at HUO
                    rw [← HK.out] at HUO
                    generalize urQ KK = okv at *
                    generalize hnn : rdecN p = n at *
                    clear hnn
                    go_wp2_with fail
                    (try rw [hpo])
                    refine (HRD.out _).mono ?_
                    rintro e w3 ⟨rfl, hb3⟩
                    have B3 := hideB2 ((Blk.new w2 #[.string fo, .int .i64 80, .string ⟨#[47]⟩, .string ⟨#[]⟩, .bool false] 38).later hb3)
                    have A3 := hideB2 ((A2.out.alloc (.cells #[.string fo, .int .i64 80, .string ⟨#[47]⟩, .string ⟨#[]⟩, .bool false] 38)).later hb3)
                    have HB3 := hideB2 (below_then (below_then HB2.out (below_a1 w2 (.cells #[.string fo, .int .i64 80, .string ⟨#[47]⟩, .string ⟨#[]⟩, .bool false] 38))) hb3)
                    clear hb3
                    obtain ⟨p0, p1, p2, p3, p4⟩ := B3.out.u5
                    obtain ⟨f0, f1, f2, f3, f4⟩ := B3.out.f5U
                    go_wp2_with fail
                    (try rw [hqq])
                    refine (HUO.out _).mono ?_
                    rintro e w5 ⟨rfl, hb5⟩
                    have B5 : Hid (Blk w5 w2.heap.size #[.string fo, .int .i64 n, .string ⟨#[47]⟩, .string ⟨#[]⟩, .bool false] 38) := hideB2 ((B3.out.set 1 _).later hb5)
                    have A5 : Hid (Blk w5 w.heap.size #[.string ⟨#[]⟩, .int .i64 0, .string ⟨#[]⟩, .string ⟨#[]⟩, .bool false] 38) := hideB2 ((A3.out.other hne 1 _).later hb5)
                    have HB5 := hideB2 (below_then (HB3.out.setCell (p := ⟨w2.heap.size, 1, none⟩) hge _) hb5)
                    clear p0 p1 p2 p3 p4 f0 f1 f2 f3 f4 B3 A3 HB3
                    clear hb5
                    obtain ⟨p0, p1, p2, p3, p4⟩ := B5.out.u5
                    obtain ⟨a0, a1, a2, a3, a4⟩ := A5.out.u5
                    obtain ⟨g0, g1, g2, g3, g4⟩ := A5.out.f5U
                    clear B5 HUO
                    cases okv
                    · have HF := hideB2 (show Ending.returned (.tuple #[.agg #[.string ⟨#[]⟩, .int .i64 0, .string ⟨#[]⟩, .string ⟨#[]⟩, .bool false], .bool false]) = .returned (.tuple #[valU U, .bool O]) by obtain ⟨h1, h2⟩ := HUO2.out; rw [h1, h2]; rfl)
                      go_wp2
                      refine bodyPost_ret (results_cellT rfl _ _ _ rfl (A5.out.set5U _ _ _ _ _) Tryz.underlying38 Tryz.infoUrl) rfl ⟨?_, ?_⟩
                      · exact HF.out
                      exact below_set5 HB5.out (Nat.le_refl _) _ _ _ _ _
                    · have HF := hideB2 (show Ending.returned (.tuple #[.agg #[.string fo, .int .i64 n, .string ⟨#[47]⟩, .string ⟨#[]⟩, .bool false], .bool true]) = .returned (.tuple #[valU U, .bool O]) by obtain ⟨h1, h2⟩ := HUO2.out; rw [h1, h2, HK.out]; rfl)
                      go_wp2
                      refine bodyPost_ret (results_cellT rfl _ _ _ rfl (A5.out.set5U _ _ _ _ _) Tryz.underlying38 Tryz.infoUrl) rfl ⟨?_, ?_⟩
                      · exact HF.out
                      exact below_set5 HB5.out (Nat.le_refl _) _ _ _ _ _
            · have htold1 : ¬ (ho.size : Int) < (au.size : Int) := by omega
              by_cases hpath : au.size < fr.size
              · have hpath1 : (au.size : Int) < (fr.size : Int) := by omega
                by_cases hquery : fr.size < r.size
                · have hquery1 : (fr.size : Int) < (r.size : Int) := by omega
                  have HK := hideB2 (show KK = ⟨fo, clnB pt, q, 80, true⟩ by rw [HKS.out, if_pos hpath, if_pos hquery, if_neg htold, decide_eq_true hquery])
                  have HUO := hideB2 (fun W => sUrlOk_any fo (clnB pt) q (80) true W (by omega) (by have := clnB_size pt; omega) (by omega))
                  have HUO2 := hideB2 (show O = urQ KK ∧ U = if urQ KK = true then KK else ur0 from HO0.out)
                  change Hid (∀ W, Calls _ _ _ W fun e w' => e = .returned (.bool (urQ ⟨fo, clnB pt, q, 80, true⟩)) ∧ Below W.heap.size W w') at HUO
                  rw [← HK.out] at HUO
                  generalize urQ KK = okv at *
                  generalize hcp : clnB pt = cp at *
                  clear hcp
                  go_wp2_with (first | (go_at_call 61; fail) | fail)
                  (try rw [hpp])
                  refine (HCP.out _).mono ?_
                  rintro e w4 ⟨rfl, hb4⟩
                  have B4 := hideB2 ((Blk.new w2 #[.string fo, .int .i64 80, .string ⟨#[47]⟩, .string ⟨#[]⟩, .bool false] 38).later hb4)
                  have A4 := hideB2 ((A2.out.alloc (.cells #[.string fo, .int .i64 80, .string ⟨#[47]⟩, .string ⟨#[]⟩, .bool false] 38)).later hb4)
                  have HB4 := hideB2 (below_then (below_then HB2.out (below_a1 w2 (.cells #[.string fo, .int .i64 80, .string ⟨#[47]⟩, .string ⟨#[]⟩, .bool false] 38))) hb4)
                  clear hb4
                  obtain ⟨p0, p1, p2, p3, p4⟩ := B4.out.u5
                  obtain ⟨f0, f1, f2, f3, f4⟩ := B4.out.f5U
                  go_wp2_with fail
                  (try rw [hqq])
                  refine (HUO.out _).mono ?_
                  rintro e w5 ⟨rfl, hb5⟩
                  have B5 : Hid (Blk w5 w2.heap.size #[.string fo, .int .i64 80, .string cp, .string q, .bool true] 38) := hideB2 ((((B4.out.set 2 _).set 4 _).set 3 _).later hb5)
                  have A5 : Hid (Blk w5 w.heap.size #[.string ⟨#[]⟩, .int .i64 0, .string ⟨#[]⟩, .string ⟨#[]⟩, .bool false] 38) := hideB2 ((((A4.out.other hne 2 _).other hne 4 _).other hne 3 _).later hb5)
                  have HB5 := hideB2 (below_then (((HB4.out.setCell (p := ⟨w2.heap.size, 2, none⟩) hge _).setCell (p := ⟨w2.heap.size, 4, none⟩) hge _).setCell (p := ⟨w2.heap.size, 3, none⟩) hge _) hb5)
                  clear p0 p1 p2 p3 p4 f0 f1 f2 f3 f4 B4 A4 HB4
                  clear hb5
                  obtain ⟨p0, p1, p2, p3, p4⟩ := B5.out.u5
                  obtain ⟨a0, a1, a2, a3, a4⟩ := A5.out.u5
                  obtain ⟨g0, g1, g2, g3, g4⟩ := A5.out.f5U
                  clear B5 HUO
                  cases okv
                  · have HF := hideB2 (show Ending.returned (.tuple #[.agg #[.string ⟨#[]⟩, .int .i64 0, .string ⟨#[]⟩, .string ⟨#[]⟩, .bool false], .bool false]) = .returned (.tuple #[valU U, .bool O]) by obtain ⟨h1, h2⟩ := HUO2.out; rw [h1, h2]; rfl)
                    go_wp2
                    refine bodyPost_ret (results_cellT rfl _ _ _ rfl (A5.out.set5U _ _ _ _ _) Tryz.underlying38 Tryz.infoUrl) rfl ⟨?_, ?_⟩
                    · exact HF.out
                    exact below_set5 HB5.out (Nat.le_refl _) _ _ _ _ _
                  · have HF := hideB2 (show Ending.returned (.tuple #[.agg #[.string fo, .int .i64 80, .string cp, .string q, .bool true], .bool true]) = .returned (.tuple #[valU U, .bool O]) by obtain ⟨h1, h2⟩ := HUO2.out; rw [h1, h2, HK.out]; rfl)
                    go_wp2
                    refine bodyPost_ret (results_cellT rfl _ _ _ rfl (A5.out.set5U _ _ _ _ _) Tryz.underlying38 Tryz.infoUrl) rfl ⟨?_, ?_⟩
                    · exact HF.out
                    exact below_set5 HB5.out (Nat.le_refl _) _ _ _ _ _
                · have hquery1 : ¬ (fr.size : Int) < (r.size : Int) := by omega
                  have HK := hideB2 (show KK = ⟨fo, clnB pt, ⟨#[]⟩, 80, false⟩ by rw [HKS.out, if_pos hpath, if_neg hquery, if_neg htold, decide_eq_false hquery])
                  have HUO := hideB2 (fun W => sUrlOk_any fo (clnB pt) ⟨#[]⟩ (80) false W (by omega) (by have := clnB_size pt; omega) (by decide))
                  have HUO2 := hideB2 (show O = urQ KK ∧ U = if urQ KK = true then KK else ur0 from HO0.out)
                  change Hid (∀ W, Calls _ _ _ W fun e w' => e = .returned (.bool (urQ ⟨fo, clnB pt, ⟨#[]⟩, 80, false⟩)) ∧ Below W.heap.size W w') at HUO
                  rw [← HK.out] at HUO
                  generalize urQ KK = okv at *
                  generalize hcp : clnB pt = cp at *
                  clear hcp
                  go_wp2_with (first | (go_at_call 61; fail) | fail)
                  (try rw [hpp])
                  refine (HCP.out _).mono ?_
                  rintro e w4 ⟨rfl, hb4⟩
                  have B4 := hideB2 ((Blk.new w2 #[.string fo, .int .i64 80, .string ⟨#[47]⟩, .string ⟨#[]⟩, .bool false] 38).later hb4)
                  have A4 := hideB2 ((A2.out.alloc (.cells #[.string fo, .int .i64 80, .string ⟨#[47]⟩, .string ⟨#[]⟩, .bool false] 38)).later hb4)
                  have HB4 := hideB2 (below_then (below_then HB2.out (below_a1 w2 (.cells #[.string fo, .int .i64 80, .string ⟨#[47]⟩, .string ⟨#[]⟩, .bool false] 38))) hb4)
                  clear hb4
                  obtain ⟨p0, p1, p2, p3, p4⟩ := B4.out.u5
                  obtain ⟨f0, f1, f2, f3, f4⟩ := B4.out.f5U
                  go_wp2_with fail
                  (try rw [hqq])
                  refine (HUO.out _).mono ?_
                  rintro e w5 ⟨rfl, hb5⟩
                  have B5 : Hid (Blk w5 w2.heap.size #[.string fo, .int .i64 80, .string cp, .string ⟨#[]⟩, .bool false] 38) := hideB2 ((B4.out.set 2 _).later hb5)
                  have A5 : Hid (Blk w5 w.heap.size #[.string ⟨#[]⟩, .int .i64 0, .string ⟨#[]⟩, .string ⟨#[]⟩, .bool false] 38) := hideB2 ((A4.out.other hne 2 _).later hb5)
                  have HB5 := hideB2 (below_then (HB4.out.setCell (p := ⟨w2.heap.size, 2, none⟩) hge _) hb5)
                  clear p0 p1 p2 p3 p4 f0 f1 f2 f3 f4 B4 A4 HB4
                  clear hb5
                  obtain ⟨p0, p1, p2, p3, p4⟩ := B5.out.u5
                  obtain ⟨a0, a1, a2, a3, a4⟩ := A5.out.u5
                  obtain ⟨g0, g1, g2, g3, g4⟩ := A5.out.f5U
                  clear B5 HUO
                  cases okv
                  · have HF := hideB2 (show Ending.returned (.tuple #[.agg #[.string ⟨#[]⟩, .int .i64 0, .string ⟨#[]⟩, .string ⟨#[]⟩, .bool false], .bool false]) = .returned (.tuple #[valU U, .bool O]) by obtain ⟨h1, h2⟩ := HUO2.out; rw [h1, h2]; rfl)
                    go_wp2
                    refine bodyPost_ret (results_cellT rfl _ _ _ rfl (A5.out.set5U _ _ _ _ _) Tryz.underlying38 Tryz.infoUrl) rfl ⟨?_, ?_⟩
                    · exact HF.out
                    exact below_set5 HB5.out (Nat.le_refl _) _ _ _ _ _
                  · have HF := hideB2 (show Ending.returned (.tuple #[.agg #[.string fo, .int .i64 80, .string cp, .string ⟨#[]⟩, .bool false], .bool true]) = .returned (.tuple #[valU U, .bool O]) by obtain ⟨h1, h2⟩ := HUO2.out; rw [h1, h2, HK.out]; rfl)
                    go_wp2
                    refine bodyPost_ret (results_cellT rfl _ _ _ rfl (A5.out.set5U _ _ _ _ _) Tryz.underlying38 Tryz.infoUrl) rfl ⟨?_, ?_⟩
                    · exact HF.out
                    exact below_set5 HB5.out (Nat.le_refl _) _ _ _ _ _
              · have hpath1 : ¬ (au.size : Int) < (fr.size : Int) := by omega
                by_cases hquery : fr.size < r.size
                · have hquery1 : (fr.size : Int) < (r.size : Int) := by omega
                  have HK := hideB2 (show KK = ⟨fo, rootB, q, 80, true⟩ by rw [HKS.out, if_neg hpath, if_pos hquery, if_neg htold, decide_eq_true hquery])
                  have HUO := hideB2 (fun W => sUrlOk_any fo ⟨#[47]⟩ q (80) true W (by omega) (by decide) (by omega))
                  have HUO2 := hideB2 (show O = urQ KK ∧ U = if urQ KK = true then KK else ur0 from HO0.out)
                  change Hid (∀ W, Calls _ _ _ W fun e w' => e = .returned (.bool (urQ ⟨fo, rootB, q, 80, true⟩)) ∧ Below W.heap.size W w') at HUO
                  rw [← HK.out] at HUO
                  generalize urQ KK = okv at *
                  go_wp2_with fail
                  (try rw [hqq])
                  refine (HUO.out _).mono ?_
                  rintro e w5 ⟨rfl, hb5⟩
                  have B5 := hideB2 ((Blk.new w2 #[.string fo, .int .i64 80, .string ⟨#[47]⟩, .string q, .bool true] 38).later hb5)
                  have A5 := hideB2 ((A2.out.alloc (.cells #[.string fo, .int .i64 80, .string ⟨#[47]⟩, .string q, .bool true] 38)).later hb5)
                  have HB5 := hideB2 (below_then (below_then HB2.out (below_a1 w2 (.cells #[.string fo, .int .i64 80, .string ⟨#[47]⟩, .string q, .bool true] 38))) hb5)
                  clear hb5
                  obtain ⟨p0, p1, p2, p3, p4⟩ := B5.out.u5
                  obtain ⟨a0, a1, a2, a3, a4⟩ := A5.out.u5
                  obtain ⟨g0, g1, g2, g3, g4⟩ := A5.out.f5U
                  clear B5 HUO
                  cases okv
                  · have HF := hideB2 (show Ending.returned (.tuple #[.agg #[.string ⟨#[]⟩, .int .i64 0, .string ⟨#[]⟩, .string ⟨#[]⟩, .bool false], .bool false]) = .returned (.tuple #[valU U, .bool O]) by obtain ⟨h1, h2⟩ := HUO2.out; rw [h1, h2]; rfl)
                    go_wp2
                    refine bodyPost_ret (results_cellT rfl _ _ _ rfl (A5.out.set5U _ _ _ _ _) Tryz.underlying38 Tryz.infoUrl) rfl ⟨?_, ?_⟩
                    · exact HF.out
                    exact below_set5 HB5.out (Nat.le_refl _) _ _ _ _ _
                  · have HF := hideB2 (show Ending.returned (.tuple #[.agg #[.string fo, .int .i64 80, .string ⟨#[47]⟩, .string q, .bool true], .bool true]) = .returned (.tuple #[valU U, .bool O]) by obtain ⟨h1, h2⟩ := HUO2.out; rw [h1, h2, HK.out]; rfl)
                    go_wp2
                    refine bodyPost_ret (results_cellT rfl _ _ _ rfl (A5.out.set5U _ _ _ _ _) Tryz.underlying38 Tryz.infoUrl) rfl ⟨?_, ?_⟩
                    · exact HF.out
                    exact below_set5 HB5.out (Nat.le_refl _) _ _ _ _ _
                · have hquery1 : ¬ (fr.size : Int) < (r.size : Int) := by omega
                  have HK := hideB2 (show KK = ⟨fo, rootB, ⟨#[]⟩, 80, false⟩ by rw [HKS.out, if_neg hpath, if_neg hquery, if_neg htold, decide_eq_false hquery])
                  have HUO := hideB2 (fun W => sUrlOk_any fo ⟨#[47]⟩ ⟨#[]⟩ (80) false W (by omega) (by decide) (by decide))
                  have HUO2 := hideB2 (show O = urQ KK ∧ U = if urQ KK = true then KK else ur0 from HO0.out)
                  change Hid (∀ W, Calls _ _ _ W fun e w' => e = .returned (.bool (urQ ⟨fo, rootB, ⟨#[]⟩, 80, false⟩)) ∧ Below W.heap.size W w') at HUO
                  rw [← HK.out] at HUO
                  generalize urQ KK = okv at *
                  go_wp2_with fail
                  (try rw [hqq])
                  refine (HUO.out _).mono ?_
                  rintro e w5 ⟨rfl, hb5⟩
                  have B5 := hideB2 ((Blk.new w2 #[.string fo, .int .i64 80, .string ⟨#[47]⟩, .string ⟨#[]⟩, .bool false] 38).later hb5)
                  have A5 := hideB2 ((A2.out.alloc (.cells #[.string fo, .int .i64 80, .string ⟨#[47]⟩, .string ⟨#[]⟩, .bool false] 38)).later hb5)
                  have HB5 := hideB2 (below_then (below_then HB2.out (below_a1 w2 (.cells #[.string fo, .int .i64 80, .string ⟨#[47]⟩, .string ⟨#[]⟩, .bool false] 38))) hb5)
                  clear hb5
                  obtain ⟨p0, p1, p2, p3, p4⟩ := B5.out.u5
                  obtain ⟨a0, a1, a2, a3, a4⟩ := A5.out.u5
                  obtain ⟨g0, g1, g2, g3, g4⟩ := A5.out.f5U
                  clear B5 HUO
                  cases okv
                  · have HF := hideB2 (show Ending.returned (.tuple #[.agg #[.string ⟨#[]⟩, .int .i64 0, .string ⟨#[]⟩, .string ⟨#[]⟩, .bool false], .bool false]) = .returned (.tuple #[valU U, .bool O]) by obtain ⟨h1, h2⟩ := HUO2.out; rw [h1, h2]; rfl)
                    go_wp2
                    refine bodyPost_ret (results_cellT rfl _ _ _ rfl (A5.out.set5U _ _ _ _ _) Tryz.underlying38 Tryz.infoUrl) rfl ⟨?_, ?_⟩
                    · exact HF.out
                    exact below_set5 HB5.out (Nat.le_refl _) _ _ _ _ _
                  · have HF := hideB2 (show Ending.returned (.tuple #[.agg #[.string fo, .int .i64 80, .string ⟨#[47]⟩, .string ⟨#[]⟩, .bool false], .bool true]) = .returned (.tuple #[valU U, .bool O]) by obtain ⟨h1, h2⟩ := HUO2.out; rw [h1, h2, HK.out]; rfl)
                    go_wp2
                    refine bodyPost_ret (results_cellT rfl _ _ _ rfl (A5.out.set5U _ _ _ _ _) Tryz.underlying38 Tryz.infoUrl) rfl ⟨?_, ?_⟩
                    · exact HF.out
                    exact below_set5 HB5.out (Nat.le_refl _) _ _ _ _ _
end Go.Proofs.YtmhohponikolfaaGreatDoor
namespace Go.Proofs.YtmhohponikolfaaGreatDoor
set_option linter.unusedVariables false
set_option linter.unusedSimpArgs false
open Go.RowKit
theorem rdK_ho (r : ByteArray) : (rdK r).ho = foldB (uptS 58 (auU r)) := by simp only [rdK]
theorem rdK_pa (r : ByteArray) : (rdK r).pa = clnB (if (uptS 63 (reU r)).size = 0 then rootB else uptS 63 (reU r)) := by simp only [rdK]
theorem rdK_qu (r : ByteArray) : (rdK r).qu = bhS 63 r := by simp only [rdK]
theorem rdU_sizes (s : ByteArray) : (rdU s).ho.size ≤ s.size ∧ (rdU s).pa.size ≤ 202 ∧ (rdU s).qu.size ≤ s.size := by
  have h1 := uptS_size 58 (auU (s.extract 7 s.size))
  have h2 := auU_size (s.extract 7 s.size)
  have h3 : (s.extract 7 s.size).size ≤ s.size := by rw [ByteArray.size_extract]; omega
  have h4 := bhS_size 63 (s.extract 7 s.size)
  have h5 := clnB_size (if (uptS 63 (reU (s.extract 7 s.size))).size = 0 then rootB else uptS 63 (reU (s.extract 7 s.size)))
  rw [← rdK_pa] at h5
  rw [← rdK_qu] at h4
  rw [← foldB_size, ← rdK_ho] at h1
  unfold rdU
  generalize rdK (s.extract 7 s.size) = K at *
  by_cases h : rdO s = true
  · rw [if_pos h]
    exact ⟨by omega, h5, by omega⟩
  · rw [if_neg h]
    have e : ur0.ho.size = 0 ∧ ur0.pa.size = 0 ∧ ur0.qu.size = 0 := ⟨rfl, rfl, rfl⟩
    omega
theorem ret_sbU {s t : ByteArray} {a b : Bool} (h : t = s) (h' : b = a) : Ending.returned (.tuple #[.string s, .bool a]) = .returned (.tuple #[.string t, .bool b]) := by rw [h, h']
def canB (s : ByteArray) : ByteArray := textB (rdU s).ho (rdU s).pa (rdU s).qu (rdU s).po (rdU s).hq
theorem urQ_zero : urQ ur0 = false := urQ_port rfl
theorem canB_no {s : ByteArray} (h : rdO s = false) : canB s = ⟨#[]⟩ := by
  unfold canB
  rw [rdU_no h]
  unfold textB
  rw [if_neg]
  have := urQ_zero
  unfold urQ at this
  rw [this]; simp
set_option maxHeartbeats 2000000 in
theorem Canon_any (s : ByteArray) (w : World) (hs : s.size ≤ 1048576) (htab : Tab10 w) :
    Calls Tryz.prog 15 #[.string s] w fun e w' => e = .returned (.tuple #[.string (canB s), .bool (rdO s)]) ∧ Below w.heap.size w w' := by
  have HR := hideB2 (fun W (h : Tab10 W) => ReadUrl_any s W hs h)
  have HT := hideB2 htab
  obtain ⟨z1, z2, z3⟩ := rdU_sizes s
  unfold canB
  clear htab
  generalize rdU s = u at *
  generalize rdO s = O at *
  obtain ⟨ho, pa, qu, po, hq⟩ := u
  simp only [valU] at HR
  simp only at z1 z2 z3
  have HX := hideB2 (fun W (h : Tab10 W) => UrlText_any ho pa qu po hq W h (by omega) (by omega) (by omega))
  show Calls _ _ _ _ fun e w' => e = .returned (.tuple #[.string (textB ho pa qu po hq), .bool O]) ∧ Below w.heap.size w w'
  generalize textB ho pa qu po hq = T at *
  go_enter Tryz.func15, Tryz.ntmps15
  go_wp2_with fail
  refine (HR.out _ HT.out).mono ?_
  rintro e w1 ⟨rfl, hb1⟩
  have hb1' := below_then hb1 (below_a1 w1 (.cells #[.string ho, .int .i64 po, .string pa, .string qu, .bool hq] 38))
  have HB1 := hideB2 hb1'
  clear hb1 hb1'
  go_wp2_with (go_at_call 38; refine (HX.out _ (tab_later HT.out HB1.out)).mono ?_; rintro e w2 ⟨rfl, hb2⟩)
  go_ret2
  exact ⟨rfl, below_then HB1.out hb2⟩
set_option maxHeartbeats 2000000 in
theorem sCanon_any (s : ByteArray) (w : World) (hs : s.size ≤ 1048576) :
    Calls Tryz.prog 16 #[.string s] w fun e w' => e = .returned (.tuple #[.string (canB s), .bool (rdO s)]) ∧ Below w.heap.size w w' := by
  have HR := hideB2 (fun W => sReadUrl_any s W hs)
  have HN := hideB2 (fun (h : rdO s = false) => canB_no h)
  obtain ⟨z1, z2, z3⟩ := rdU_sizes s
  have hcan : canB s = textB (rdU s).ho (rdU s).pa (rdU s).qu (rdU s).po (rdU s).hq := rfl
  generalize canB s = C at *
  generalize rdU s = u at *
  generalize rdO s = O at *
  obtain ⟨ho, pa, qu, po, hq⟩ := u
  simp only [valU] at HR
  simp only at z1 z2 z3 hcan
  have HX := hideB2 (fun W => sUrlText_any ho pa qu po hq W (by omega) (by omega) (by omega))
  rw [← hcan] at HX
  clear hcan
  cases O
  · have HF := hideB2 (HN.out rfl)
    go_enter Tryz.func16, Tryz.ntmps16
    go_wp2_with fail
    refine (HR.out _).mono ?_
    rintro e w1 ⟨rfl, hb1⟩
    have HB1 := hideB2 (below_then hb1 (below_a1 w1 (.cells #[.string ho, .int .i64 po, .string pa, .string qu, .bool hq] 38)))
    clear hb1
    go_wp2
    go_ret2
    exact ⟨ret_sbU HF.out rfl, HB1.out⟩
  · go_enter Tryz.func16, Tryz.ntmps16
    go_wp2_with fail
    refine (HR.out _).mono ?_
    rintro e w1 ⟨rfl, hb1⟩
    have HB1 := hideB2 (below_then hb1 (below_a1 w1 (.cells #[.string ho, .int .i64 po, .string pa, .string qu, .bool hq] 38)))
    clear hb1
    go_wp2_with (go_at_call 39; refine (HX.out _).mono ?_; rintro e w2 ⟨rfl, hb2⟩)
    go_ret2
    exact ⟨rfl, below_then HB1.out hb2⟩
set_option maxHeartbeats 1000000 in
theorem eqUrl_same (ho pa qu : ByteArray) (po : Int) (hq : Bool) (w : World) :
    Calls Tryz.prog 24 #[.agg #[.string ho, .int .i64 po, .string pa, .string qu, .bool hq], .agg #[.string ho, .int .i64 po, .string pa, .string qu, .bool hq]] w fun e w' => e = .returned (.bool true) ∧ Below w.heap.size w w' := by
  have HB := hideB2 (below_a2 w (.cells #[.string ho, .int .i64 po, .string pa, .string qu, .bool hq] 38) (.cells #[.string ho, .int .i64 po, .string pa, .string qu, .bool hq] 38))
  have e1 : (ho.toList == ho.toList) = true := by simp
  have e2 : (pa.toList == pa.toList) = true := by simp
  have e3 : (qu.toList == qu.toList) = true := by simp
  have e4 : (po != po) = false := by simp
  have e5 : (hq != hq) = false := by cases hq <;> rfl
  go_enter Tryz.func24, Tryz.ntmps24
  go_wp2
  go_ret
  exact ⟨rfl, HB.out⟩
end Go.Proofs.YtmhohponikolfaaGreatDoor
namespace Go.Proofs.YtmhohponikolfaaGreatDoor
set_option linter.unusedVariables false
set_option linter.unusedSimpArgs false
open Go.ChangeShapes Go.WideShapes Go.ChangeAt Go.RowKit

/-- A block's cells, laid anew. -/
def laidRow (cs : Array Value) : Obj → Obj
  | .cells _ t frozen => .cells cs t frozen
  | o => o
theorem laid_mem {P : Program} {w : World} : ∀ {l : List (String × DataW Unit)} {ps : List MemPlace}, DataW.LaidVars P w l ps → ∀ (n : String) (d : DataW Unit), (n, d) ∈ l →
    ∃ g t cs fuel p, P.globalNamed n = some g ∧ (P.globals[g]?).map (·.type) = some t ∧ w.var? P n = some cs ∧ DataW.trod (fun _ => ()) P w 0 (fun _ => true) false fuel t cs.toList = some (d, p)
  | [], _, _, n, d, hm => by simp at hm
  | (n0, d0) :: r, ps, h, n, d, hm => by
    obtain ⟨g, t, cs, fuel, p, q, h1, h2, h3, h4, h5, _⟩ := h
    rcases List.mem_cons.1 hm with e | e
    · cases e
      exact ⟨g, t, cs, fuel, p, h1, h2, h3, h4⟩
    · exact laid_mem h5 n d e
end Go.Proofs.YtmhohponikolfaaGreatDoor
namespace Go.Proofs.YtmhohponikolfaaGreatDoor
set_option linter.unusedVariables false
set_option linter.unusedSimpArgs false
open Go.ChangeShapes Go.WideShapes Go.ChangeAt Go.RowKit
theorem dectab_of_laid {W : World} {l : List (String × DataW Unit)} (hm : ("internal/strconv.uint64pow10", Rows.laid_internal_strconv_uint64pow10) ∈ l) (h : laidMet Tryz.prog l W) : Tab10 W := by
  obtain ⟨ps, hl, _⟩ := h
  obtain ⟨g, t, cs, fuel, p, h1, h2, h3, h4⟩ := laid_mem hl _ _ hm
  have hg : Tryz.prog.globalNamed "internal/strconv.uint64pow10" = some 5 := by kernel_rfl
  have ht : (Tryz.prog.globals[5]?).map (·.type) = some 180 := by kernel_rfl
  obtain rfl := Option.some.inj (hg.symm.trans h1)
  obtain rfl := Option.some.inj (ht.symm.trans h2)
  have hc := Lib.cells_of_tab (k := .u64) (zs := Lib.pow10Tab) Tryz.underlying180 Tryz.underlying146 (by kernel_rfl) (by kernel_rfl) h4
  unfold Tab10 Lib.TabIs
  rw [h3, ← hc]
end Go.Proofs.YtmhohponikolfaaGreatDoor
