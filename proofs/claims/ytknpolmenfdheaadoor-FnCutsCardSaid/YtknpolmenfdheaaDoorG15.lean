/-
  Chapter 4: Append, Cut, Crash, Roll (the specification's side). Written by mkspecstore.py.
-/
import Derived.Test.YtknpolmenfdheaaDoorG13
import Derived.Test.YtknpolmenfdheaaDoorG14
namespace Go.Proofs.YtknpolmenfdheaaDoor
set_option linter.unusedVariables false
set_option linter.unusedSimpArgs false
open Go.RowKit
set_option maxHeartbeats 4000000 in
theorem sAppend_any (v : Value) (l : List Sg) (c : Int) (x : ByteArray) (w : World) (hv : SlG w v l) (hl : l.length ≤ 1048576) (ht : totG l ≤ 1099511627776) (hbz : x.size ≤ 1099511627776) :
    Calls Tryd.prog 9 #[.agg #[v, .int .i64 c], .string x] w fun e w' => ∃ r, e = .returned (.tuple #[r, .int .i64 (appR l c x).2]) ∧ Out w w' r (appR l c x).1 c ∧ Below w.heap.size w w' := by
  obtain ⟨a, c0, rfl⟩ := hv.form
  generalize hm : l.length = n at *
  have HN := hideB2 hm
  clear hm
  have A0 := (Blk.new w #[.slice a n c0, .int .i64 c] 25).alloc (.cells #[.slice none 0 0, .int .i64 0] 25)
  have A1 := Blk.new (w.alloc (.cells #[.slice a n c0, .int .i64 c] 25)) #[.slice none 0 0, .int .i64 0] 25
  have hsz : (w.alloc (.cells #[.slice a n c0, .int .i64 c] 25)).heap.size = w.heap.size + 1 := by simp
  rw [hsz] at A1
  have ha := below_a2 w (.cells #[.slice a n c0, .int .i64 c] 25) (.cells #[.slice none 0 0, .int .i64 0] 25)
  have HA0 := hideB2 A0
  have HA1 := hideB2 A1
  have HV := hideB2 (hv.later ha)
  clear A0 A1 hsz hv
  go_enter Tryd.func9, Tryd.ntmps9
  go_wp2_with fail
  refine (sStoreOk_any _ l c _ HV.out (by rw [HN.out]; exact hl) ht).mono ?_
  rintro e w1 ⟨rfl, hb1⟩
  have K0 := HA0.out.later hb1
  have K1 := HA1.out.later hb1
  obtain ⟨p0, p1⟩ := K0.c2
  obtain ⟨r0, r1⟩ := K1.c2
  have f0 := K1.free 0
  have f1 := K1.free 1
  have HV1 := hideB2 (HV.out.later hb1)
  have HB := hideB2 (below_then ha hb1)
  have hsz1 := hb1.size
  simp at hsz1
  have HK0 := hideB2 K0
  have HK1 := hideB2 K1
  clear K0 K1 ha hb1 HV HA0 HA1
  cases hq : storeQ l c with
  | false =>
    have HR := hideB2 (show appR l c x = (none, 1) by unfold appR; rw [hq]; rfl)
    clear hq
    go_wp2
    refine bodyPost_ret (results_cellT rfl _ _ _ rfl (HK1.out.set2 _ _) Tryd.underlying25 Tryd.infoStore) rfl ⟨_, by rw [HR.out]; rfl, by rw [HR.out]; rfl, below_set2 HB.out (by omega) _ _⟩
  | true =>
    obtain ⟨hc1, hc2, q1, q2, q3, _⟩ := storeQ_iff.1 hq
    rw [HN.out] at q1 q2
    obtain ⟨b, rfl, hr⟩ := HV1.out.row (by rw [HN.out]; omega)
    have hrow := rowQ_iff.1 (q3 (n - 1) (by rw [HN.out]; omega))
    have hat := totG_at l (n - 1) (by rw [HN.out]; omega)
    have em : (n : Int) - 1 = ((n - 1 : Nat) : Int) := by omega
    have hi1 : ((n - 1 : Nat) : Int) < (n : Int) := by omega
    have hi0 : (0 : Int) ≤ ((n - 1 : Nat) : Int) := by omega
    have hiw : IntKind.i64.wrap ((n - 1 : Nat) : Int) = ((n - 1 : Nat) : Int) := by rw [IntKind.wrap_i64]; omega
    clear q3
    have z0 := fun V => grw_some p0 V
    have z1 := fun V => grw_some p1 V
    have HSZ := hideB2 (show ∀ V : Gr w1, Calls Tryd.prog 31 #[.agg #[.slice (some ⟨b, 0, none⟩) n c0, .int .i64 c]] (grw w1 V) (fun e w' => e = .returned (.int .i64 (totG l : Int)) ∧ Below (grw w1 V).heap.size (grw w1 V) w') from fun V => by
      have h := sUsed_any (.slice (some ⟨b, 0, none⟩) n c0) l c (grw w1 V) (HV1.out.later (grw_below w1 V)) (by rw [HN.out]; omega) ht
      rw [if_pos hq] at h
      exact h)
    have HRV := hideB2 (fun V : Gr w1 => hr.keep (grw_below w1 V))
    have HK0V := hideB2 (fun V : Gr w1 => HK0.out.later (grw_below w1 V))
    have HK1V := hideB2 (fun V : Gr w1 => HK1.out.later (grw_below w1 V))
    have HBV := hideB2 (fun V : Gr w1 => below_then HB.out (grw_below w1 V))
    have HSV := hideB2 (fun V : Gr w1 => (grw_below w1 V).size)
    clear hr HV1 HK0 HK1 HB p0 p1 r0 r1 f0 f1
    go_wp2
    refine wp_region_grow ?_ ?_ ?_
    · kernel_rfl
    · kernel_rfl
    · intro hne
      repeat (go_big_quiet_step ((go_at_call 31; exact grow_call (HSZ.out _))))
      refine wpQuiet_nil ?_
      rintro _ ⟨V, rfl⟩
      have HRB := hideB2 (HRV.out V)
      have HK0 := hideB2 (HK0V.out V)
      have HK1 := hideB2 (HK1V.out V)
      have HB := hideB2 (HBV.out V)
      have hsv := HSV.out V
      clear HRV HK0V HK1V HBV HSV HSZ z0 z1
      generalize grw w1 V = wv at *
      obtain ⟨p0, p1⟩ := HK0.out.c2
      obtain ⟨r0, r1⟩ := HK1.out.c2
      have f0 := HK1.out.free 0
      have f1 := HK1.out.free 1
      by_cases hfull : c - (totG l : Int) < (x.size : Int)
      · have HR := hideB2 (show appR l c x = (none, 2) by unfold appR; rw [hq, if_pos rfl, if_pos hfull])
        clear hq
        go_wp2
        refine bodyPost_ret (results_cellT rfl _ _ _ rfl (HK1.out.set2 _ _) Tryd.underlying25 Tryd.infoStore) rfl ⟨_, by rw [HR.out]; rfl, by rw [HR.out]; rfl, below_set2 HB.out (by omega) _ _⟩
      · have HR := hideB2 (show appR l c x = (some (appL l x), 0) by unfold appR; rw [hq, if_pos rfl, if_neg hfull])
        have HO := hideB2 (show l.set (n - 1) ((sgAt l (n - 1)).1 ++ x, (sgAt l (n - 1)).2) = appL l x by unfold appL putLast lastG; rw [HN.out])
        clear hq
        go_wp2_with fail
        refine (l4copy_any b c0 n l c _ HRB.out HN.out (by omega) (by omega)).mono ?_
        rintro e w2 ⟨g, cap, rfl, hge, hgb, hb2⟩
        have O1 := Blk.new w2 #[.slice (some ⟨g, 0, none⟩) n cap, .int .i64 c] 25
        have ba := below_a1 w2 (.cells #[.slice (some ⟨g, 0, none⟩) n cap, .int .i64 c] 25)
        have K0 := (HK0.out.later hb2).later ba
        have K1 := (HK1.out.later hb2).later ba
        have G1 := hgb.later ba
        have hr2 := (HRB.out.keep hb2).keep ba
        have hgl := hgb.lt
        have HB2 := hideB2 (below_then (below_then HB.out hb2) ba)
        have hd0 := hr2.dat (n - 1) (by rw [HN.out]; omega)
        have hd1 := hr2.saf (n - 1) (by rw [HN.out]; omega)
        have gd0 := G1.row.dat (n - 1) (by rw [HN.out]; omega)
        have gd1 := G1.row.saf (n - 1) (by rw [HN.out]; omega)
        have gf0 := G1.row.free ((n - 1) * 2)
        have gf1 := G1.row.free ((n - 1) * 2 + 1)
        have hsz2 := hb2.size
        clear p0 p1 r0 r1 f0 f1
        obtain ⟨p0, p1⟩ := K0.c2
        obtain ⟨r0, r1⟩ := K1.c2
        obtain ⟨o0, o1⟩ := O1.c2
        have of0 := O1.free 0
        have f0 := K1.free 0
        have f1 := K1.free 1
        have HG1 := hideB2 G1
        have HKK := hideB2 K1
        have HO1 := hideB2 O1
        clear hb2 ba hgb hr2 K0 K1 O1 G1 HK0 HK1 HB
        clear HRB
        generalize hxx : sgAt l (n - 1) = xx at *
        obtain ⟨d, s⟩ := xx
        have HXX := hideB2 hxx
        clear hxx
        simp only at hd0 hd1 gd0 gd1 HO
        go_wp2
        generalize hW : w2.alloc (.cells #[.slice (some ⟨g, 0, none⟩) n cap, .int .i64 c] 25) = W at *
        clear hW
        have HG2 := hideB2 (HG1.out.set (n - 1) (d ++ x) (s))
        rw [HO.out] at HG2
        have O4 := (HO1.out.other (b' := g) (by omega) ((n - 1) * 2) (.string (d ++ x))).other (b' := g) (by omega) ((n - 1) * 2 + 1) (.int .i64 (s))
        have K4 := (HKK.out.other (b' := g) (by omega) ((n - 1) * 2) (.string (d ++ x))).other (b' := g) (by omega) ((n - 1) * 2 + 1) (.int .i64 (s))
        have HB4 := hideB2 ((HB2.out.setCell (p := ⟨g, (n - 1) * 2, none⟩) (by show w.heap.size ≤ g; omega) (.string (d ++ x))).setCell (p := ⟨g, (n - 1) * 2 + 1, none⟩) (by show w.heap.size ≤ g; omega) (.int .i64 (s)))
        obtain ⟨a0, a1⟩ := O4.c2
        obtain ⟨b0, b1⟩ := K4.c2
        have y0 := K4.free 0
        have y1 := K4.free 1
        have HK4 := hideB2 K4
        clear O4 K4 HG1 HKK HO1 HB2
        refine wp_region_draws_tail 19 ?_ ?_ ?_
        · kernel_rfl
        · kernel_rfl
        simp only [List.take_succ_cons, List.take_zero, List.drop_succ_cons, List.drop_zero]
        repeat (go_big_quiet_step (fail))
        refine wpQuiet_nil ?_
        rintro _ ⟨nq, rfl⟩
        go_wp2
        have HK5 : Blk (((W.drewN nq).setCell ⟨g, (n - 1) * 2, none⟩ (.string (d ++ x))).setCell ⟨g, (n - 1) * 2 + 1, none⟩ (.int .i64 (s))) (w.heap.size + 1) #[.slice none 0 0, .int .i64 0] 25 := HK4.out.drewN nq
        refine bodyPost_ret (results_cellT rfl _ _ _ rfl (HK5.set2 _ _) Tryd.underlying25 Tryd.infoStore) rfl ⟨_, by rw [HR.out]; rfl, ?_, below_set2 (below_drewN HB4.out nq) (by omega) _ _⟩
        rw [HR.out]
        exact ⟨g, cap, by rw [show (appL l x).length = n by rw [appL, putLast_len]; exact HN.out], by omega, (HG2.out.drewN nq).oth2 (by omega) _ _⟩
set_option maxHeartbeats 4000000 in
theorem sCut_any (v : Value) (l : List Sg) (c m : Int) (w : World) (hv : SlG w v l) (hl : l.length ≤ 1048576) (ht : totG l ≤ 1099511627776) :
    Calls Tryd.prog 30 #[.agg #[v, .int .i64 c], .int .i64 m] w fun e w' => ∃ r, e = .returned (.tuple #[r, .int .i64 (cutR l c m).2]) ∧ Out w w' r (cutR l c m).1 c ∧ Below w.heap.size w w' := by
  obtain ⟨a, c0, rfl⟩ := hv.form
  generalize hm : l.length = n at *
  have HN := hideB2 hm
  clear hm
  have A0 := (Blk.new w #[.slice a n c0, .int .i64 c] 25).alloc (.cells #[.slice none 0 0, .int .i64 0] 25)
  have A1 := Blk.new (w.alloc (.cells #[.slice a n c0, .int .i64 c] 25)) #[.slice none 0 0, .int .i64 0] 25
  have hsz : (w.alloc (.cells #[.slice a n c0, .int .i64 c] 25)).heap.size = w.heap.size + 1 := by simp
  rw [hsz] at A1
  have ha := below_a2 w (.cells #[.slice a n c0, .int .i64 c] 25) (.cells #[.slice none 0 0, .int .i64 0] 25)
  have HA0 := hideB2 A0
  have HA1 := hideB2 A1
  have HV := hideB2 (hv.later ha)
  clear A0 A1 hsz hv
  go_enter Tryd.func30, Tryd.ntmps30
  go_wp2_with fail
  refine (sStoreOk_any _ l c _ HV.out (by rw [HN.out]; exact hl) ht).mono ?_
  rintro e w1 ⟨rfl, hb1⟩
  have K0 := HA0.out.later hb1
  have K1 := HA1.out.later hb1
  obtain ⟨p0, p1⟩ := K0.c2
  obtain ⟨r0, r1⟩ := K1.c2
  have f0 := K1.free 0
  have f1 := K1.free 1
  have HV1 := hideB2 (HV.out.later hb1)
  have HB := hideB2 (below_then ha hb1)
  have hsz1 := hb1.size
  simp at hsz1
  have HK0 := hideB2 K0
  have HK1 := hideB2 K1
  clear K0 K1 ha hb1 HV HA0 HA1
  cases hq : storeQ l c with
  | false =>
    have HR := hideB2 (show cutR l c m = (none, 1) by unfold cutR; rw [hq]; rfl)
    clear hq
    go_wp2
    refine bodyPost_ret (results_cellT rfl _ _ _ rfl (HK1.out.set2 _ _) Tryd.underlying25 Tryd.infoStore) rfl ⟨_, by rw [HR.out]; rfl, by rw [HR.out]; rfl, below_set2 HB.out (by omega) _ _⟩
  | true =>
    obtain ⟨hc1, hc2, q1, q2, q3, _⟩ := storeQ_iff.1 hq
    rw [HN.out] at q1 q2
    obtain ⟨b, rfl, hr⟩ := HV1.out.row (by rw [HN.out]; omega)
    have hrow := rowQ_iff.1 (q3 (n - 1) (by rw [HN.out]; omega))
    have hat := totG_at l (n - 1) (by rw [HN.out]; omega)
    have em : (n : Int) - 1 = ((n - 1 : Nat) : Int) := by omega
    have hi1 : ((n - 1 : Nat) : Int) < (n : Int) := by omega
    have hi0 : (0 : Int) ≤ ((n - 1 : Nat) : Int) := by omega
    have hiw : IntKind.i64.wrap ((n - 1 : Nat) : Int) = ((n - 1 : Nat) : Int) := by rw [IntKind.wrap_i64]; omega
    clear q3
    have hd0 := hr.dat (n - 1) (by rw [HN.out]; omega)
    have HRB := hideB2 hr
    generalize hxx : sgAt l (n - 1) = xx at *
    obtain ⟨d, s⟩ := xx
    have HXX := hideB2 hxx
    clear hxx hr HV1
    simp only at hd0 hat hrow
    have hdm : (d.size : Int) ≤ 1099511627776 := by omega
    have HLG := hideB2 (show (lastG l).1.size = d.size by unfold lastG; rw [HN.out, HXX.out])
    clear hat hrow
    by_cases hw : 0 ≤ m ∧ m ≤ (d.size : Int)
    · have hw1 : ¬ m < 0 := by omega
      have hw2 : ¬ (d.size : Int) < m := by omega
      by_cases hz : m = 0 ∧ 1 < n
      · obtain ⟨rfl, h1n⟩ := hz
        have HR := hideB2 (show cutR l c 0 = (some (l.take (n - 1)), 0) by unfold cutR; rw [hq, if_pos rfl, HLG.out, if_pos hw, if_pos ⟨rfl, by rw [HN.out]; exact h1n⟩, HN.out])
        have h1i : (0 : Int) < ((n - 1 : Nat) : Int) := by omega
        clear hq HLG hw
        go_wp2_with fail
        refine (l4copy_any b c0 n l c _ HRB.out HN.out (by omega) (by omega)).mono ?_
        rintro e w2 ⟨g, cap, rfl, hge, hgb, hb2⟩
        have ba := below_a1 w2 (.cells #[.slice (some ⟨g, 0, none⟩) (n - 1) cap, .int .i64 c] 25)
        have K1 := (HK1.out.later hb2).later ba
        have HKK := hideB2 K1
        have HG5 := hideB2 ((hgb.later ba).cut (n - 1) (by rw [HN.out]; omega))
        have HB5 := hideB2 (below_then (below_then HB.out hb2) ba)
        have hcn : ((n - 1 : Nat) : Int) ≤ (cap : Int) := by
          obtain ⟨cur, _, hh, _⟩ := hgb
          rw [HN.out] at hh; omega
        have hsz2 := hb2.size
        have hgl := hgb.lt
        clear p0 p1 r0 r1 f0 f1
        obtain ⟨r0, r1⟩ := K1.c2
        have f0 := K1.free 0
        have f1 := K1.free 1
        clear K1 ba hgb hb2 HK0 HK1 HB HRB
        go_wp2
        refine bodyPost_ret (results_cellT rfl _ _ _ rfl (HKK.out.set2 _ _) Tryd.underlying25 Tryd.infoStore) rfl ⟨_, by rw [HR.out]; rfl, ?_, below_set2 HB5.out (by omega) _ _⟩
        rw [HR.out]
        exact ⟨g, cap, by rw [show (l.take (n - 1)).length = n - 1 by rw [List.length_take, HN.out]; omega], by omega, HG5.out.oth2 (by omega) _ _⟩
      · have HR := hideB2 (show cutR l c m = (some (cutL l m), 0) by unfold cutR; rw [hq, if_pos rfl, HLG.out, if_pos hw, if_neg (by rw [HN.out]; exact hz)])
        have HO := hideB2 (show l.set (n - 1) (d.extract 0 m.toNat, m) = cutL l m by unfold cutL putLast lastG; rw [HN.out, HXX.out])
        have hz2 : (m == 0) = false ∨ (m == 0) = true ∧ ¬ (0 : Int) < ((n - 1 : Nat) : Int) := by
          by_cases e0 : m = 0
          · exact .inr ⟨by rw [beq_iff_eq]; exact e0, by omega⟩
          · exact .inl (by rw [beq_eq_false_iff_ne]; exact e0)
        have hwm : IntKind.i64.wrap m = m := by rw [IntKind.wrap_i64]; omega
        obtain ⟨hm0, hm1⟩ := hw
        clear hq HLG hz
        go_wp2_with fail
        refine (l4copy_any b c0 n l c _ HRB.out HN.out (by omega) (by omega)).mono ?_
        rintro e w2 ⟨g, cap, rfl, hge, hgb, hb2⟩
        have O1 := Blk.new w2 #[.slice (some ⟨g, 0, none⟩) n cap, .int .i64 c] 25
        have ba := below_a1 w2 (.cells #[.slice (some ⟨g, 0, none⟩) n cap, .int .i64 c] 25)
        have K0 := (HK0.out.later hb2).later ba
        have K1 := (HK1.out.later hb2).later ba
        have G1 := hgb.later ba
        have hr2 := (HRB.out.keep hb2).keep ba
        have hgl := hgb.lt
        have HB2 := hideB2 (below_then (below_then HB.out hb2) ba)
        have hd0 := hr2.dat (n - 1) (by rw [HN.out]; omega)
        have hd1 := hr2.saf (n - 1) (by rw [HN.out]; omega)
        have gd0 := G1.row.dat (n - 1) (by rw [HN.out]; omega)
        have gd1 := G1.row.saf (n - 1) (by rw [HN.out]; omega)
        have gf0 := G1.row.free ((n - 1) * 2)
        have gf1 := G1.row.free ((n - 1) * 2 + 1)
        have hsz2 := hb2.size
        clear p0 p1 r0 r1 f0 f1
        obtain ⟨p0, p1⟩ := K0.c2
        obtain ⟨r0, r1⟩ := K1.c2
        obtain ⟨o0, o1⟩ := O1.c2
        have of0 := O1.free 0
        have f0 := K1.free 0
        have f1 := K1.free 1
        have HG1 := hideB2 G1
        have HKK := hideB2 K1
        have HO1 := hideB2 O1
        clear hb2 ba hgb hr2 K0 K1 O1 G1 HK0 HK1 HB
        rw [HXX.out] at hd0 hd1 gd0 gd1
        simp only at hd0 hd1 gd0 gd1
        clear HRB
        rcases hz2 with hz2 | ⟨hz2, hz3⟩
        all_goals
          go_wp2
          generalize hW : w2.alloc (.cells #[.slice (some ⟨g, 0, none⟩) n cap, .int .i64 c] 25) = W at *
          clear hW
          have HG2 := hideB2 (HG1.out.set (n - 1) (d.extract 0 m.toNat) (m))
          rw [HO.out] at HG2
          have O4 := (HO1.out.other (b' := g) (by omega) ((n - 1) * 2) (.string (d.extract 0 m.toNat))).other (b' := g) (by omega) ((n - 1) * 2 + 1) (.int .i64 (m))
          have K4 := (HKK.out.other (b' := g) (by omega) ((n - 1) * 2) (.string (d.extract 0 m.toNat))).other (b' := g) (by omega) ((n - 1) * 2 + 1) (.int .i64 (m))
          have HB4 := hideB2 ((HB2.out.setCell (p := ⟨g, (n - 1) * 2, none⟩) (by show w.heap.size ≤ g; omega) (.string (d.extract 0 m.toNat))).setCell (p := ⟨g, (n - 1) * 2 + 1, none⟩) (by show w.heap.size ≤ g; omega) (.int .i64 (m)))
          obtain ⟨a0, a1⟩ := O4.c2
          obtain ⟨b0, b1⟩ := K4.c2
          have y0 := K4.free 0
          have y1 := K4.free 1
          have HK4 := hideB2 K4
          clear O4 K4 HG1 HKK HO1 HB2
          refine wp_region_draws_tail 14 ?_ ?_ ?_
          · kernel_rfl
          · kernel_rfl
          simp only [List.take_succ_cons, List.take_zero, List.drop_succ_cons, List.drop_zero]
          repeat (go_big_quiet_step (fail))
          refine wpQuiet_nil ?_
          rintro _ ⟨nq, rfl⟩
          go_wp2
          have HK5 : Blk (((W.drewN nq).setCell ⟨g, (n - 1) * 2, none⟩ (.string (d.extract 0 m.toNat))).setCell ⟨g, (n - 1) * 2 + 1, none⟩ (.int .i64 (m))) (w.heap.size + 1) #[.slice none 0 0, .int .i64 0] 25 := HK4.out.drewN nq
          refine bodyPost_ret (results_cellT rfl _ _ _ rfl (HK5.set2 _ _) Tryd.underlying25 Tryd.infoStore) rfl ⟨_, by rw [HR.out]; rfl, ?_, below_set2 (below_drewN HB4.out nq) (by omega) _ _⟩
          rw [HR.out]
          exact ⟨g, cap, by rw [show (cutL l m).length = n by rw [cutL, putLast_len]; exact HN.out], by omega, (HG2.out.drewN nq).oth2 (by omega) _ _⟩
    · have HR := hideB2 (show cutR l c m = (none, 3) by unfold cutR; rw [hq, if_pos rfl, HLG.out, if_neg hw])
      have h5 : m < 0 ∨ ¬ m < 0 ∧ (d.size : Int) < m := by omega
      clear hq HLG hw
      rcases h5 with h5 | ⟨h5, h6⟩
      all_goals
        go_wp2
        refine bodyPost_ret (results_cellT rfl _ _ _ rfl (HK1.out.set2 _ _) Tryd.underlying25 Tryd.infoStore) rfl ⟨_, by rw [HR.out]; rfl, by rw [HR.out]; rfl, below_set2 HB.out (by omega) _ _⟩
end Go.Proofs.YtknpolmenfdheaaDoor
