/-
  Chapter 4: Roll, Cut (the program's side).
-/
import Derived.Test.YtknpolmenfdheaaDoorG8
namespace Go.Proofs.YtknpolmenfdheaaDoor
set_option linter.unusedVariables false
set_option linter.unusedSimpArgs false
open Go.RowKit
def rollL (l : List Sg) : List Sg := syncL l ++ [sg0]
def rollR (l : List Sg) (c : Int) : Option (List Sg) × Int := if storeQ l c = true then (if (lastG l).1.size = 0 then (none, 3) else if l.length = 40 then (none, 2) else (some (rollL l), 0)) else (none, 1)
set_option maxHeartbeats 2000000 in
theorem rolled_any (v : Value) (l : List Sg) (c : Int) (w : World) (hv : SlG w v l) (hl : l.length ≤ 1048576) (ht : totG l ≤ 1099511627776) :
    Calls Tryd.prog 49 #[.agg #[v, .int .i64 c]] w fun e w' => ∃ r ev, e = .returned (.tuple #[r, ev]) ∧ Out w w' r (rollR l c).1 c ∧ ErrV ev (rollR l c).2 ∧ Below w.heap.size w w' := by
  obtain ⟨a, c0, rfl⟩ := hv.form
  generalize hm : l.length = n at *
  have HN := hideB2 hm
  clear hm
  have A1 := Blk.new (w.alloc (.cells #[.slice a n c0, .int .i64 c] 25)) #[.slice none 0 0, .int .i64 0] 25
  have hsz : (w.alloc (.cells #[.slice a n c0, .int .i64 c] 25)).heap.size = w.heap.size + 1 := by simp
  rw [hsz] at A1
  have ha := below_a2 w (.cells #[.slice a n c0, .int .i64 c] 25) (.cells #[.slice none 0 0, .int .i64 0] 25)
  have HA1 := hideB2 A1
  have HV := hideB2 (hv.later ha)
  clear A1 hsz hv
  go_enter Tryd.func49, Tryd.ntmps49
  go_wp2_with fail
  cases hq : storeQ l c with
  | false =>
    refine (ownStore_no _ l c _ HV.out (by rw [HN.out]; exact hl) ht hq).mono ?_
    rintro e w1 ⟨⟨y, rfl⟩, hb1⟩
    have HR := hideB2 (show rollR l c = (none, 1) by unfold rollR; rw [hq]; rfl)
    have K1 := (HA1.out.later hb1).alloc (.cells #[.slice none 0 0, .int .i64 0] 25)
    obtain ⟨p0, p1⟩ := K1.c2
    have f0 := K1.free 0
    have f1 := K1.free 1
    have HK := hideB2 K1
    have HB := hideB2 (below_then (below_then ha hb1) (below_a1 w1 (.cells #[.slice none 0 0, .int .i64 0] 25)))
    clear K1 ha hb1 HV HA1 hq
    unfold noStore seI
    go_wp2
    refine bodyPost_ret (results_cellT rfl _ _ _ rfl (HK.out.set2 _ _) Tryd.underlying25 Tryd.infoStore) rfl ⟨_, _, rfl, by rw [HR.out]; rfl, by rw [HR.out]; exact .inr ⟨y, rfl⟩, below_set2 HB.out (by omega) _ _⟩
  | true =>
    obtain ⟨hc1, hc2, q1, q2, q3, _⟩ := storeQ_iff.1 hq
    rw [HN.out] at q1 q2
    refine (ownStore_yes _ l c _ HV.out ht hq).mono ?_
    rintro e w1 ⟨g, cap, rfl, hge, hgb, hb1⟩
    rw [HN.out]
    have hrow := rowQ_iff.1 (q3 (n - 1) (by rw [HN.out]; omega))
    have hat := totG_at l (n - 1) (by rw [HN.out]; omega)
    have hsz2 := hb1.size
    simp at hsz2 hge
    have O1 := Blk.new w1 #[.slice (some ⟨g, 0, none⟩) n cap, .int .i64 c] 25
    have K1 := (HA1.out.later hb1).alloc (.cells #[.slice (some ⟨g, 0, none⟩) n cap, .int .i64 c] 25)
    have G1 := hgb.later (below_a1 w1 (.cells #[.slice (some ⟨g, 0, none⟩) n cap, .int .i64 c] 25))
    have hgl := hgb.lt
    have HB := hideB2 (below_then (below_then ha hb1) (below_a1 w1 (.cells #[.slice (some ⟨g, 0, none⟩) n cap, .int .i64 c] 25)))
    have h0 := O1.cell 0
    clear ha hb1 HV HA1 q3 hgb
    go_wp2_with fail
    generalize hW : w1.alloc (.cells #[.slice (some ⟨g, 0, none⟩) n cap, .int .i64 c] 25) = W at *
    refine (last_any w1.heap.size g n cap c W h0 q1 (by omega)).mono ?_
    rintro e w2 ⟨rfl, m2, e2⟩
    have hWs : w1.heap.size < w2.heap.size := by rw [e2, ← hW]; simp
    have O2 := O1.drewN m2
    have K2 := K1.drewN m2
    have G2 := G1.drewN m2
    have HB2 := hideB2 (below_drewN HB.out m2)
    rw [← e2] at O2 K2 G2 HB2
    clear O1 K1 G1 HB e2 h0 hW
    have hd0 := G2.row.dat (n - 1) (by rw [HN.out]; omega)
    have hd1 := G2.row.saf (n - 1) (by rw [HN.out]; omega)
    obtain ⟨p0, p1⟩ := O2.c2
    obtain ⟨r0, r1⟩ := K2.c2
    have f0 := K2.free 0
    have f1 := K2.free 1
    generalize hx : sgAt l (n - 1) = x at *
    have HX := hideB2 hx
    clear hx
    obtain ⟨d, s⟩ := x
    simp only at hd0 hd1 hat hrow
    have hdm : (d.size : Int) ≤ 1099511627776 := by omega
    obtain ⟨g1, g2, _⟩ := hrow
    have HK2 := hideB2 K2
    have HO2 := hideB2 O2
    have HG2 := hideB2 G2
    clear hat K2 O2 G2
    have HLG := hideB2 (show (lastG l).1.size = d.size by unfold lastG; rw [HN.out, HX.out])
    by_cases hz : d.size = 0
    · have HR := hideB2 (show rollR l c = (none, 3) by unfold rollR; rw [hq, if_pos rfl, HLG.out, if_pos hz])
      have hde : d = ⟨#[]⟩ := size_nil hz
      clear hq HX HLG
      subst hde
      go_wp2
      refine bodyPost_ret (results_cellT rfl _ _ _ rfl (HK2.out.set2 _ _) Tryd.underlying25 Tryd.infoStore) rfl ⟨_, _, rfl, by rw [HR.out]; rfl, by rw [HR.out]; exact .inr ⟨_, rfl⟩, below_set2 HB2.out (by omega) _ _⟩
    · have hde : (d.toList == []) = false := toList_ne hz
      by_cases h40 : n = 40
      · have HR := hideB2 (show rollR l c = (none, 2) by unfold rollR; rw [hq, if_pos rfl, HLG.out, if_neg hz, if_pos (by rw [HN.out]; exact h40)])
        have h41 : ((n : Int) == 40) = true := by rw [beq_iff_eq]; omega
        clear hq HLG h40
        go_wp2
        refine bodyPost_ret (results_cellT rfl _ _ _ rfl (HK2.out.set2 _ _) Tryd.underlying25 Tryd.infoStore) rfl ⟨_, _, rfl, by rw [HR.out]; rfl, by rw [HR.out]; exact .inr ⟨_, rfl⟩, below_set2 HB2.out (by omega) _ _⟩
      · have HR := hideB2 (show rollR l c = (some (rollL l), 0) by unfold rollR; rw [hq, if_pos rfl, HLG.out, if_neg hz, if_neg (by rw [HN.out]; exact h40)])
        have h41 : ((n : Int) == 40) = false := by rw [beq_eq_false_iff_ne]; omega
        have HO := hideB2 (show l.set (n - 1) (d, (d.size : Int)) = syncL l by unfold syncL putLast lastG; rw [HN.out, HX.out])
        clear hq HLG
        go_wp2_with fail
        refine (last_any w1.heap.size g n cap c w2 p0 q1 (by omega)).mono ?_
        rintro e w3 ⟨rfl, m3, e3⟩
        have S1 := (HG2.out.setS (n - 1) (d.size : Int) (by rw [HN.out]; omega)).drewN m3
        rw [HX.out] at S1
        simp only at S1
        rw [HO.out] at S1
        have HS := hideB2 (sync_any g ((n - 1) * 2) _ _ (w2.drewN m3) hd0 hd1 (HG2.out.row.free _))
        rw [← e3] at HS
        have O3 := (HO2.out.other (b' := g) (by omega) ((n - 1) * 2 + 1) (.int .i64 (d.size : Int))).drewN m3
        have K3 := (HK2.out.other (b' := g) (by omega) ((n - 1) * 2 + 1) (.int .i64 (d.size : Int))).drewN m3
        have HB3 := hideB2 (below_drewN (HB2.out.setCell (p := ⟨g, (n - 1) * 2 + 1, none⟩) (by show w.heap.size ≤ g; omega) (.int .i64 (d.size : Int))) m3)
        have E3 := hideB2 e3
        clear e3 h40 p0 p1 r0 r1 f0 f1 hd0 hd1 HG2 HO2 HK2 HB2
        go_wp2_with fail
        refine HS.out.mono ?_
        rintro e w4 ⟨rfl, e4⟩
        have e5 : w4 = (w2.setCell ⟨g, (n - 1) * 2 + 1, none⟩ (.int .i64 (d.size : Int))).drewN m3 := by rw [e4, E3.out]; rfl
        rw [← e5] at O3 K3 S1 HB3
        clear e4 e5 E3 HS HO
        have hsl : (syncL l).length = n := by rw [syncL, putLast_len]; exact HN.out
        obtain ⟨p0, p1⟩ := O3.c2
        have p0a := fun o => (O3.alloc o).cell 0
        have HG3 := hideB2 S1
        have HO3 := hideB2 O3
        have HK3 := hideB2 K3
        have HSL := hideB2 hsl
        clear O3 K3 S1 hsl
        go_wp2_with (at_builtin; go_must (refine wp_appG1 rfl _ _ rfl g cap n (w.heap.size + 2) (syncL l) HSL.out (by omega) (by omega) rfl rfl HG3.out ?_); intro w5 g5 cap5 hg5 gb5 hb5 hbl5; have O5 := HO3.out.of_heap (hbl5 w1.heap.size HO3.out.lt (by omega)); have K5 := HK3.out.kept hb5 (by omega); have HO5 := hideB2 (O5.set 0 (.slice (some ⟨g5, 0, none⟩) (n + 1) cap5)); have HK5 := hideB2 (K5.other (b' := w1.heap.size) (by omega) 0 (.slice (some ⟨g5, 0, none⟩) (n + 1) cap5)); have HG5 := hideB2 (gb5.other (gb5.ne O5 store_ne_seg) 0 (.slice (some ⟨g5, 0, none⟩) (n + 1) cap5)); have HB5 := hideB2 ((HB3.out.trans (hb5.mono (by omega))).setCell (p := ⟨w1.heap.size, 0, none⟩) (by show w.heap.size ≤ w1.heap.size; omega) (.slice (some ⟨g5, 0, none⟩) (n + 1) cap5)); have o0 := O5.cell 0; have fo := O5.free 0; have j0 : (w5.setCell ⟨w1.heap.size, 0, none⟩ (.slice (some ⟨g5, 0, none⟩) (n + 1) cap5)).cell? ⟨w1.heap.size, 0, none⟩ = some (.slice (some ⟨g5, 0, none⟩) (n + 1) cap5) := HO5.out.cell 0; have j1 : (w5.setCell ⟨w1.heap.size, 0, none⟩ (.slice (some ⟨g5, 0, none⟩) (n + 1) cap5)).cell? ⟨w1.heap.size, 1, none⟩ = some (.int .i64 c) := HO5.out.cell 1; have x0 := HK5.out.cell 0; have x1 := HK5.out.cell 1; have y0 := HK5.out.free 0; have y1 := HK5.out.free 1; clear K5 O5 gb5)
        refine bodyPost_ret (results_cellT rfl _ _ _ rfl (HK5.out.set2 _ _) Tryd.underlying25 Tryd.infoStore) rfl ⟨_, _, rfl, ?_, by rw [HR.out]; exact .inl ⟨rfl, rfl⟩, below_set2 HB5.out (by omega) _ _⟩
        rw [HR.out]
        exact ⟨g5, cap5, by rw [show (rollL l).length = n + 1 by rw [rollL, List.length_append, HSL.out]; rfl], by omega, HG5.out.oth2 (HG5.out.ne HK5.out store_ne_seg) _ _⟩
set_option maxHeartbeats 2000000 in
theorem Roll_any (v : Value) (l : List Sg) (c : Int) (w : World) (hg : EG w) (hv : SlG w v l) (hl : l.length ≤ 1048576) (ht : totG l ≤ 1099511627776) :
    Calls Tryd.prog 26 #[.agg #[v, .int .i64 c]] w fun e w' => ∃ r, e = .returned (.tuple #[r, .int .i64 (rollR l c).2]) ∧ Out w w' r (rollR l c).1 c ∧ Below w.heap.size w w' := by
  generalize hC : (rollR l c).2 = code
  generalize hR : (rollR l c).1 = R
  have HC := hideB2 hC
  have HRR := hideB2 hR
  clear hC hR
  have hone := hv.one
  have A1 := Blk.new (w.alloc (.cells #[v, .int .i64 c] 25)) #[.slice none 0 0, .int .i64 0] 25
  have hsz : (w.alloc (.cells #[v, .int .i64 c] 25)).heap.size = w.heap.size + 1 := by simp
  rw [hsz] at A1
  have ha := below_a2 w (.cells #[v, .int .i64 c] 25) (.cells #[.slice none 0 0, .int .i64 0] 25)
  have HA1 := hideB2 A1
  have HV := hideB2 (hv.later ha)
  have HEG := hideB2 (hg.later ha)
  clear A1 hsz hv hg
  go_enter Tryd.func26, Tryd.ntmps26
  go_wp2_with fail
  refine (rolled_any v l c _ HV.out hl ht).mono ?_
  rintro e w1 ⟨r, ev, rfl, ho, he, hb1⟩
  obtain ⟨a, k, cp, c', rfl⟩ := ho.form
  rw [HRR.out] at ho
  rw [HC.out] at he
  have hsz2 := hb1.size
  simp at hsz2
  have O1 := Blk.new w1 #[.slice a k cp, .int .i64 c'] 25
  have K1 := (HA1.out.later hb1).alloc (.cells #[.slice a k cp, .int .i64 c'] 25)
  have ho1 := (ho.later (below_a1 w1 (.cells #[.slice a k cp, .int .i64 c'] 25))).from ha.size
  have E1 := (HEG.out.later hb1).later (below_a1 w1 (.cells #[.slice a k cp, .int .i64 c'] 25))
  have HB := hideB2 (below_then (below_then ha hb1) (below_a1 w1 (.cells #[.slice a k cp, .int .i64 c'] 25)))
  obtain ⟨k0, k1⟩ := O1.c2
  have HO := hideB2 ho1
  have HE := hideB2 he
  have HOE := hideB2 E1
  have HK1 := hideB2 K1
  have HO1 := hideB2 O1
  clear ha hb1 HV HA1 HEG ho ho1 he E1 K1 O1
  go_wp2
  generalize hW : w1.alloc (.cells #[.slice a k cp, .int .i64 c'] 25) = W at *
  clear hW
  have HSC := hideB2 (fun V : Gr W => storeCode_any ev code _ (HOE.out.later (grw_below W V)) HE.out)
  have z0 := fun V => grw_some k0 V
  have z1 := fun V => grw_some k1 V
  clear k0 k1
  refine wp_region_grow_tail 3 ?_ ?_ ?_
  · kernel_rfl
  · kernel_rfl
  · intro hne
    simp only [List.take_succ_cons, List.take_zero, List.drop_succ_cons, List.drop_zero]
    repeat (go_big_quiet_step ((go_at_call 38; exact grow_call (HSC.out _))))
    refine wpQuiet_nil ?_
    rintro _ ⟨V, rfl⟩
    have K2 := HK1.out.later (grw_below W V)
    have o2 := HO.out.later (grw_below W V)
    have HB2 := hideB2 (below_then HB.out (grw_below W V))
    clear HSC z0 z1 HK1 HO1 HO HB HOE HE
    generalize grw W V = w2 at *
    have HO3 := hideB2 (o2.oth2 K2 store_ne_seg (.slice a k cp) (.int .i64 c'))
    obtain ⟨r0, r1⟩ := K2.c2
    have f0 := K2.free 0
    have f1 := K2.free 1
    have HK2 := hideB2 K2
    clear K2 o2
    go_wp2
    refine bodyPost_ret (results_cellT rfl _ _ _ rfl (HK2.out.set2 _ _) Tryd.underlying25 Tryd.infoStore) rfl ⟨_, rfl, HO3.out, below_set2 HB2.out (by omega) _ _⟩
def cutL (l : List Sg) (m : Int) : List Sg := putLast l ((lastG l).1.extract 0 m.toNat, m)
def cutR (l : List Sg) (c m : Int) : Option (List Sg) × Int := if storeQ l c = true then (if 0 ≤ m ∧ m ≤ ((lastG l).1.size : Int) then (if m = 0 ∧ 1 < l.length then (some (l.take (l.length - 1)), 0) else (some (cutL l m), 0)) else (none, 3)) else (none, 1)
set_option maxHeartbeats 2000000 in
theorem cutBack_any (v : Value) (l : List Sg) (c m : Int) (w : World) (hv : SlG w v l) (hl : l.length ≤ 1048576) (ht : totG l ≤ 1099511627776) :
    Calls Tryd.prog 51 #[.agg #[v, .int .i64 c], .int .i64 m] w fun e w' => ∃ r ev, e = .returned (.tuple #[r, ev]) ∧ Out w w' r (cutR l c m).1 c ∧ ErrV ev (cutR l c m).2 ∧ Below w.heap.size w w' := by
  obtain ⟨a, c0, rfl⟩ := hv.form
  generalize hm : l.length = n at *
  have HN := hideB2 hm
  clear hm
  have A1 := Blk.new (w.alloc (.cells #[.slice a n c0, .int .i64 c] 25)) #[.slice none 0 0, .int .i64 0] 25
  have hsz : (w.alloc (.cells #[.slice a n c0, .int .i64 c] 25)).heap.size = w.heap.size + 1 := by simp
  rw [hsz] at A1
  have ha := below_a2 w (.cells #[.slice a n c0, .int .i64 c] 25) (.cells #[.slice none 0 0, .int .i64 0] 25)
  have HA1 := hideB2 A1
  have HV := hideB2 (hv.later ha)
  clear A1 hsz hv
  go_enter Tryd.func51, Tryd.ntmps51
  go_wp2_with fail
  cases hq : storeQ l c with
  | false =>
    refine (ownStore_no _ l c _ HV.out (by rw [HN.out]; exact hl) ht hq).mono ?_
    rintro e w1 ⟨⟨y, rfl⟩, hb1⟩
    have HR := hideB2 (show cutR l c m = (none, 1) by unfold cutR; rw [hq]; rfl)
    have K1 := (HA1.out.later hb1).alloc (.cells #[.slice none 0 0, .int .i64 0] 25)
    obtain ⟨p0, p1⟩ := K1.c2
    have f0 := K1.free 0
    have f1 := K1.free 1
    have HK := hideB2 K1
    have HB := hideB2 (below_then (below_then ha hb1) (below_a1 w1 (.cells #[.slice none 0 0, .int .i64 0] 25)))
    clear K1 ha hb1 HV HA1 hq
    unfold noStore seI
    go_wp2
    refine bodyPost_ret (results_cellT rfl _ _ _ rfl (HK.out.set2 _ _) Tryd.underlying25 Tryd.infoStore) rfl ⟨_, _, rfl, by rw [HR.out]; rfl, by rw [HR.out]; exact .inr ⟨y, rfl⟩, below_set2 HB.out (by omega) _ _⟩
  | true =>
    obtain ⟨hc1, hc2, q1, q2, q3, _⟩ := storeQ_iff.1 hq
    rw [HN.out] at q1 q2
    refine (ownStore_yes _ l c _ HV.out ht hq).mono ?_
    rintro e w1 ⟨g, cap, rfl, hge, hgb, hb1⟩
    rw [HN.out]
    have hrow := rowQ_iff.1 (q3 (n - 1) (by rw [HN.out]; omega))
    have hat := totG_at l (n - 1) (by rw [HN.out]; omega)
    have hsz2 := hb1.size
    simp at hsz2 hge
    have O1 := Blk.new w1 #[.slice (some ⟨g, 0, none⟩) n cap, .int .i64 c] 25
    have K1 := (HA1.out.later hb1).alloc (.cells #[.slice (some ⟨g, 0, none⟩) n cap, .int .i64 c] 25)
    have G1 := hgb.later (below_a1 w1 (.cells #[.slice (some ⟨g, 0, none⟩) n cap, .int .i64 c] 25))
    have hgl := hgb.lt
    have HB := hideB2 (below_then (below_then ha hb1) (below_a1 w1 (.cells #[.slice (some ⟨g, 0, none⟩) n cap, .int .i64 c] 25)))
    have h0 := O1.cell 0
    clear ha hb1 HV HA1 q3 hgb
    go_wp2_with fail
    generalize hW : w1.alloc (.cells #[.slice (some ⟨g, 0, none⟩) n cap, .int .i64 c] 25) = W at *
    refine (last_any w1.heap.size g n cap c W h0 q1 (by omega)).mono ?_
    rintro e w2 ⟨rfl, m2, e2⟩
    have hWs : w1.heap.size < w2.heap.size := by rw [e2, ← hW]; simp
    have O2 := O1.drewN m2
    have K2 := K1.drewN m2
    have G2 := G1.drewN m2
    have HB2 := hideB2 (below_drewN HB.out m2)
    rw [← e2] at O2 K2 G2 HB2
    clear O1 K1 G1 HB e2 h0 hW
    have hd0 := G2.row.dat (n - 1) (by rw [HN.out]; omega)
    have hd1 := G2.row.saf (n - 1) (by rw [HN.out]; omega)
    obtain ⟨p0, p1⟩ := O2.c2
    obtain ⟨r0, r1⟩ := K2.c2
    have f0 := K2.free 0
    have f1 := K2.free 1
    generalize hx : sgAt l (n - 1) = x at *
    have HX := hideB2 hx
    clear hx
    obtain ⟨d, s⟩ := x
    simp only at hd0 hd1 hat hrow
    have hdm : (d.size : Int) ≤ 1099511627776 := by omega
    obtain ⟨g1, g2, _⟩ := hrow
    have HK2 := hideB2 K2
    have HO2 := hideB2 O2
    have HG2 := hideB2 G2
    clear hat K2 O2 G2
    have HLG := hideB2 (show (lastG l).1.size = d.size by unfold lastG; rw [HN.out, HX.out])
    by_cases hw : 0 ≤ m ∧ m ≤ (d.size : Int)
    · have w0 : withinB m 0 (d.size : Int) = true := within_iff.2 hw
      by_cases hz : m = 0 ∧ 1 < n
      · obtain ⟨rfl, h1n⟩ := hz
        have HR := hideB2 (show cutR l c 0 = (some (l.take (n - 1)), 0) by unfold cutR; rw [hq, if_pos rfl, HLG.out, if_pos hw, if_pos ⟨rfl, by rw [HN.out]; exact h1n⟩, HN.out])
        have h1i : (1 : Int) < (n : Int) := by omega
        have em : (n : Int) - 1 = ((n - 1 : Nat) : Int) := by omega
        have HO5 := hideB2 (HO2.out.set 0 (.slice (some ⟨g, 0, none⟩) (n - 1) cap))
        have HK5 := hideB2 (HK2.out.other (b' := w1.heap.size) (by omega) 0 (.slice (some ⟨g, 0, none⟩) (n - 1) cap))
        have HG5 := hideB2 ((HG2.out.cut (n - 1) (by rw [HN.out]; omega)).other (b' := w1.heap.size) (by omega) 0 (.slice (some ⟨g, 0, none⟩) (n - 1) cap))
        have HB5 := hideB2 (HB2.out.setCell (p := ⟨w1.heap.size, 0, none⟩) (by show w.heap.size ≤ w1.heap.size; omega) (.slice (some ⟨g, 0, none⟩) (n - 1) cap))
        have fo := HO2.out.free 0
        have hcap := HG2.out.own (Nat.le_refl g)
        have hcn : (n : Int) - 1 ≤ (cap : Int) := by
          obtain ⟨cur, _, hh, _⟩ := HG2.out
          rw [HN.out] at hh; omega
        have j0 : (w2.setCell ⟨w1.heap.size, 0, none⟩ (.slice (some ⟨g, 0, none⟩) (n - 1) cap)).cell? ⟨w1.heap.size, 0, none⟩ = some (.slice (some ⟨g, 0, none⟩) (n - 1) cap) := HO5.out.cell 0
        have j1 : (w2.setCell ⟨w1.heap.size, 0, none⟩ (.slice (some ⟨g, 0, none⟩) (n - 1) cap)).cell? ⟨w1.heap.size, 1, none⟩ = some (.int .i64 c) := HO5.out.cell 1
        have x0 := HK5.out.cell 0
        have x1 := HK5.out.cell 1
        have y0 := HK5.out.free 0
        have y1 := HK5.out.free 1
        clear hq HLG hcap
        go_wp2_with (go_at_call 41; refine (within_any _ _ _ _).mono ?_; rintro e w' ⟨rfl, rfl⟩)
        refine bodyPost_ret (results_cellT rfl _ _ _ rfl (HK5.out.set2 _ _) Tryd.underlying25 Tryd.infoStore) rfl ⟨_, _, rfl, ?_, by rw [HR.out]; exact .inl ⟨rfl, rfl⟩, below_set2 HB5.out (by omega) _ _⟩
        rw [HR.out]
        exact ⟨g, cap, by rw [show (l.take (n - 1)).length = n - 1 by rw [List.length_take, HN.out]; omega], by omega, HG5.out.oth2 (by omega) _ _⟩
      · have HR := hideB2 (show cutR l c m = (some (cutL l m), 0) by unfold cutR; rw [hq, if_pos rfl, HLG.out, if_pos hw, if_neg (by rw [HN.out]; exact hz)])
        have HO := hideB2 (show l.set (n - 1) (d.extract 0 m.toNat, m) = cutL l m by unfold cutL putLast lastG; rw [HN.out, HX.out])
        have HS := hideB2 (shorten_any g ((n - 1) * 2) d _ m w2 hd0 hd1 (HG2.out.row.free _) (HG2.out.row.free _) hw.1 hw.2 (by omega))
        have HG := hideB2 (HG2.out.set (n - 1) (d.extract 0 m.toNat) m)
        rw [HO.out] at HG
        have O4 := (HO2.out.other (b' := g) (by omega) ((n - 1) * 2) (.string (d.extract 0 m.toNat))).other (b' := g) (by omega) ((n - 1) * 2 + 1) (.int .i64 m)
        have K4 := (HK2.out.other (b' := g) (by omega) ((n - 1) * 2) (.string (d.extract 0 m.toNat))).other (b' := g) (by omega) ((n - 1) * 2 + 1) (.int .i64 m)
        have HB4 := hideB2 ((HB2.out.setCell (p := ⟨g, (n - 1) * 2, none⟩) (by show w.heap.size ≤ g; omega) (.string (d.extract 0 m.toNat))).setCell (p := ⟨g, (n - 1) * 2 + 1, none⟩) (by show w.heap.size ≤ g; omega) (.int .i64 m))
        have hz2 : (m == 0) = false ∨ (m == 0) = true ∧ ¬ (1 : Int) < (n : Int) := by
          by_cases e0 : m = 0
          · exact .inr ⟨by rw [beq_iff_eq]; exact e0, by omega⟩
          · exact .inl (by rw [beq_eq_false_iff_ne]; exact e0)
        have HWW := hideB2 hw
        clear hq HLG HO hz hw HG2 HO2 HK2 HB2
        rcases hz2 with hz2 | ⟨hz2, hz3⟩
        all_goals
          go_wp2_with (first | (go_at_call 41; refine (within_any _ _ _ _).mono ?_; rintro e w' ⟨rfl, rfl⟩) | (go_at_call 47; go_must (refine HS.out.mono ?_); rintro e w4 ⟨rfl, e4⟩; rw [← e4] at O4 K4 HG HB4; clear e4 HS p0 p1 r0 r1 f0 f1; obtain ⟨p0, p1⟩ := O4.c2; obtain ⟨r0, r1⟩ := K4.c2; have f0 := K4.free 0; have f1 := K4.free 1; have HK3 := hideB2 K4; clear K4 O4))
          refine bodyPost_ret (results_cellT rfl _ _ _ rfl (HK3.out.set2 _ _) Tryd.underlying25 Tryd.infoStore) rfl ⟨_, _, rfl, ?_, by rw [HR.out]; exact .inl ⟨rfl, rfl⟩, below_set2 HB4.out (by omega) _ _⟩
          rw [HR.out]
          exact ⟨g, cap, by rw [show (cutL l m).length = n by rw [cutL, putLast_len]; exact HN.out], by omega, HG.out.oth2 (by omega) _ _⟩
    · have w0 : withinB m 0 (d.size : Int) = false := by cases hh : withinB m 0 (d.size : Int) with | false => rfl | true => exact absurd (within_iff.1 hh) hw
      have HR := hideB2 (show cutR l c m = (none, 3) by unfold cutR; rw [hq, if_pos rfl, HLG.out, if_neg hw])
      clear hq HLG hw
      go_wp2_with (go_at_call 41; refine (within_any _ _ _ _).mono ?_; rintro e w' ⟨rfl, rfl⟩)
      refine bodyPost_ret (results_cellT rfl _ _ _ rfl (HK2.out.set2 _ _) Tryd.underlying25 Tryd.infoStore) rfl ⟨_, _, rfl, by rw [HR.out]; rfl, by rw [HR.out]; exact .inr ⟨_, rfl⟩, below_set2 HB2.out (by omega) _ _⟩
set_option maxHeartbeats 2000000 in
theorem Cut_any (v : Value) (l : List Sg) (c : Int) (m : Int) (w : World) (hg : EG w) (hv : SlG w v l) (hl : l.length ≤ 1048576) (ht : totG l ≤ 1099511627776) :
    Calls Tryd.prog 28 #[.agg #[v, .int .i64 c], .int .i64 m] w fun e w' => ∃ r, e = .returned (.tuple #[r, .int .i64 (cutR l c m).2]) ∧ Out w w' r (cutR l c m).1 c ∧ Below w.heap.size w w' := by
  generalize hC : (cutR l c m).2 = code
  generalize hR : (cutR l c m).1 = R
  have HC := hideB2 hC
  have HRR := hideB2 hR
  clear hC hR
  have hone := hv.one
  have A1 := Blk.new (w.alloc (.cells #[v, .int .i64 c] 25)) #[.slice none 0 0, .int .i64 0] 25
  have hsz : (w.alloc (.cells #[v, .int .i64 c] 25)).heap.size = w.heap.size + 1 := by simp
  rw [hsz] at A1
  have ha := below_a2 w (.cells #[v, .int .i64 c] 25) (.cells #[.slice none 0 0, .int .i64 0] 25)
  have HA1 := hideB2 A1
  have HV := hideB2 (hv.later ha)
  have HEG := hideB2 (hg.later ha)
  clear A1 hsz hv hg
  go_enter Tryd.func28, Tryd.ntmps28
  go_wp2_with fail
  refine (cutBack_any v l c m _ HV.out hl ht).mono ?_
  rintro e w1 ⟨r, ev, rfl, ho, he, hb1⟩
  obtain ⟨a, k, cp, c', rfl⟩ := ho.form
  rw [HRR.out] at ho
  rw [HC.out] at he
  have hsz2 := hb1.size
  simp at hsz2
  have O1 := Blk.new w1 #[.slice a k cp, .int .i64 c'] 25
  have K1 := (HA1.out.later hb1).alloc (.cells #[.slice a k cp, .int .i64 c'] 25)
  have ho1 := (ho.later (below_a1 w1 (.cells #[.slice a k cp, .int .i64 c'] 25))).from ha.size
  have E1 := (HEG.out.later hb1).later (below_a1 w1 (.cells #[.slice a k cp, .int .i64 c'] 25))
  have HB := hideB2 (below_then (below_then ha hb1) (below_a1 w1 (.cells #[.slice a k cp, .int .i64 c'] 25)))
  obtain ⟨k0, k1⟩ := O1.c2
  have HO := hideB2 ho1
  have HE := hideB2 he
  have HOE := hideB2 E1
  have HK1 := hideB2 K1
  have HO1 := hideB2 O1
  clear ha hb1 HV HA1 HEG ho ho1 he E1 K1 O1
  go_wp2
  generalize hW : w1.alloc (.cells #[.slice a k cp, .int .i64 c'] 25) = W at *
  clear hW
  have HSC := hideB2 (fun V : Gr W => storeCode_any ev code _ (HOE.out.later (grw_below W V)) HE.out)
  have z0 := fun V => grw_some k0 V
  have z1 := fun V => grw_some k1 V
  clear k0 k1
  refine wp_region_grow_tail 3 ?_ ?_ ?_
  · kernel_rfl
  · kernel_rfl
  · intro hne
    simp only [List.take_succ_cons, List.take_zero, List.drop_succ_cons, List.drop_zero]
    repeat (go_big_quiet_step ((go_at_call 38; exact grow_call (HSC.out _))))
    refine wpQuiet_nil ?_
    rintro _ ⟨V, rfl⟩
    have K2 := HK1.out.later (grw_below W V)
    have o2 := HO.out.later (grw_below W V)
    have HB2 := hideB2 (below_then HB.out (grw_below W V))
    clear HSC z0 z1 HK1 HO1 HO HB HOE HE
    generalize grw W V = w2 at *
    have HO3 := hideB2 (o2.oth2 K2 store_ne_seg (.slice a k cp) (.int .i64 c'))
    obtain ⟨r0, r1⟩ := K2.c2
    have f0 := K2.free 0
    have f1 := K2.free 1
    have HK2 := hideB2 K2
    clear K2 o2
    go_wp2
    refine bodyPost_ret (results_cellT rfl _ _ _ rfl (HK2.out.set2 _ _) Tryd.underlying25 Tryd.infoStore) rfl ⟨_, rfl, HO3.out, below_set2 HB2.out (by omega) _ _⟩
end Go.Proofs.YtknpolmenfdheaaDoor
