/-
  Chapter 4: Append (the program's side).
-/
import Derived.Test.YtknpolmenfdheaaDoorG8
namespace Go.Proofs.YtknpolmenfdheaaDoor
set_option linter.unusedVariables false
set_option linter.unusedSimpArgs false
open Go.RowKit
def appL (l : List Sg) (b : ByteArray) : List Sg := putLast l ((lastG l).1 ++ b, (lastG l).2)
def appR (l : List Sg) (c : Int) (b : ByteArray) : Option (List Sg) × Int := if storeQ l c = true then (if c - (totG l : Int) < (b.size : Int) then (none, 2) else (some (appL l b), 0)) else (none, 1)
set_option maxHeartbeats 2000000 in
theorem appended_any (v : Value) (l : List Sg) (c : Int) (b : ByteArray) (w : World) (hv : SlG w v l) (hl : l.length ≤ 1048576) (ht : totG l ≤ 1099511627776) (hbz : b.size ≤ 1099511627776) :
    Calls Tryd.prog 37 #[.agg #[v, .int .i64 c], .string b] w fun e w' => ∃ r ev, e = .returned (.tuple #[r, ev]) ∧ Out w w' r (appR l c b).1 c ∧ ErrV ev (appR l c b).2 ∧ Below w.heap.size w w' := by
  obtain ⟨a, c0, rfl⟩ := hv.form
  generalize hm : l.length = n at *
  have HN := hideB2 hm
  clear hm
  have A1 := Blk.new (w.alloc (.cells #[.slice a n c0, .int .i64 c] 25)) #[.slice none 0 0, .int .i64 0] 25
  have hsz : (w.alloc (.cells #[.slice a n c0, .int .i64 c] 25)).heap.size = w.heap.size + 1 := by simp
  rw [hsz] at A1
  have ha := below_a2 w (.cells #[.slice a n c0, .int .i64 c] 25) (.cells #[.slice none 0 0, .int .i64 0] 25)
  have HA1 := hideB2 A1
  have HV := hideB2 (hv.later ha)
  clear A1 hsz hv
  go_enter Tryd.func37, Tryd.ntmps37
  go_wp2_with fail
  cases hq : storeQ l c with
  | false =>
    refine (ownStore_no _ l c _ HV.out (by rw [HN.out]; exact hl) ht hq).mono ?_
    rintro e w1 ⟨⟨y, rfl⟩, hb1⟩
    have HR := hideB2 (show appR l c b = (none, 1) by unfold appR; rw [hq]; rfl)
    have K1 := (HA1.out.later hb1).alloc (.cells #[.slice none 0 0, .int .i64 0] 25)
    obtain ⟨p0, p1⟩ := K1.c2
    have f0 := K1.free 0
    have f1 := K1.free 1
    have HK := hideB2 K1
    have HB := hideB2 (below_then (below_then ha hb1) (below_a1 w1 (.cells #[.slice none 0 0, .int .i64 0] 25)))
    clear K1 ha hb1 HV HA1 hq
    unfold noStore seI
    go_wp2
    refine bodyPost_ret (results_cellT rfl _ _ _ rfl (HK.out.set2 _ _) Tryd.underlying25 Tryd.infoStore) rfl ⟨_, _, rfl, by rw [HR.out]; rfl, by rw [HR.out]; exact .inr ⟨y, rfl⟩, below_set2 HB.out (by omega) _ _⟩
  | true =>
    obtain ⟨hc1, hc2, q1, q2, q3, _⟩ := storeQ_iff.1 hq
    rw [HN.out] at q1 q2
    refine (ownStore_yes _ l c _ HV.out ht hq).mono ?_
    rintro e w1 ⟨g, cap, rfl, hge, hgb, hb1⟩
    rw [HN.out]
    have hat := totG_at l (n - 1) (by rw [HN.out]; omega)
    have hsz2 := hb1.size
    simp at hsz2 hge
    have O1 := Blk.new w1 #[.slice (some ⟨g, 0, none⟩) n cap, .int .i64 c] 25
    have K1 := (HA1.out.later hb1).alloc (.cells #[.slice (some ⟨g, 0, none⟩) n cap, .int .i64 c] 25)
    have G1 := hgb.later (below_a1 w1 (.cells #[.slice (some ⟨g, 0, none⟩) n cap, .int .i64 c] 25))
    have hgl := hgb.lt
    have HB := hideB2 (below_then (below_then ha hb1) (below_a1 w1 (.cells #[.slice (some ⟨g, 0, none⟩) n cap, .int .i64 c] 25)))
    obtain ⟨k0, k1⟩ := O1.c2
    clear ha hb1 HV HA1 q3 hgb
    go_wp2
    generalize hW : w1.alloc (.cells #[.slice (some ⟨g, 0, none⟩) n cap, .int .i64 c] 25) = W at *
    clear hW
    have z0 := fun V => grw_some k0 V
    have z1 := fun V => grw_some k1 V
    have HGV := hideB2 (fun V : Gr W => G1.later (grw_below W V))
    have HOV := hideB2 (fun V : Gr W => O1.later (grw_below W V))
    have HKV := hideB2 (fun V : Gr W => K1.later (grw_below W V))
    have HBV := hideB2 (fun V : Gr W => below_then HB.out (grw_below W V))
    have HSZ := hideB2 (fun V : Gr W => size_any _ l c _ ((HGV.out V).sl HN.out) (by rw [HN.out]; omega) ht)
    clear G1 O1 K1 HB k0 k1
    refine wp_region_grow ?_ ?_ ?_
    · kernel_rfl
    · kernel_rfl
    · intro hne
      repeat (go_big_quiet_step ((go_at_call 44; exact grow_call (HSZ.out _))))
      refine wpQuiet_nil ?_
      rintro _ ⟨V, rfl⟩
      have G2 := HGV.out V
      have O2 := HOV.out V
      have K2 := HKV.out V
      have HB2 := hideB2 (HBV.out V)
      clear HGV HOV HKV HBV HSZ z0 z1
      generalize grw W V = w2 at *
      by_cases hfull : c - (totG l : Int) < (b.size : Int)
      · have HR := hideB2 (show appR l c b = (none, 2) by unfold appR; rw [hq, if_pos rfl, if_pos hfull])
        obtain ⟨p0, p1⟩ := K2.c2
        have f0 := K2.free 0
        have f1 := K2.free 1
        have HK := hideB2 K2
        clear K2 O2 G2 hq
        go_wp2
        refine bodyPost_ret (results_cellT rfl _ _ _ rfl (HK.out.set2 _ _) Tryd.underlying25 Tryd.infoStore) rfl ⟨_, _, rfl, by rw [HR.out]; rfl, by rw [HR.out]; exact .inr ⟨_, rfl⟩, below_set2 HB2.out (by omega) _ _⟩
      · have HR := hideB2 (show appR l c b = (some (appL l b), 0) by unfold appR; rw [hq, if_pos rfl, if_neg hfull])
        have HO := hideB2 (show l.set (n - 1) ((sgAt l (n - 1)).1 ++ b, (sgAt l (n - 1)).2) = appL l b by unfold appL putLast lastG; rw [HN.out])
        have h0 := O2.cell 0
        clear hq
        go_wp2_with fail
        refine (last_any w1.heap.size g n cap c w2 h0 q1 (by omega)).mono ?_
        rintro e w3 ⟨rfl, m, e3⟩
        have O3 := O2.drewN m
        have K3 := K2.drewN m
        have G3 := G2.drewN m
        have HB3 := hideB2 (below_drewN HB2.out m)
        rw [← e3] at O3 K3 G3 HB3
        clear O2 K2 G2 HB2 e3 h0
        have hd0 := G3.row.dat (n - 1) (by rw [HN.out]; omega)
        have hf0 := G3.row.free ((n - 1) * 2)
        have S1 := G3.setD (n - 1) ((sgAt l (n - 1)).1 ++ b) (by rw [HN.out]; omega)
        rw [HO.out] at S1
        have HG := hideB2 S1
        generalize (sgAt l (n - 1)).1 = d at *
        have O4 := O3.other (b' := g) (by omega) ((n - 1) * 2) (.string (d ++ b))
        have K4 := K3.other (b' := g) (by omega) ((n - 1) * 2) (.string (d ++ b))
        have HB4 := hideB2 (HB3.out.setCell (p := ⟨g, (n - 1) * 2, none⟩) (by show w.heap.size ≤ g; omega) (.string (d ++ b)))
        obtain ⟨p0, p1⟩ := O4.c2
        obtain ⟨r0, r1⟩ := K4.c2
        have f0 := K4.free 0
        have f1 := K4.free 1
        have HK2 := hideB2 K4
        clear K4 O4 K3 O3 HB3 S1 G3 HO
        go_wp2
        refine bodyPost_ret (results_cellT rfl _ _ _ rfl (HK2.out.set2 _ _) Tryd.underlying25 Tryd.infoStore) rfl ⟨_, _, rfl, ?_, by rw [HR.out]; exact .inl ⟨rfl, rfl⟩, below_set2 HB4.out (by omega) _ _⟩
        rw [HR.out]
        exact ⟨g, cap, by rw [show (appL l b).length = n by rw [appL, putLast_len]; exact HN.out], by omega, HG.out.oth2 (by omega) _ _⟩
set_option maxHeartbeats 2000000 in
theorem Append_any (v : Value) (l : List Sg) (c : Int) (b : ByteArray) (w : World) (hg : EG w) (hv : SlG w v l) (hl : l.length ≤ 1048576) (ht : totG l ≤ 1099511627776) (hbz : b.size ≤ 1099511627776) :
    Calls Tryd.prog 8 #[.agg #[v, .int .i64 c], .string b] w fun e w' => ∃ r, e = .returned (.tuple #[r, .int .i64 (appR l c b).2]) ∧ Out w w' r (appR l c b).1 c ∧ Below w.heap.size w w' := by
  generalize hC : (appR l c b).2 = code
  generalize hR : (appR l c b).1 = R
  have HC := hideB2 hC
  have HRR := hideB2 hR
  clear hC hR
  have hone := hv.one
  have A1 := Blk.new (w.alloc (.cells #[v, .int .i64 c] 25)) #[.slice none 0 0, .int .i64 0] 25
  have hsz : (w.alloc (.cells #[v, .int .i64 c] 25)).heap.size = w.heap.size + 1 := by simp
  rw [hsz] at A1
  have ha := below_a2 w (.cells #[v, .int .i64 c] 25) (.cells #[.slice none 0 0, .int .i64 0] 25)
  have HA1 := hideB2 A1
  have HV := hideB2 (hv.later ha)
  have HEG := hideB2 (hg.later ha)
  clear A1 hsz hv hg
  go_enter Tryd.func8, Tryd.ntmps8
  go_wp2_with fail
  refine (appended_any v l c b _ HV.out hl ht hbz).mono ?_
  rintro e w1 ⟨r, ev, rfl, ho, he, hb1⟩
  obtain ⟨a, k, cp, c', rfl⟩ := ho.form
  rw [HRR.out] at ho
  rw [HC.out] at he
  have hsz2 := hb1.size
  simp at hsz2
  have O1 := Blk.new w1 #[.slice a k cp, .int .i64 c'] 25
  have K1 := (HA1.out.later hb1).alloc (.cells #[.slice a k cp, .int .i64 c'] 25)
  have ho1 := (ho.later (below_a1 w1 (.cells #[.slice a k cp, .int .i64 c'] 25))).from ha.size
  have E1 := (HEG.out.later hb1).later (below_a1 w1 (.cells #[.slice a k cp, .int .i64 c'] 25))
  have HB := hideB2 (below_then (below_then ha hb1) (below_a1 w1 (.cells #[.slice a k cp, .int .i64 c'] 25)))
  obtain ⟨k0, k1⟩ := O1.c2
  have HO := hideB2 ho1
  have HE := hideB2 he
  have HOE := hideB2 E1
  have HK1 := hideB2 K1
  have HO1 := hideB2 O1
  clear ha hb1 HV HA1 HEG ho ho1 he E1 K1 O1
  go_wp2
  generalize hW : w1.alloc (.cells #[.slice a k cp, .int .i64 c'] 25) = W at *
  clear hW
  have HSC := hideB2 (fun V : Gr W => storeCode_any ev code _ (HOE.out.later (grw_below W V)) HE.out)
  have z0 := fun V => grw_some k0 V
  have z1 := fun V => grw_some k1 V
  clear k0 k1
  refine wp_region_grow_tail 3 ?_ ?_ ?_
  · kernel_rfl
  · kernel_rfl
  · intro hne
    simp only [List.take_succ_cons, List.take_zero, List.drop_succ_cons, List.drop_zero]
    repeat (go_big_quiet_step ((go_at_call 38; exact grow_call (HSC.out _))))
    refine wpQuiet_nil ?_
    rintro _ ⟨V, rfl⟩
    have K2 := HK1.out.later (grw_below W V)
    have o2 := HO.out.later (grw_below W V)
    have HB2 := hideB2 (below_then HB.out (grw_below W V))
    clear HSC z0 z1 HK1 HO1 HO HB HOE HE
    generalize grw W V = w2 at *
    have HO3 := hideB2 (o2.oth2 K2 store_ne_seg (.slice a k cp) (.int .i64 c'))
    obtain ⟨r0, r1⟩ := K2.c2
    have f0 := K2.free 0
    have f1 := K2.free 1
    have HK2 := hideB2 K2
    clear K2 o2
    go_wp2
    refine bodyPost_ret (results_cellT rfl _ _ _ rfl (HK2.out.set2 _ _) Tryd.underlying25 Tryd.infoStore) rfl ⟨_, rfl, HO3.out, below_set2 HB2.out (by omega) _ _⟩
end Go.Proofs.YtknpolmenfdheaaDoor
