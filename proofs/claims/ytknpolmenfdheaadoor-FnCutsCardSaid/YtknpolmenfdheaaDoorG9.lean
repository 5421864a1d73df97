/-
  Chapter 4: Crash, Append (the program's side).
-/
import Derived.Test.YtknpolmenfdheaaDoorG8
namespace Go.Proofs.YtknpolmenfdheaaDoor
set_option linter.unusedVariables false
set_option linter.unusedSimpArgs false
open Go.RowKit
/-- How many bytes a crash leaves of the last segment. -/
def crashN (x : Sg) (keep : Int) : Int := x.2 + (if 0 < (if (x.1.size : Int) - x.2 < keep then (x.1.size : Int) - x.2 else keep) then (if (x.1.size : Int) - x.2 < keep then (x.1.size : Int) - x.2 else keep) else 0)
def crashL (l : List Sg) (keep : Int) : List Sg := putLast l ((lastG l).1.extract 0 (crashN (lastG l) keep).toNat, crashN (lastG l) keep)
def crashR (l : List Sg) (c keep : Int) : Option (List Sg) := if storeQ l c = true then some (crashL l keep) else none
theorem crashN_le {x : Sg} {keep : Int} (h0 : 0 ≤ x.2) (h1 : x.2 ≤ (x.1.size : Int)) : 0 ≤ crashN x keep ∧ x.2 ≤ crashN x keep ∧ crashN x keep ≤ (x.1.size : Int) := by
  unfold crashN
  split <;> split <;> omega
set_option maxHeartbeats 2000000 in
theorem Crash_any (v : Value) (l : List Sg) (c keep : Int) (w : World) (hv : SlG w v l) (hl : l.length ≤ 1048576) (ht : totG l ≤ 1099511627776) :
    Calls Tryd.prog 17 #[.agg #[v, .int .i64 c], .int .i64 keep] w fun e w' => ∃ r, e = .returned r ∧ Out w w' r (crashR l c keep) c ∧ Below w.heap.size w w' := by
  obtain ⟨a, c0, rfl⟩ := hv.form
  generalize hm : l.length = n at *
  have HN := hideB2 hm
  clear hm
  have A1 := Blk.new (w.alloc (.cells #[.slice a n c0, .int .i64 c] 25)) #[.slice none 0 0, .int .i64 0] 25
  have hsz : (w.alloc (.cells #[.slice a n c0, .int .i64 c] 25)).heap.size = w.heap.size + 1 := by simp
  rw [hsz] at A1
  have ha := below_a2 w (.cells #[.slice a n c0, .int .i64 c] 25) (.cells #[.slice none 0 0, .int .i64 0] 25)
  have HA1 := hideB2 A1
  have HV := hideB2 (hv.later ha)
  clear A1 hsz hv
  go_enter Tryd.func17, Tryd.ntmps17
  go_wp2_with fail
  cases hq : storeQ l c with
  | false =>
    refine (ownStore_no _ l c _ HV.out (by rw [HN.out]; exact hl) ht hq).mono ?_
    rintro e w1 ⟨⟨y, rfl⟩, hb1⟩
    have HR := hideB2 (show crashR l c keep = none by unfold crashR; rw [hq]; rfl)
    have K1 := (HA1.out.later hb1).alloc (.cells #[.slice none 0 0, .int .i64 0] 25)
    obtain ⟨p0, p1⟩ := K1.c2
    have f0 := K1.free 0
    have f1 := K1.free 1
    have HK := hideB2 K1
    have HB := hideB2 (below_then (below_then ha hb1) (below_a1 w1 (.cells #[.slice none 0 0, .int .i64 0] 25)))
    clear K1 ha hb1 HV HA1 hq
    unfold noStore seI
    go_wp2
    refine bodyPost_ret (results_cellS rfl _ _ _ rfl (HK.out.set2 _ _) Tryd.underlying25 Tryd.infoStore) rfl ⟨_, rfl, by rw [HR.out]; rfl, below_set2 HB.out (by omega) _ _⟩
  | true =>
    obtain ⟨_, _, q1, q2, q3, _⟩ := storeQ_iff.1 hq
    rw [HN.out] at q1 q2
    refine (ownStore_yes _ l c _ HV.out ht hq).mono ?_
    rintro e w1 ⟨g, cap, rfl, hge, hgb, hb1⟩
    rw [HN.out]
    have HR := hideB2 (show crashR l c keep = some (crashL l keep) by unfold crashR; rw [hq]; rfl)
    have hrow := rowQ_iff.1 (q3 (n - 1) (by rw [HN.out]; omega))
    have hat := totG_at l (n - 1) (by rw [HN.out]; omega)
    have hsz2 := hb1.size
    simp at hsz2 hge
    have O1 := Blk.new w1 #[.slice (some ⟨g, 0, none⟩) n cap, .int .i64 c] 25
    have K1 := (HA1.out.later hb1).alloc (.cells #[.slice (some ⟨g, 0, none⟩) n cap, .int .i64 c] 25)
    have G1 := hgb.later (below_a1 w1 (.cells #[.slice (some ⟨g, 0, none⟩) n cap, .int .i64 c] 25))
    have hgl := hgb.lt
    have HB := hideB2 (below_then (below_then ha hb1) (below_a1 w1 (.cells #[.slice (some ⟨g, 0, none⟩) n cap, .int .i64 c] 25)))
    have HO := hideB2 (show l.set (n - 1) ((sgAt l (n - 1)).1.extract 0 (crashN (sgAt l (n - 1)) keep).toNat, crashN (sgAt l (n - 1)) keep) = crashL l keep by unfold crashL putLast lastG; rw [HN.out])
    have h0 := O1.cell 0
    clear ha hb1 HV HA1 hq q3 hgb
    go_wp2_with fail
    generalize hW : w1.alloc (.cells #[.slice (some ⟨g, 0, none⟩) n cap, .int .i64 c] 25) = W at *
    refine (last_any w1.heap.size g n cap c W h0 q1 (by omega)).mono ?_
    rintro e w2 ⟨rfl, m, hw2⟩
    have hWsz : w1.heap.size < W.heap.size := by rw [← hW]; simp
    have O2 := O1.drewN m
    have K2 := K1.drewN m
    rw [← hw2] at O2 K2
    have G2 : GB w2 g cap l := by rw [hw2]; exact G1.drewN m
    have HB2 := hideB2 (show Below w.heap.size w w2 by rw [hw2]; exact below_drewN HB.out m)
    clear hW HB O1 K1 h0 G1 hw2
    have hd0 := G2.row.dat (n - 1) (by rw [HN.out]; omega)
    have hd1 := G2.row.saf (n - 1) (by rw [HN.out]; omega)
    have z0 := fun V => grw_some hd0 V
    have z1 := fun V => grw_some hd1 V
    have HGV := hideB2 (fun V : Gr w2 => G2.later (grw_below w2 V))
    have HOV := hideB2 (fun V : Gr w2 => O2.later (grw_below w2 V))
    have HKV := hideB2 (fun V : Gr w2 => K2.later (grw_below w2 V))
    have HBV := hideB2 (fun V : Gr w2 => below_then HB2.out (grw_below w2 V))
    have hcn := crashN_le (keep := keep) hrow.1 hrow.2.1
    generalize hx : sgAt l (n - 1) = x at *
    obtain ⟨d, s⟩ := x
    have HX := hideB2 hx
    simp only at hd0 hd1 z0 z1 hat hrow hcn
    obtain ⟨g1, g2, _⟩ := hrow
    have HCR := hideB2 (show (s + if 0 < (if (d.size : Int) - s < keep then (d.size : Int) - s else keep) then (if (d.size : Int) - s < keep then (d.size : Int) - s else keep) else 0) = crashN (d, s) keep from rfl)
    have hdm : (d.size : Int) ≤ 1099511627776 := by omega
    clear O2 K2 G2 hd0 hd1 HB2 hx hat
    go_wp2
    refine wp_region_grow_tail 13 ?_ ?_ ?_
    · kernel_rfl
    · kernel_rfl
    · intro hne
      simp only [List.take_succ_cons, List.take_zero, List.drop_succ_cons, List.drop_zero]
      repeat (go_big_quiet_step ((go_at_call 43; exact grow_call (loose_any d s _ g1 g2 (by unfold maxLen; omega)))))
      refine wpQuiet_nil ?_
      rintro _ ⟨V, rfl⟩
      rw [HCR.out]
      clear HCR z0 z1
      generalize (if 0 < (if (d.size : Int) - s < keep then (d.size : Int) - s else keep) then (if (d.size : Int) - s < keep then (d.size : Int) - s else keep) else 0) = y2
      generalize (if (d.size : Int) - s < keep then (d.size : Int) - s else keep) = y1
      generalize crashN (d, s) keep = q at *
      have G3 := HGV.out V
      have O3 := HOV.out V
      have K3 := HKV.out V
      have HB3 := hideB2 (HBV.out V)
      clear HGV HOV HKV HBV
      generalize grw w2 V = w3 at *
      have hd0 := G3.row.dat (n - 1) (by rw [HN.out]; omega)
      have hd1 := G3.row.saf (n - 1) (by rw [HN.out]; omega)
      rw [HX.out] at hd0 hd1
      have HS := hideB2 (shorten_any g ((n - 1) * 2) d _ q w3 hd0 hd1 (G3.row.free _) (G3.row.free _) hcn.1 hcn.2.2 (by omega))
      have HG := hideB2 (G3.set (n - 1) (d.extract 0 q.toNat) q)
      have O4 := (O3.other (b' := g) (by omega) ((n - 1) * 2) (.string (d.extract 0 q.toNat))).other (b' := g) (by omega) ((n - 1) * 2 + 1) (.int .i64 q)
      have K4 := (K3.other (b' := g) (by omega) ((n - 1) * 2) (.string (d.extract 0 q.toNat))).other (b' := g) (by omega) ((n - 1) * 2 + 1) (.int .i64 q)
      have HB4 := hideB2 ((HB3.out.setCell (p := ⟨g, (n - 1) * 2, none⟩) (by show w.heap.size ≤ g; omega) (.string (d.extract 0 q.toNat))).setCell (p := ⟨g, (n - 1) * 2 + 1, none⟩) (by show w.heap.size ≤ g; omega) (.int .i64 q))
      clear HB3 O3 K3 hd0 hd1 G3
      go_wp2_with (go_at_call 47; go_must (refine HS.out.mono ?_); rintro e w4 ⟨rfl, e4⟩; rw [← e4] at O4 K4; have HG4 := hideB2 HG.out; have HB5 := hideB2 HB4.out; rw [← e4] at HG4 HB5; clear e4 HS HG HB4; obtain ⟨p0, p1⟩ := O4.c2; obtain ⟨r0, r1⟩ := K4.c2; have f0 := K4.free 0; have f1 := K4.free 1; have HK2 := hideB2 K4; clear K4 O4)
      refine bodyPost_ret (results_cellS rfl _ _ _ rfl (HK2.out.set2 _ _) Tryd.underlying25 Tryd.infoStore) rfl ⟨_, rfl, ?_, below_set2 HB5.out (by omega) _ _⟩
      rw [HO.out] at HG4
      rw [HR.out]
      exact ⟨g, cap, by rw [show (crashL l keep).length = n by rw [crashL, putLast_len]; exact HN.out], by omega, HG4.out.oth2 (by omega) _ _⟩
end Go.Proofs.YtknpolmenfdheaaDoor
