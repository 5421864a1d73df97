/-
  Chapter 4: Sync, Append, Crash, Cut, Roll (the specification's side).
-/
import Derived.Test.YtknpolmenfdheaaDoorG12
import Derived.Test.YtknpolmenfdheaaDoorG9
import Derived.Test.YtknpolmenfdheaaDoorG10
import Derived.Test.YtknpolmenfdheaaDoorG11
namespace Go.Proofs.YtknpolmenfdheaaDoor
set_option linter.unusedVariables false
set_option linter.unusedSimpArgs false
open Go.RowKit
set_option maxHeartbeats 2000000 in
theorem sSync_any (v : Value) (l : List Sg) (c : Int) (w : World) (hv : SlG w v l) (hl : l.length ≤ 1048576) (ht : totG l ≤ 1099511627776) :
    Calls Tryd.prog 50 #[.agg #[v, .int .i64 c]] w fun e w' => ∃ r, e = .returned r ∧ Out w w' r (syncR l c) c ∧ Below w.heap.size w w' := by
  obtain ⟨a, c0, rfl⟩ := hv.form
  generalize hm : l.length = n at *
  have HN := hideB2 hm
  clear hm
  have A0 := (Blk.new w #[.slice a n c0, .int .i64 c] 25).alloc (.cells #[.slice none 0 0, .int .i64 0] 25)
  have A1 := Blk.new (w.alloc (.cells #[.slice a n c0, .int .i64 c] 25)) #[.slice none 0 0, .int .i64 0] 25
  have hsz : (w.alloc (.cells #[.slice a n c0, .int .i64 c] 25)).heap.size = w.heap.size + 1 := by simp
  rw [hsz] at A1
  have ha := below_a2 w (.cells #[.slice a n c0, .int .i64 c] 25) (.cells #[.slice none 0 0, .int .i64 0] 25)
  have HA0 := hideB2 A0
  have HA1 := hideB2 A1
  have HV := hideB2 (hv.later ha)
  clear A0 A1 hsz hv
  go_enter Tryd.func50, Tryd.ntmps50
  go_wp2_with fail
  refine (sStoreOk_any _ l c _ HV.out (by rw [HN.out]; exact hl) ht).mono ?_
  rintro e w1 ⟨rfl, hb1⟩
  have K0 := HA0.out.later hb1
  have K1 := HA1.out.later hb1
  obtain ⟨p0, p1⟩ := K0.c2
  obtain ⟨r0, r1⟩ := K1.c2
  have f0 := K1.free 0
  have f1 := K1.free 1
  have HV1 := hideB2 (HV.out.later hb1)
  have HB := hideB2 (below_then ha hb1)
  have hsz1 := hb1.size
  simp at hsz1
  have HK0 := hideB2 K0
  have HK1 := hideB2 K1
  clear K0 K1 ha hb1 HV HA0 HA1
  cases hq : storeQ l c with
  | false =>
    have HR := hideB2 (show syncR l c = none by unfold syncR; rw [hq]; rfl)
    clear hq
    go_wp2
    refine bodyPost_ret (results_cellS rfl _ _ _ rfl (HK1.out.set2 _ _) Tryd.underlying25 Tryd.infoStore) rfl ⟨_, rfl, by rw [HR.out]; rfl, below_set2 HB.out (by omega) _ _⟩
  | true =>
    obtain ⟨hc1, hc2, q1, q2, q3, _⟩ := storeQ_iff.1 hq
    rw [HN.out] at q1 q2
    have HR := hideB2 (show syncR l c = some (syncL l) by unfold syncR; rw [hq]; rfl)
    obtain ⟨b, rfl, hr⟩ := HV1.out.row (by rw [HN.out]; omega)
    have hat := totG_at l (n - 1) (by rw [HN.out]; omega)
    clear hq q3
    go_wp2_with fail
    refine (l4copy_any b c0 n l c _ hr HN.out (by omega) (by omega)).mono ?_
    rintro e w2 ⟨g, cap, rfl, hge, hgb, hb2⟩
    have O1 := Blk.new w2 #[.slice (some ⟨g, 0, none⟩) n cap, .int .i64 c] 25
    have ba := below_a1 w2 (.cells #[.slice (some ⟨g, 0, none⟩) n cap, .int .i64 c] 25)
    have K0 := (HK0.out.later hb2).later ba
    have K1 := (HK1.out.later hb2).later ba
    have G1 := hgb.later ba
    have hr2 := (hr.keep hb2).keep ba
    have hgl := hgb.lt
    have HB2 := hideB2 (below_then (below_then HB.out hb2) ba)
    have hd0 := hr2.dat (n - 1) (by rw [HN.out]; omega)
    have hd1 := hr2.saf (n - 1) (by rw [HN.out]; omega)
    have gd0 := G1.row.dat (n - 1) (by rw [HN.out]; omega)
    have gd1 := G1.row.saf (n - 1) (by rw [HN.out]; omega)
    have gf0 := G1.row.free ((n - 1) * 2)
    have gf1 := G1.row.free ((n - 1) * 2 + 1)
    have hsz2 := hb2.size
    have em : (n : Int) - 1 = ((n - 1 : Nat) : Int) := by omega
    have hi1 : ((n - 1 : Nat) : Int) < (n : Int) := by omega
    have hi0 : (0 : Int) ≤ ((n - 1 : Nat) : Int) := by omega
    have hiw : IntKind.i64.wrap ((n - 1 : Nat) : Int) = ((n - 1 : Nat) : Int) := by rw [IntKind.wrap_i64]; omega
    have HO := hideB2 (show l.set (n - 1) ((sgAt l (n - 1)).1, ((sgAt l (n - 1)).1.size : Int)) = syncL l by unfold syncL putLast lastG; rw [HN.out])
    clear p0 p1 r0 r1 f0 f1
    obtain ⟨p0, p1⟩ := K0.c2
    obtain ⟨r0, r1⟩ := K1.c2
    obtain ⟨o0, o1⟩ := O1.c2
    have f0 := K1.free 0
    have f1 := K1.free 1
    have HG1 := hideB2 G1
    have HKK := hideB2 K1
    have HO1 := hideB2 O1
    clear hb2 ba hgb hr hr2 K0 K1 O1 G1 HK0 HK1 HB HV1
    go_wp2
    generalize hW : w2.alloc (.cells #[.slice (some ⟨g, 0, none⟩) n cap, .int .i64 c] 25) = W at *
    clear hW
    have HG2 := hideB2 (HG1.out.set (n - 1) (sgAt l (n - 1)).1 ((sgAt l (n - 1)).1.size : Int))
    rw [HO.out] at HG2
    generalize (sgAt l (n - 1)).1 = d at *
    have O4 := (HO1.out.other (b' := g) (by omega) ((n - 1) * 2) (.string d)).other (b' := g) (by omega) ((n - 1) * 2 + 1) (.int .i64 (d.size : Int))
    have K4 := (HKK.out.other (b' := g) (by omega) ((n - 1) * 2) (.string d)).other (b' := g) (by omega) ((n - 1) * 2 + 1) (.int .i64 (d.size : Int))
    have HB4 := hideB2 ((HB2.out.setCell (p := ⟨g, (n - 1) * 2, none⟩) (by show w.heap.size ≤ g; omega) (.string d)).setCell (p := ⟨g, (n - 1) * 2 + 1, none⟩) (by show w.heap.size ≤ g; omega) (.int .i64 (d.size : Int)))
    obtain ⟨a0, a1⟩ := O4.c2
    obtain ⟨b0, b1⟩ := K4.c2
    have y0 := K4.free 0
    have y1 := K4.free 1
    have HK4 := hideB2 K4
    clear O4 K4 HG1 HKK HO1 HB2
    refine wp_region_draws_tail 18 ?_ ?_ ?_
    · kernel_rfl
    · kernel_rfl
    simp only [List.take_succ_cons, List.take_zero, List.drop_succ_cons, List.drop_zero]
    repeat (go_big_quiet_step (fail))
    refine wpQuiet_nil ?_
    rintro _ ⟨nq, rfl⟩
    go_wp2
    have HK5 : Blk (((W.drewN nq).setCell ⟨g, (n - 1) * 2, none⟩ (.string d)).setCell ⟨g, (n - 1) * 2 + 1, none⟩ (.int .i64 (d.size : Int))) (w.heap.size + 1) #[.slice none 0 0, .int .i64 0] 25 := HK4.out.drewN nq
    refine bodyPost_ret (results_cellS rfl _ _ _ rfl (HK5.set2 _ _) Tryd.underlying25 Tryd.infoStore) rfl ⟨_, rfl, ?_, below_set2 (below_drewN HB4.out nq) (by omega) _ _⟩
    rw [HR.out]
    exact ⟨g, cap, by rw [show (syncL l).length = n by rw [syncL, putLast_len]; exact HN.out], by omega, (HG2.out.drewN nq).oth2 (by omega) _ _⟩
end Go.Proofs.YtknpolmenfdheaaDoor
