/-
  Chapter 4: Roll (the specification's side).
-/
import Derived.Test.YtknpolmenfdheaaDoorG13
namespace Go.Proofs.YtknpolmenfdheaaDoor
set_option linter.unusedVariables false
set_option linter.unusedSimpArgs false
open Go.RowKit
set_option maxHeartbeats 4000000 in
theorem sRoll_any (v : Value) (l : List Sg) (c : Int) (w : World) (hv : SlG w v l) (hl : l.length ≤ 1048576) (ht : totG l ≤ 1099511627776) :
    Calls Tryd.prog 27 #[.agg #[v, .int .i64 c]] w fun e w' => ∃ r, e = .returned (.tuple #[r, .int .i64 (rollR l c).2]) ∧ Out w w' r (rollR l c).1 c ∧ Below w.heap.size w w' := by
  obtain ⟨a, c0, rfl⟩ := hv.form
  generalize hm : l.length = n at *
  have HN := hideB2 hm
  clear hm
  have A0 := (Blk.new w #[.slice a n c0, .int .i64 c] 25).alloc (.cells #[.slice none 0 0, .int .i64 0] 25)
  have A1 := Blk.new (w.alloc (.cells #[.slice a n c0, .int .i64 c] 25)) #[.slice none 0 0, .int .i64 0] 25
  have hsz : (w.alloc (.cells #[.slice a n c0, .int .i64 c] 25)).heap.size = w.heap.size + 1 := by simp
  rw [hsz] at A1
  have ha := below_a2 w (.cells #[.slice a n c0, .int .i64 c] 25) (.cells #[.slice none 0 0, .int .i64 0] 25)
  have HA0 := hideB2 A0
  have HA1 := hideB2 A1
  have HV := hideB2 (hv.later ha)
  clear A0 A1 hsz hv
  go_enter Tryd.func27, Tryd.ntmps27
  go_wp2_with fail
  refine (sStoreOk_any _ l c _ HV.out (by rw [HN.out]; exact hl) ht).mono ?_
  rintro e w1 ⟨rfl, hb1⟩
  have K0 := HA0.out.later hb1
  have K1 := HA1.out.later hb1
  obtain ⟨p0, p1⟩ := K0.c2
  obtain ⟨r0, r1⟩ := K1.c2
  have f0 := K1.free 0
  have f1 := K1.free 1
  have HV1 := hideB2 (HV.out.later hb1)
  have HB := hideB2 (below_then ha hb1)
  have hsz1 := hb1.size
  simp at hsz1
  have HK0 := hideB2 K0
  have HK1 := hideB2 K1
  clear K0 K1 ha hb1 HV HA0 HA1
  cases hq : storeQ l c with
  | false =>
    have HR := hideB2 (show rollR l c = (none, 1) by unfold rollR; rw [hq]; rfl)
    clear hq
    go_wp2
    refine bodyPost_ret (results_cellT rfl _ _ _ rfl (HK1.out.set2 _ _) Tryd.underlying25 Tryd.infoStore) rfl ⟨_, by rw [HR.out]; rfl, by rw [HR.out]; rfl, below_set2 HB.out (by omega) _ _⟩
  | true =>
    obtain ⟨hc1, hc2, q1, q2, q3, _⟩ := storeQ_iff.1 hq
    rw [HN.out] at q1 q2
    obtain ⟨b, rfl, hr⟩ := HV1.out.row (by rw [HN.out]; omega)
    have hrow := rowQ_iff.1 (q3 (n - 1) (by rw [HN.out]; omega))
    have hat := totG_at l (n - 1) (by rw [HN.out]; omega)
    have em : (n : Int) - 1 = ((n - 1 : Nat) : Int) := by omega
    have hi1 : ((n - 1 : Nat) : Int) < (n : Int) := by omega
    have hi0 : (0 : Int) ≤ ((n - 1 : Nat) : Int) := by omega
    have hiw : IntKind.i64.wrap ((n - 1 : Nat) : Int) = ((n - 1 : Nat) : Int) := by rw [IntKind.wrap_i64]; omega
    clear q3
    have hd0 := hr.dat (n - 1) (by rw [HN.out]; omega)
    generalize hxx : sgAt l (n - 1) = xx at *
    obtain ⟨d, s⟩ := xx
    have HXX := hideB2 hxx
    clear hxx hr
    simp only at hd0 hat hrow
    have hdm : (d.size : Int) ≤ 1099511627776 := by omega
    have HLG := hideB2 (show (lastG l).1.size = d.size by unfold lastG; rw [HN.out, HXX.out])
    clear hat hrow
    by_cases hz : d.size = 0
    · have HR := hideB2 (show rollR l c = (none, 3) by unfold rollR; rw [hq, if_pos rfl, HLG.out, if_pos hz])
      have hz1 : ((d.size : Int) == 0) = true := by rw [beq_iff_eq]; omega
      clear hq HXX HLG hz
      go_wp2
      refine bodyPost_ret (results_cellT rfl _ _ _ rfl (HK1.out.set2 _ _) Tryd.underlying25 Tryd.infoStore) rfl ⟨_, by rw [HR.out]; rfl, by rw [HR.out]; rfl, below_set2 HB.out (by omega) _ _⟩
    · have hz1 : ((d.size : Int) == 0) = false := by rw [beq_eq_false_iff_ne]; omega
      by_cases h40 : n = 40
      · have HR := hideB2 (show rollR l c = (none, 2) by unfold rollR; rw [hq, if_pos rfl, HLG.out, if_neg hz, if_pos (by rw [HN.out]; exact h40)])
        have h41 : ((n : Int) == 40) = true := by rw [beq_iff_eq]; omega
        clear hq HLG h40 hz
        go_wp2
        refine bodyPost_ret (results_cellT rfl _ _ _ rfl (HK1.out.set2 _ _) Tryd.underlying25 Tryd.infoStore) rfl ⟨_, by rw [HR.out]; rfl, by rw [HR.out]; rfl, below_set2 HB.out (by omega) _ _⟩
      · have HR := hideB2 (show rollR l c = (some (rollL l), 0) by unfold rollR; rw [hq, if_pos rfl, HLG.out, if_neg hz, if_neg (by rw [HN.out]; exact h40)])
        have h41 : ((n : Int) == 40) = false := by rw [beq_eq_false_iff_ne]; omega
        have hsl : (syncL l).length = n := by rw [syncL, putLast_len]; exact HN.out
        have HSR := hideB2 (show syncR l c = some (syncL l) by unfold syncR; rw [hq]; rfl)
        have HSL := hideB2 hsl
        clear hq HLG h40 hz hsl
        go_wp2_with fail
        refine (sSync_any _ l c _ HV1.out (by rw [HN.out]; exact hl) ht).mono ?_
        rintro e w2 ⟨rr, rfl, ho, hb2⟩
        rw [HSR.out] at ho
        obtain ⟨g, cap, rfl, hge, hgb⟩ := ho
        rw [HSL.out]
        have O3 := Blk.new w2 #[.slice (some ⟨g, 0, none⟩) n cap, .int .i64 c] 25
        have ba := below_a1 w2 (.cells #[.slice (some ⟨g, 0, none⟩) n cap, .int .i64 c] 25)
        have K3 := (HK1.out.later hb2).later ba
        have G3 := hgb.later ba
        have hgl := hgb.lt
        have hsz2 := hb2.size
        have HB3 := hideB2 (below_then (below_then HB.out hb2) ba)
        obtain ⟨o0, o1⟩ := O3.c2
        have oa := fun o => (O3.alloc o).cell 0
        have HG3 := hideB2 G3
        have HO3 := hideB2 O3
        have HK3 := hideB2 K3
        clear O3 K3 G3 ba hb2 hgb HK0 HK1 HB p0 p1 r0 r1 f0 f1 HSR HV1
        go_wp2_with (at_builtin; go_must (refine wp_appG1 rfl _ _ rfl g cap n (w.heap.size + 2) (syncL l) HSL.out (by omega) (by omega) rfl (by simp [Act.eval]) HG3.out ?_); intro w5 g5 cap5 hg5 gb5 hb5 hbl5; have O5 := HO3.out.of_heap (hbl5 w2.heap.size HO3.out.lt (by omega)); have K5 := HK3.out.kept hb5 (by omega); have HO5 := hideB2 (O5.set 0 (.slice (some ⟨g5, 0, none⟩) (n + 1) cap5)); have HK5 := hideB2 (K5.other (b' := w2.heap.size) (by omega) 0 (.slice (some ⟨g5, 0, none⟩) (n + 1) cap5)); have HG5 := hideB2 (gb5.other (gb5.ne O5 store_ne_seg) 0 (.slice (some ⟨g5, 0, none⟩) (n + 1) cap5)); have HB5 := hideB2 ((HB3.out.trans (hb5.mono (by omega))).setCell (p := ⟨w2.heap.size, 0, none⟩) (by show w.heap.size ≤ w2.heap.size; omega) (.slice (some ⟨g5, 0, none⟩) (n + 1) cap5)); have o0 := O5.cell 0; have fo := O5.free 0; have j0 : (w5.setCell ⟨w2.heap.size, 0, none⟩ (.slice (some ⟨g5, 0, none⟩) (n + 1) cap5)).cell? ⟨w2.heap.size, 0, none⟩ = some (.slice (some ⟨g5, 0, none⟩) (n + 1) cap5) := HO5.out.cell 0; have j1 : (w5.setCell ⟨w2.heap.size, 0, none⟩ (.slice (some ⟨g5, 0, none⟩) (n + 1) cap5)).cell? ⟨w2.heap.size, 1, none⟩ = some (.int .i64 c) := HO5.out.cell 1; have x0 := HK5.out.cell 0; have x1 := HK5.out.cell 1; have y0 := HK5.out.free 0; have y1 := HK5.out.free 1; clear K5 O5 gb5)
        refine bodyPost_ret (results_cellT rfl _ _ _ rfl (HK5.out.set2 _ _) Tryd.underlying25 Tryd.infoStore) rfl ⟨_, by rw [HR.out]; rfl, ?_, below_set2 HB5.out (by omega) _ _⟩
        rw [HR.out]
        exact ⟨g5, cap5, by rw [show (rollL l).length = n + 1 by rw [rollL, List.length_append, HSL.out]; rfl], by omega, HG5.out.oth2 (HG5.out.ne HK5.out store_ne_seg) _ _⟩
end Go.Proofs.YtknpolmenfdheaaDoor
