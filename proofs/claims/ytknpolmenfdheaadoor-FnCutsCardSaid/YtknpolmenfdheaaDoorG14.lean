/-
  Chapter 4: AllBytes, Used, Loose, StoreNew, ReadAt (the specification's side).
-/
import Derived.Test.YtknpolmenfdheaaDoorG3
import Derived.Test.YtknpolmenfdheaaDoorG5
namespace Go.Proofs.YtknpolmenfdheaaDoor
set_option linter.unusedVariables false
set_option linter.unusedSimpArgs false
open Go.RowKit
set_option maxHeartbeats 2000000 in
theorem sAllBytes_any (v : Value) (l : List Sg) (c : Int) (w : World) (hv : SlG w v l) (hl : l.length ≤ 1048576) (ht : totG l ≤ 1099511627776) :
    Calls Tryd.prog 19 #[.agg #[v, .int .i64 c]] w fun e w' => e = .returned (.string (if storeQ l c = true then catB l else ⟨#[]⟩)) ∧ Below w.heap.size w w' := by
  obtain ⟨a, c0, rfl⟩ := hv.form
  generalize hR : (if storeQ l c = true then catB l else ⟨#[]⟩) = R
  have HR := hideB2 hR
  clear hR
  generalize hn : l.length = n at *
  have HN := hideB2 hn
  clear hn
  have ha := below_a1 w (.cells #[.slice a n c0, .int .i64 c] 25)
  have A0 := Blk.new w #[.slice a n c0, .int .i64 c] 25
  have HA := hideB2 A0
  have HV := hideB2 (hv.later ha)
  clear A0 hv
  go_enter Tryd.func19, Tryd.ntmps19
  go_wp2_with fail
  refine (sStoreOk_any _ l c _ HV.out (by rw [HN.out]; exact hl) ht).mono ?_
  rintro e w1 ⟨rfl, hb1⟩
  obtain ⟨p0, p1⟩ := (HA.out.later hb1).c2
  have HB := hideB2 (below_then ha hb1)
  have HV1 := hideB2 (HV.out.later hb1)
  have HA1 := hideB2 (HA.out.later hb1)
  clear ha hb1 HV HA
  cases hq : storeQ l c with
  | false =>
    have HF := hideB2 (show (⟨#[]⟩ : ByteArray) = R by rw [← HR.out, hq]; rfl)
    clear hq HR
    have hf := HF.out
    subst hf
    go_wp2
    go_ret
    exact ⟨rfl, HB.out⟩
  | true =>
    have HF := hideB2 (show catB l = R by rw [← HR.out, hq]; rfl)
    clear hq HR
    go_wp2
    go_loopw [3, 4] (fun x i wr => ∃ k : Nat, k ≤ n ∧ i = .int .i64 k ∧ Buf w1 wr x (catL (l.take k))) (fun _ i _ => n - (intOf i).toNat)
    case atStart => exact ⟨0, Nat.zero_le _, rfl, Buf.start w1⟩
    case round =>
      obtain ⟨k, hk, rfl, hbuf⟩ := hrel
      have hb := hbuf.below
      obtain ⟨s0, s1⟩ := (HA1.out.later hb).c2
      by_cases hlt : k < n
      · obtain ⟨b, rfl, hr⟩ := HV1.out.row (by rw [HN.out]; omega)
        have p0 := (hr.keep hb).dat k (by rw [HN.out]; exact hlt)
        have p1 := (hr.keep hb).saf k (by rw [HN.out]; exact hlt)
        have hat := totG_at l k (by rw [HN.out]; exact hlt)
        have hnx := catL_next l k (by rw [HN.out]; exact hlt)
        have hcl := catL_len (l.take k)
        clear hr
        generalize sgAt l k = x at *
        obtain ⟨d, s⟩ := x
        simp only at p0 p1 hat hnx
        have HNX := hideB2 hnx
        have HLE := hideB2 (show (catL (l.take k)).length + d.size ≤ 1099511627776 by omega)
        have HBF := hideB2 hbuf
        obtain ⟨a1, c1, rfl⟩ := hbuf.form
        clear hnx hat hcl hbuf hb
        generalize catL (l.take k) = t at *
        go_wp2_with (refine wp_appS rfl _ _ rfl _ t rfl HBF.out d rfl HLE.out ?_; intro v2 W2 hbuf2 hB2; have HBF2 := hideB2 hbuf2; have HB2 := hideB2 hB2; clear hbuf2 hB2)
        exact ⟨⟨k + 1, by omega, by go_num, by rw [HNX.out]; exact HBF2.out⟩, by simp [intOf]; omega⟩
      · obtain rfl : k = n := by omega
        rw [List.take_of_length_le (by rw [HN.out]; exact Nat.le_refl _)] at hbuf
        have hcv := hbuf.text
        have HBB := hideB2 (below_then HB.out hbuf.below)
        have hf := HF.out
        unfold catB at hf
        obtain ⟨a1, c1, rfl⟩ := hbuf.form
        clear hbuf HF hb
        rw [hf] at hcv
        go_wp2
        go_ret
        exact ⟨rfl, HBB.out⟩
set_option maxHeartbeats 1000000 in
theorem sUsed_any (v : Value) (l : List Sg) (c : Int) (w : World) (hv : SlG w v l) (hl : l.length ≤ 1048576) (ht : totG l ≤ 1099511627776) :
    Calls Tryd.prog 31 #[.agg #[v, .int .i64 c]] w fun e w' => e = .returned (.int .i64 (if storeQ l c = true then (totG l : Int) else -1)) ∧ Below w.heap.size w w' := by
  generalize hR : (if storeQ l c = true then (totG l : Int) else -1) = R
  have HR := hideB2 hR
  clear hR
  have ha := below_a1 w (.cells #[v, .int .i64 c] 25)
  have A0 := Blk.new w #[v, .int .i64 c] 25
  have HA := hideB2 A0
  have HV := hideB2 (hv.later ha)
  have o1 := hv.one
  clear A0
  go_enter Tryd.func31, Tryd.ntmps31
  go_wp2_with fail
  refine (sStoreOk_any v l c _ HV.out hl ht).mono ?_
  rintro e w1 ⟨rfl, hb1⟩
  obtain ⟨p0, p1⟩ := (HA.out.later hb1).c2
  have HB := hideB2 (below_then ha hb1)
  have HV1 := hideB2 (HV.out.later hb1)
  clear ha hb1 hv HV
  cases hq : storeQ l c with
  | false =>
    have HF := hideB2 (show -1 = R by rw [← HR.out, hq]; rfl)
    clear hq
    go_wp2
    go_ret
    exact ⟨ret_int HF.out.symm, HB.out⟩
  | true =>
    have HF := hideB2 (show (totG l : Int) = R by rw [← HR.out, hq]; rfl)
    have HQT := hideB2 hq
    clear hq
    go_wp2_with fail
    refine (sAllBytes_any v l c _ HV1.out hl ht).mono ?_
    rintro e w2 ⟨rfl, hb2⟩
    rw [if_pos HQT.out]
    have hcs := catB_size l
    have HCS := hideB2 hcs
    clear hcs
    generalize catB l = d at *
    have hds : (d.size : Int) ≤ 1099511627776 := by rw [HCS.out]; omega
    have HB2 := hideB2 (below_then HB.out hb2)
    clear hb2
    go_wp2
    go_ret
    exact ⟨ret_int (by rw [HCS.out]; exact HF.out.symm), HB2.out⟩
set_option maxHeartbeats 2000000 in
theorem sLoose_any (v : Value) (l : List Sg) (c : Int) (w : World) (hv : SlG w v l) (hl : l.length ≤ 1048576) (ht : totG l ≤ 1099511627776) :
    Calls Tryd.prog 20 #[.agg #[v, .int .i64 c]] w fun e w' => e = .returned (.int .i64 (if storeQ l c = true then ((sgAt l (l.length - 1)).1.size : Int) - (sgAt l (l.length - 1)).2 else -1)) ∧ Below w.heap.size w w' := by
  obtain ⟨a, c0, rfl⟩ := hv.form
  generalize hR : (if storeQ l c = true then ((sgAt l (l.length - 1)).1.size : Int) - (sgAt l (l.length - 1)).2 else -1) = R
  have HR := hideB2 hR
  clear hR
  generalize hn : l.length = n at *
  have HN := hideB2 hn
  clear hn
  have ha := below_a1 w (.cells #[.slice a n c0, .int .i64 c] 25)
  have A0 := Blk.new w #[.slice a n c0, .int .i64 c] 25
  have HA := hideB2 A0
  have HV := hideB2 (hv.later ha)
  clear A0 hv
  go_enter Tryd.func20, Tryd.ntmps20
  go_wp2_with fail
  refine (sStoreOk_any _ l c _ HV.out (by rw [HN.out]; exact hl) ht).mono ?_
  rintro e w1 ⟨rfl, hb1⟩
  obtain ⟨p0, p1⟩ := (HA.out.later hb1).c2
  have HB := hideB2 (below_then ha hb1)
  have HV1 := hideB2 (HV.out.later hb1)
  clear ha hb1 HV HA
  cases hq : storeQ l c with
  | false =>
    have HF := hideB2 (show -1 = R by rw [← HR.out, hq]; rfl)
    clear hq HR
    go_wp2
    go_ret
    exact ⟨ret_int HF.out.symm, HB.out⟩
  | true =>
    obtain ⟨_, _, q1, q2, q3, _⟩ := storeQ_iff.1 hq
    rw [HN.out] at q1 q2
    obtain ⟨b, rfl, hr⟩ := HV1.out.row (by rw [HN.out]; omega)
    have hrow := rowQ_iff.1 (q3 (n - 1) (by rw [HN.out]; omega))
    have d0 := hr.dat (n - 1) (by rw [HN.out]; omega)
    have d1 := hr.saf (n - 1) (by rw [HN.out]; omega)
    have hat := totG_at l (n - 1) (by rw [HN.out]; omega)
    have HF := hideB2 (show ((sgAt l (n - 1)).1.size : Int) - (sgAt l (n - 1)).2 = R by rw [← HR.out, hq]; rfl)
    clear hq HR q3 hr
    generalize sgAt l (n - 1) = x at *
    obtain ⟨d, s⟩ := x
    simp only at d0 d1 hat hrow
    obtain ⟨g1, g2, _⟩ := hrow
    have em : (n : Int) - 1 = ((n - 1 : Nat) : Int) := by omega
    have hi1 : ((n - 1 : Nat) : Int) < (n : Int) := by omega
    have hdm : (d.size : Int) ≤ 1099511627776 := by omega
    clear hat
    go_wp2
    go_ret
    exact ⟨ret_int HF.out.symm, below_then HB.out (below_a1 w1 _)⟩
theorem totG_sg0 : totG [sg0] = 0 := rfl
theorem storeQ_one (r : Int) : storeQ [sg0] r = true ↔ 0 ≤ r ∧ r ≤ 60000 := by
  rw [storeQ_iff]
  constructor
  · intro h; exact ⟨h.1, h.2.1⟩
  · intro h
    refine ⟨h.1, h.2, by simp, by simp, fun j hj => ?_, by rw [totG_sg0]; exact h.1⟩
    obtain rfl : j = 0 := by simpa using hj
    exact rowQ_iff.2 ⟨by simp [sgAt, sg0], by simp [sgAt, sg0], fun h => by simp at h⟩
set_option maxHeartbeats 1000000 in
theorem sStoreNew_yes (r : Int) (w : World) (h1 : 0 ≤ r) (h2 : r ≤ 60000) :
    Calls Tryd.prog 57 #[.int .i64 r] w fun e w' => ∃ g, e = .returned (.tuple #[.agg #[.slice (some ⟨g, 0, none⟩) 1 1, .int .i64 r], .bool true]) ∧ w.heap.size ≤ g ∧ GB w' g 1 [sg0] ∧ Below w.heap.size w w' := by
  have HQ := hideB2 ((storeQ_one r).2 ⟨h1, h2⟩)
  have A0 := Blk.new w #[.slice none 0 0, .int .i64 0] 25
  have ba := below_a3 w (.cells #[.slice none 0 0, .int .i64 0] 25) (.cells #[.string ⟨#[]⟩, .int .i64 0] 34) (.cells #[.slice (some ⟨w.heap.size + 1, 0, none⟩) 1 1, .int .i64 r] 25)
  have K0 := (A0.alloc (.cells #[.string ⟨#[]⟩, .int .i64 0] 34)).alloc (.cells #[.slice (some ⟨w.heap.size + 1, 0, none⟩) 1 1, .int .i64 r] 25)
  have g1 : GB ((w.alloc (.cells #[.slice none 0 0, .int .i64 0] 25)).alloc (.cells #[.string ⟨#[]⟩, .int .i64 0] 34)) (w.heap.size + 1) 1 [sg0] := by
    have hh := heap_alloc_new (w.alloc (.cells #[.slice none 0 0, .int .i64 0] 25)) (.cells #[.string ⟨#[]⟩, .int .i64 0] 34)
    rw [show (w.alloc (.cells #[.slice none 0 0, .int .i64 0] 25)).heap.size = w.heap.size + 1 by simp] at hh
    exact ⟨_, hh, by simp, by decide, rfl, rfl⟩
  have G1 := g1.later (below_a1 _ (.cells #[.slice (some ⟨w.heap.size + 1, 0, none⟩) 1 1, .int .i64 r] 25))
  have O0 := Blk.new ((w.alloc (.cells #[.slice none 0 0, .int .i64 0] 25)).alloc (.cells #[.string ⟨#[]⟩, .int .i64 0] 34)) #[.slice (some ⟨w.heap.size + 1, 0, none⟩) 1 1, .int .i64 r] 25
  have hsz : ((w.alloc (.cells #[.slice none 0 0, .int .i64 0] 25)).alloc (.cells #[.string ⟨#[]⟩, .int .i64 0] 34)).heap.size = w.heap.size + 1 + 1 := by simp
  rw [hsz] at O0
  have HG1 := hideB2 G1
  have HK := hideB2 K0
  have HO := hideB2 O0
  have HBA := hideB2 ba
  clear A0 K0 g1 G1 O0 hsz ba
  go_enter Tryd.func57, Tryd.ntmps57
  go_wp2_with fail
  refine (sStoreOk_any _ [sg0] r _ (HG1.out.sl rfl) (by simp) (by rw [totG_sg0]; omega)).mono ?_
  rintro e w1 ⟨rfl, hb1⟩
  rw [HQ.out]
  have K1 := HK.out.later hb1
  have O1 := HO.out.later hb1
  obtain ⟨p0, p1⟩ := O1.c2
  obtain ⟨r0, r1⟩ := K1.c2
  have f0 := K1.free 0
  have f1 := K1.free 1
  have HG2 := hideB2 (HG1.out.later hb1)
  have HK1 := hideB2 K1
  have HB := hideB2 (below_then HBA.out hb1)
  clear K1 O1 hb1 HG1 HK HO HBA HQ
  go_wp2
  refine bodyPost_ret (results_cellT rfl _ _ _ rfl (HK1.out.set2 _ _) Tryd.underlying25 Tryd.infoStore) rfl ⟨w.heap.size + 1, rfl, by omega, HG2.out.oth2 (by omega) _ _, below_set2 HB.out (by omega) _ _⟩
set_option maxHeartbeats 1000000 in
theorem sStoreNew_no (r : Int) (w : World) (h : ¬ (0 ≤ r ∧ r ≤ 60000)) :
    Calls Tryd.prog 57 #[.int .i64 r] w fun e w' => e = .returned (.tuple #[.agg #[.slice none 0 0, .int .i64 0], .bool false]) ∧ Below w.heap.size w w' := by
  have HQ := hideB2 (show storeQ [sg0] r = false by cases hh : storeQ [sg0] r with | false => rfl | true => exact absurd ((storeQ_one r).1 hh) h)
  clear h
  have A0 := Blk.new w #[.slice none 0 0, .int .i64 0] 25
  have ba := below_a3 w (.cells #[.slice none 0 0, .int .i64 0] 25) (.cells #[.string ⟨#[]⟩, .int .i64 0] 34) (.cells #[.slice (some ⟨w.heap.size + 1, 0, none⟩) 1 1, .int .i64 r] 25)
  have K0 := (A0.alloc (.cells #[.string ⟨#[]⟩, .int .i64 0] 34)).alloc (.cells #[.slice (some ⟨w.heap.size + 1, 0, none⟩) 1 1, .int .i64 r] 25)
  have g1 := rowG_one (w.alloc (.cells #[.slice none 0 0, .int .i64 0] 25)) (.cells #[.slice (some ⟨w.heap.size + 1, 0, none⟩) 1 1, .int .i64 r] 25)
  rw [show (w.alloc (.cells #[.slice none 0 0, .int .i64 0] 25)).heap.size = w.heap.size + 1 by simp] at g1
  have HG1 := hideB2 g1
  have HK := hideB2 K0
  have HBA := hideB2 ba
  clear A0 K0 g1 ba
  go_enter Tryd.func57, Tryd.ntmps57
  go_wp2_with fail
  refine (sStoreOk_any _ [sg0] r _ (HG1.out.sl rfl 1) (by simp) (by rw [totG_sg0]; omega)).mono ?_
  rintro e w1 ⟨rfl, hb1⟩
  rw [HQ.out]
  have K1 := HK.out.later hb1
  obtain ⟨r0, r1⟩ := K1.c2
  have f0 := K1.free 0
  have f1 := K1.free 1
  have HK1 := hideB2 K1
  have HB := hideB2 (below_then HBA.out hb1)
  clear K1 hb1 HG1 HK HBA HQ
  go_wp2
  refine bodyPost_ret (results_cellT rfl _ _ _ rfl (HK1.out.set2 _ _) Tryd.underlying25 Tryd.infoStore) rfl ⟨rfl, below_set2 HB.out (by omega) _ _⟩
end Go.Proofs.YtknpolmenfdheaaDoor
