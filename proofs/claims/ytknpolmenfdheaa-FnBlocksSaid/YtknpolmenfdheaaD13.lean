/-
  The walks over chapter 3: ShaEnd, Sha1 (impl).
-/
import Derived.Test.YtknpolmenfdheaaD12
import Derived.Test.YtknpolmenfdheaaGR
namespace Go.Proofs.Ytknpolmenfdheaa
set_option linter.unusedVariables false
set_option linter.unusedSimpArgs false
open Go.RowKit
set_option maxHeartbeats 2000000 in
theorem ShaEnd_no (c n cap : Nat) (xs : List Int) (r : ByteArray) (size : Int) (w : World) (hr : RowZ w c xs) (hn : xs.length = n) (hm : n ≤ maxLen) (hs : r.size ≤ maxLen) (h : shaQ xs r.size size = false) :
    Calls Try.prog 9 #[shaV c n cap r size] w fun e w' => e = .returned (.string ⟨#[]⟩) ∧ Below w.heap.size w w' := by
  unfold shaV
  go_enter Try.func9, Try.ntmps9
  go_wp2_with fail
  refine (ShaOk_any c n cap xs r size _ (hr.keep (below_a1 _ _)) hn hm hs).mono ?_
  rintro e w1 ⟨rfl, hb1⟩
  have HB := hideB2 (below_then (below_a1 w _) hb1)
  clear hb1 hr hn
  go_wp2
  go_ret
  exact ⟨rfl, HB.out⟩
set_option maxHeartbeats 4000000 in
theorem ShaEnd_any (c cap : Nat) (h : List Nat) (r : ByteArray) (size : Nat) (w : World) (hr : RowN w c h) (hh : Five h) (hsz : r.size = size % 64) (hb : size ≤ 999999999999999) :
    Calls Try.prog 9 #[shaV c 5 cap r (size : Int)] w fun e w' => e = .returned (.string ⟨(endS h r.data.toList size).toArray⟩) ∧ Below w.heap.size w w' := by
  have hQ : shaQ (nz h) r.size (size : Int) = true := shaQ_iff.2 ⟨fiveZ_of hh, ⟨by omega, by omega⟩, by omega⟩
  have hr64 : r.size < 64 := by omega
  have HSZ := hideB2 hsz
  clear hsz
  unfold shaV
  go_enter Try.func9, Try.ntmps9
  go_wp2_with fail
  refine (ShaOk_any c 5 cap (nz h) r size _ (hr.z.keep (below_a1 _ _)) (by rw [nz_len]; exact hh.1) (by unfold maxLen; omega) (by unfold maxLen; omega)).mono ?_
  rintro e w1 ⟨rfl, hb1⟩
  have K0 := (Blk.new w #[.slice (some ⟨c, 0, none⟩) 5 cap, .string r, .int .i64 (size : Int)] 27).later hb1
  have s0 : w1.cell? ⟨w.heap.size, 0, none⟩ = some (.slice (some ⟨c, 0, none⟩) 5 cap) := K0.cell 0
  have hbw1 := below_then (below_a1 w _) hb1
  go_wp2_with fail
  refine (fiveOf_any c 5 cap (nz h) _ (hr.z.keep hbw1) (by rw [nz_len]; exact hh.1) (by unfold maxLen; omega)).mono ?_
  rintro e w2 ⟨rfl, hb2⟩
  rw [fiveW_nz hh]
  have L0 := K0.later hb2
  have hbw2 := below_then hbw1 hb2
  clear s0 hb1 hb2 hbw1 K0
  have M0 := (L0.alloc (.cells #[.int .u32 0, .int .u32 0, .int .u32 0, .int .u32 0, .int .u32 0] 47)).rowOther (b' := w2.heap.size) (c' := cU h) (Nat.ne_of_gt L0.lt)
  have M5 := (Blk.new w2 #[.int .u32 0, .int .u32 0, .int .u32 0, .int .u32 0, .int .u32 0] 47).row (c' := cU h)
  have MB := hideB2 (below_setRow (hbw2.alloc hbw2.size (.cells #[.int .u32 0, .int .u32 0, .int .u32 0, .int .u32 0, .int .u32 0] 47)) hbw2.size (cU h))
  have HN := hideB2 (Blk.new w2 #[.int .u32 0, .int .u32 0, .int .u32 0, .int .u32 0, .int .u32 0] 47)
  have HZ5 := hideB2 (Try.size5 hh.1)
  have HS5 := hideB2 (show (v5 0 0 0 0 0).size = (cU h).size by rw [cU_size, hh.1]; rfl)
  have HM0 := hideB2 M0
  have HM5 := hideB2 M5
  have HG5 := hideB2 hbw2.size
  clear M0 L0 hbw2 M5
  go_wp2_with (refine wp_storeA rfl rfl _ _ rfl rfl rfl HN.out HZ5.out HS5.out (cU_one h) ?_)
  clear HN
  generalize (w2.alloc (.cells #[.int .u32 0, .int .u32 0, .int .u32 0, .int .u32 0, .int .u32 0] 47)).setRow w2.heap.size (cU h) = W3 at *
  generalize w2.heap.size = g5 at *
  obtain ⟨a0, a1, a2, a3, a4, he5, l0, l1, l2, l3, l4⟩ := hh.mk5
  have hc := fun i (hi : i < 5) => (HM5.out.cell i).trans (cU_at h i (by rw [hh.1]; exact hi))
  rw [he5] at hc
  have c0 := hc 0 (by omega)
  have c1 := hc 1 (by omega)
  have c2 := hc 2 (by omega)
  have c3 := hc 3 (by omega)
  have c4 := hc 4 (by omega)
  have s1 : W3.cell? ⟨w.heap.size, 1, none⟩ = some (.string r) := HM0.out.cell 1
  have s2 : W3.cell? ⟨w.heap.size, 2, none⟩ = some (.int .i64 (size : Int)) := HM0.out.cell 2
  simp only [List.getD_cons_zero, List.getD_cons_succ] at c0 c1 c2 c3 c4
  have hel := endL_len size
  have hnz := nZero_le size
  have hab := fun W => absorbed_any h r ⟨(endL size).toArray⟩ W hh hr64 (by show (endL size).toArray.size ≤ maxLen; rw [List.size_toArray, hel]; unfold maxLen; omega)
  have hf2 := inH_five hh (r.data.toList ++ endL size)
  have HFIN : Hid (endS h r.data.toList size = digL (inH h (r.data.toList ++ endL size))) := rfl
  generalize inH h (r.data.toList ++ endL size) = h2 at *
  generalize inR (r.data.toList ++ endL size) = r2 at *
  have hv5 : cU h = #[.int .u32 (a0 : Int), .int .u32 (a1 : Int), .int .u32 (a2 : Int), .int .u32 (a3 : Int), .int .u32 (a4 : Int)] := by rw [he5]; rfl
  obtain ⟨y0, y1, y2, y3, y4, hy5, m0, m1, m2, m3, m4⟩ := hf2.mk5
  have hu5 : cU h2 = #[.int .u32 (y0 : Int), .int .u32 (y1 : Int), .int .u32 (y2 : Int), .int .u32 (y3 : Int), .int .u32 (y4 : Int)] := by rw [hy5]; rfl
  have HF2 := hideB2 hf2
  have HU5 := hideB2 hu5
  rw [hv5, hu5] at hab
  rw [hv5] at HM5
  have HAB := hideB2 hab
  clear hc he5 hel hv5 hu5 hy5 hf2 hab
  go_region_with (first | (go_at_call 27; refine (ending_any size _ hb).mono ?_; rintro e w6 ⟨rfl, hb6⟩; have B5 := HM5.out.drew.later hb6; have B0 := HM0.out.drew.later hb6; have x0 := B5.cell 0; have x1 := B5.cell 1; have x2 := B5.cell 2; have x3 := B5.cell 3; have x4 := B5.cell 4; have z1 : w6.cell? ⟨w.heap.size, 1, none⟩ = some (.string r) := B0.cell 1; have HB5 := hideB2 B5; have HB6 := hideB2 hb6; clear B5 B0 hb6; simp only [List.getElem?_toArray, List.getElem?_cons_zero, List.getElem?_cons_succ] at x0 x1 x2 x3 x4) | (go_at_call 25; refine (HAB.out _).mono ?_; rintro e w7 ⟨rfl, hb7⟩; have B7 := HB5.out.later hb7; have t0 := B7.cell 0; have t1 := B7.cell 1; have t2 := B7.cell 2; have t3 := B7.cell 3; have t4 := B7.cell 4; have f0 := B7.free 0; have f1 := B7.free 1; have f2 := B7.free 2; have f3 := B7.free 3; have f4 := B7.free 4; have HB7 := hideB2 hb7; have HK7 := hideB2 B7; clear B7 hb7; simp only [List.getElem?_toArray, List.getElem?_cons_zero, List.getElem?_cons_succ] at t0 t1 t2 t3 t4))
  all_goals
    have K8 : Blk _ g5 #[.int .u32 (y0 : Int), .int .u32 (y1 : Int), .int .u32 (y2 : Int), .int .u32 (y3 : Int), .int .u32 (y4 : Int)] 47 := ((((HK7.out.set 0 (.int .u32 (y0 : Int))).set 1 (.int .u32 (y1 : Int))).set 2 (.int .u32 (y2 : Int))).set 3 (.int .u32 (y3 : Int))).set 4 (.int .u32 (y4 : Int))
    rw [← HU5.out] at K8
    have KB := hideB2 (((((((MB.out.drew.trans (HB6.out.mono MB.out.size)).trans (HB7.out.mono (Nat.le_trans MB.out.size HB6.out.size))).setCell (p := ⟨g5, 0, none⟩) HG5.out (.int .u32 (y0 : Int))).setCell (p := ⟨g5, 1, none⟩) HG5.out (.int .u32 (y1 : Int))).setCell (p := ⟨g5, 2, none⟩) HG5.out (.int .u32 (y2 : Int))).setCell (p := ⟨g5, 3, none⟩) HG5.out (.int .u32 (y3 : Int))).setCell (p := ⟨g5, 4, none⟩) HG5.out (.int .u32 (y4 : Int)))
    have HK8 := hideB2 K8
    clear K8
    generalize ((((w7.setCell ⟨g5, 0, none⟩ (.int .u32 (y0 : Int))).setCell ⟨g5, 1, none⟩ (.int .u32 (y1 : Int))).setCell ⟨g5, 2, none⟩ (.int .u32 (y2 : Int))).setCell ⟨g5, 3, none⟩ (.int .u32 (y3 : Int))).setCell ⟨g5, 4, none⟩ (.int .u32 (y4 : Int)) = W8 at *
    go_wp2_with (refine wp_loadA rfl _ rfl rfl HK8.out Try.underlying47 (Try.size5 HF2.out.1) ?_)
    refine (bytesOf_any h2 _ HF2.out).mono ?_
    rintro e w9 ⟨rfl, hb9⟩
    go_wp2
    go_ret
    exact ⟨by rw [HFIN.out]; rfl, KB.out.trans (hb9.mono KB.out.size)⟩
end Go.Proofs.Ytknpolmenfdheaa
