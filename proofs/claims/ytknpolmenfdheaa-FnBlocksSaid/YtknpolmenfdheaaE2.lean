/-
  The walks over chapter 3: Schedule, Compress (impl).
-/
import Derived.Test.YtknpolmenfdheaaD6
import Derived.Test.YtknpolmenfdheaaD8
import Derived.Test.YtknpolmenfdheaaGR
namespace Go.Proofs.Ytknpolmenfdheaa
set_option linter.unusedVariables false
set_option linter.unusedSimpArgs false
open Go.RowKit
set_option maxHeartbeats 1000000 in
theorem Compress_no (b n cap : Nat) (xs : List Int) (s : ByteArray) (w : World) (hr : RowZ w b xs) (hn : xs.length = n) (hm : n ≤ maxLen) (hs : s.size ≤ maxLen) (h : fiveZ xs = false ∨ s.size ≠ 64) :
    Calls Try.prog 16 #[.slice (some ⟨b, 0, none⟩) n cap, .string s] w fun e w' => e = .returned (.slice none 0 0) ∧ Below w.heap.size w w' := by
  unfold maxLen at hs
  have hw5 := fiveW_len xs
  go_enter Try.func16, Try.ntmps16
  go_wp2_with fail
  refine (fiveOf_any b n cap xs _ hr hn hm).mono ?_
  rintro e w1 ⟨rfl, hb1⟩
  have HZ := hideB2 (Try.size5 hw5)
  have HS := hideB2 (show (v5 0 0 0 0 0).size = (cU (fiveW xs)).size by rw [cU_size, hw5]; rfl)
  have HN := hideB2 (Blk.new w1 #[.int .u32 0, .int .u32 0, .int .u32 0, .int .u32 0, .int .u32 0] 47)
  have HO := hideB2 (cU_one (fiveW xs))
  have HB := hideB2 (below_setRow (hb1.alloc hb1.size (.cells #[.int .u32 0, .int .u32 0, .int .u32 0, .int .u32 0, .int .u32 0] 47)) hb1.size (cU (fiveW xs)))
  clear hw5 hr hn hb1
  generalize cU (fiveW xs) = c5 at *
  cases h5 : fiveZ xs with
  | false =>
    go_wp2_with (refine wp_storeA rfl rfl _ _ rfl rfl rfl HN.out HZ.out HS.out HO.out ?_)
    go_ret
    exact ⟨rfl, HB.out⟩
  | true =>
    have hne : ((s.size : Int) != 64) = true := by
      rw [bne_iff_ne]
      rcases h with h | h
      · rw [h5] at h; cases h
      · omega
    go_wp2_with (refine wp_storeA rfl rfl _ _ rfl rfl rfl HN.out HZ.out HS.out HO.out ?_)
    go_ret
    exact ⟨rfl, HB.out⟩
set_option maxHeartbeats 2000000 in
theorem Compress_any (b cap : Nat) (h : List Nat) (s : ByteArray) (w : World) (hr : RowN w b h) (hh : Five h) (hl : s.size = 64) :
    Calls Try.prog 16 #[.slice (some ⟨b, 0, none⟩) 5 cap, .string s] w fun e w' => ∃ g, e = .returned (.slice (some ⟨g, 0, none⟩) 5 5) ∧ w.heap.size ≤ g ∧ RowN w' g (comp h s.data.toList) ∧ Below w.heap.size w w' := by
  have hne : ((s.size : Int) != 64) = false := by rw [bne_eq_false_iff_eq]; omega
  have h5 := fiveZ_of hh
  have HL := hideB2 hl
  have hsl : s.data.toList.length = 64 := by rw [len_data]; exact hl
  clear hl
  go_enter Try.func16, Try.ntmps16
  go_wp2_with fail
  refine (fiveOf_any b 5 cap (nz h) _ hr.z (by rw [nz_len]; exact hh.1) (by unfold maxLen; omega)).mono ?_
  rintro e w1 ⟨rfl, hb1⟩
  rw [fiveW_nz hh]
  have HZ := hideB2 (Try.size5 hh.1)
  have HS := hideB2 (show (v5 0 0 0 0 0).size = (cU h).size by rw [cU_size, hh.1]; rfl)
  have HN := hideB2 (Blk.new w1 #[.int .u32 0, .int .u32 0, .int .u32 0, .int .u32 0, .int .u32 0] 47)
  have HK := hideB2 ((Blk.new w1 #[.int .u32 0, .int .u32 0, .int .u32 0, .int .u32 0, .int .u32 0] 47).row (c' := cU h))
  have HB := hideB2 (below_setRow (hb1.alloc hb1.size (.cells #[.int .u32 0, .int .u32 0, .int .u32 0, .int .u32 0, .int .u32 0] 47)) hb1.size (cU h))
  have HG := hideB2 hb1.size
  clear hr hb1
  go_wp2_with (refine wp_storeA rfl rfl _ _ rfl rfl rfl HN.out HZ.out HS.out (cU_one h) ?_)
  clear HN
  generalize (w1.alloc (.cells #[.int .u32 0, .int .u32 0, .int .u32 0, .int .u32 0, .int .u32 0] 47)).setRow w1.heap.size (cU h) = W3 at *
  generalize w1.heap.size = g5 at *
  obtain ⟨a0, a1, a2, a3, a4, he5, l0, l1, l2, l3, l4⟩ := hh.mk5
  have hc := fun i (hi : i < 5) => (HK.out.cell i).trans (cU_at h i (by rw [hh.1]; exact hi))
  rw [he5] at hc
  have c0 := grw_some (hc 0 (by omega))
  have c1 := grw_some (hc 1 (by omega))
  have c2 := grw_some (hc 2 (by omega))
  have c3 := grw_some (hc 3 (by omega))
  have c4 := grw_some (hc 4 (by omega))
  simp only [List.getD_cons_zero, List.getD_cons_succ] at c0 c1 c2 c3 c4
  have hv5 : cU h = #[.int .u32 (a0 : Int), .int .u32 (a1 : Int), .int .u32 (a2 : Int), .int .u32 (a3 : Int), .int .u32 (a4 : Int)] := by rw [he5]; rfl
  have hcm := fun V => compressed_any h s.data.toList (grw W3 V) hh hsl
  have hf2 := comp_five h s.data.toList
  generalize hcc : comp h s.data.toList = h2 at *
  have HE := hideB2 hcc
  rw [hv5] at hcm
  have HCM := hideB2 hcm
  have HF2 := hideB2 hf2
  have HS2 := hideB2 (show (cU h).size = (cU h2).size by rw [cU_size, cU_size, hh.1, hf2.1])
  clear hcc hcm hc he5 hv5 hf2
  refine wp_region_grow_tail 4 ?_ ?_ ?_
  · kernel_rfl
  · kernel_rfl
  intro hne
  simp only [List.take_succ_cons, List.take_zero, List.drop_succ_cons, List.drop_zero]
  repeat (go_big_quiet_step ((first | (go_at_call 37; exact grow_call (blockOf_any s _ HL.out)) | (go_at_call 36; exact grow_call (HCM.out _)))))
  refine wpQuiet_nil ?_
  rintro _ ⟨V, rfl⟩
  have K4 := HK.out.later (grw_below W3 V)
  have HBB := hideB2 (below_setRow (HB.out.trans ((grw_below W3 V).mono HB.out.size)) HG.out (cU h2))
  have HKK := hideB2 (K4.row (c' := cU h2))
  refine wp_storeA rfl rfl _ _ rfl rfl rfl K4 (Try.size5 HF2.out.1) HS2.out (cU_one h2) ?_
  generalize (grw W3 V).setRow g5 (cU h2) = W5 at *
  go_wp2_with fail
  refine (numbersOf_any _ 5 5 h2 47 _ HKK.out HF2.out.1 (by omega) HF2.out.2).mono ?_
  rintro e w6 ⟨rfl, hr6, hb6⟩
  go_wp2
  go_ret
  exact ⟨_, rfl, HBB.out.size, by rw [HE.out]; exact hr6, below_then HBB.out hb6⟩
end Go.Proofs.Ytknpolmenfdheaa
