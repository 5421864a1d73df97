/-
  The walks over chapter 3: absorbed.
-/
import Derived.Test.YtknpolmenfdheaaD8
namespace Go.Proofs.Ytknpolmenfdheaa
set_option linter.unusedVariables false
set_option linter.unusedSimpArgs false
open Go.RowKit
theorem sl64 (W : World) (b p : Nat) (hp : p < 64) : (Instr.sliceAt 62 (.pointer (some ⟨b, 0, none⟩)) (some (.int .i64 (p : Int))) none none).run Try.prog W = .ok (.slice (some ⟨b, p, none⟩) (64 - p) (64 - p)) W := by
  have hal : Try.prog.arrayLen 62 = 64 := by simp [Program.arrayLen, Try.underlying62]
  have hel : Try.prog.elem 62 = 5 := by simp [Program.elem, Try.underlying62]
  rw [run_sliceAt_array_l W 62 ⟨b, 0, none⟩ (by simp [Program.arrayLen, Program.elem, Try.underlying62]) .i64 (p : Int) (by omega) (by rw [hal]; omega), hal, hel]
  obtain ⟨i0, hi, hz0, hz1, hz2⟩ := info_parts Try.infoU8d
  simp [sizeOf, typeInfo, hi, hz1, slicedAt, go_sem]
  omega
theorem sl64h (W : World) (b p : Nat) (hp : p ≤ 64) : (Instr.sliceAt 62 (.pointer (some ⟨b, 0, none⟩)) none (some (.int .i64 (p : Int))) none).run Try.prog W = .ok (.slice (some ⟨b, 0, none⟩) p 64) W := by
  have hal : Try.prog.arrayLen 62 = 64 := by simp [Program.arrayLen, Try.underlying62]
  have hel : Try.prog.elem 62 = 5 := by simp [Program.elem, Try.underlying62]
  rw [run_sliceAt_array_h W 62 ⟨b, 0, none⟩ (by simp [Program.arrayLen, Program.elem, Try.underlying62]) .i64 (p : Int) (by omega) (by rw [hal]; omega), hal, hel]
  obtain ⟨i0, hi, hz0, hz1, hz2⟩ := info_parts Try.infoU8d
  simp [sizeOf, typeInfo, hi, hz1, slicedAt, go_sem]
theorem blk_text (W : World) (b p cap : Nat) (L : List UInt8) (t : TypeId) (h : Blk W b (cB L) t) (hp : p ≤ L.length) :
    (convert 22 9 (.slice (some ⟨b, 0, none⟩) p cap)).run Try.prog W = .ok (.string ⟨(L.take p).toArray⟩) W := by
  have hl : (L.take p).length = p := by rw [List.length_take]; omega
  have hc : ∀ i, i < p → W.cell? ⟨b, 0 + i, none⟩ = some (.int .u8 (((L.take p).map fun b => (b.toNat : Int)).getD i 0)) := by
    intro i hi
    rw [Nat.zero_add, h.cell i, cB_at L i (by omega)]
    unfold byteAt
    simp [List.getD, hi, show i < L.length by omega]
  have := run_convert_bytes_arg (P := Try.prog) W 22 5 Try.underlying22 Try.underlying5 b 0 p cap ((L.take p).map fun b => (b.toNat : Int)) (by rw [List.length_map, hl]) hc 9 Try.underlying9
  rw [this]
  simp only [strOfNums, List.map_map]
  congr 3
  have e : (L.take p).map (fun b => UInt8.ofNat ((b.toNat : Int)).toNat) = L.take p := by
    conv => rhs; rw [← List.map_id (L.take p)]
    apply List.map_congr_left
    intro b _
    simp
  exact congrArg List.toArray e
theorem exL (s : ByteArray) (k t : Nat) : (s.extract k t).data.toList = (s.data.toList.take t).drop k := by
  rw [ByteArray.data_extract, Array.toList_extract]
  simp only [List.extract]
  rw [List.drop_take]
theorem exEnd (s : ByteArray) (k : Nat) : (s.extract k s.size).data.toList = s.data.toList.drop k := by
  rw [exL, List.take_of_length_le (by rw [len_data]; exact Nat.le_refl _)]
theorem chunk_of {b : ByteArray} {all : List UInt8} {R j n : Nat} (hall : b.data.toList = all.drop R) (hn : n ≤ b.size - j) :
    ((b.extract j b.size).data.toList.take n).length = n ∧ (b.extract j b.size).data.toList.take n = (all.drop (R + j)).take ((b.extract j b.size).data.toList.take n).length := by
  have hl : ((b.extract j b.size).data.toList.take n).length = n := by
    rw [exEnd, List.length_take, List.length_drop, len_data]; omega
  refine ⟨hl, ?_⟩
  rw [hl, exEnd, hall, List.drop_drop]
set_option maxHeartbeats 4000000 in
theorem absorbed_any (h : List Nat) (r b : ByteArray) (w : World) (hh : Five h) (hr : r.size < 64) (hb : b.size ≤ maxLen) :
    Calls Try.prog 25 #[.agg (cU h), .string r, .string b] w fun e w' => e = .returned (.tuple #[.agg (cU (inH h (r.data.toList ++ b.data.toList))), .string ⟨(inR (r.data.toList ++ b.data.toList)).toArray⟩]) ∧ Below w.heap.size w w' := by
  unfold maxLen at hb
  have hz := Try.zero64
  have C1 := blk_a w (cU h) 47 (.cells #[.int .u32 0, .int .u32 0, .int .u32 0, .int .u32 0, .int .u32 0] 47) (.cells (cB z64) 62)
  have C2 : Blk _ _ (v5 0 0 0 0 0) _ := blk_b w #[.int .u32 0, .int .u32 0, .int .u32 0, .int .u32 0, .int .u32 0] 47 (.cells (cU h) 47) (.cells (cB z64) 62)
  have C3 := blk_c w (cB z64) 62 (.cells (cU h) 47) (.cells #[.int .u32 0, .int .u32 0, .int .u32 0, .int .u32 0, .int .u32 0] 47)
  have CB := below_a3 w (.cells (cU h) 47) (.cells #[.int .u32 0, .int .u32 0, .int .u32 0, .int .u32 0, .int .u32 0] 47) (.cells (cB z64) 62)
  have hcp := run_copy_str (P := Try.prog) (((w.alloc (.cells (cU h) 47)).alloc (.cells #[.int .u32 0, .int .u32 0, .int .u32 0, .int .u32 0, .int .u32 0] 47)).alloc (.cells (cB z64) 62)) 22 9 3 5 (w.heap.size + 1 + 1) 0 64 64 r.size r z64 62 Try.underlying22 Try.sizeU8 C3 (Nat.min_eq_left (by omega)) (by show 0 + r.size ≤ 64; omega)
  rw [List.take_of_length_le (by rw [len_data]; exact Nat.le_refl _)] at hcp
  have D1 := hideB2 (C1.rowOther (b' := w.heap.size + 1 + 1) (c' := cB (splice z64 0 r.data.toList)) (by omega))
  have D2 := hideB2 (C2.rowOther (b' := w.heap.size + 1 + 1) (c' := cB (splice z64 0 r.data.toList)) (by omega))
  have D3 := hideB2 (C3.row (c' := cB (splice z64 0 r.data.toList)))
  have DB := hideB2 (below_setRow CB (show w.heap.size ≤ w.heap.size + 1 + 1 by omega) (cB (splice z64 0 r.data.toList)))
  clear C1 C2 C3 CB
  have HS := hideB2 (held_start r.data.toList b.data.toList (by rw [len_data]; exact hr))
  rw [len_data] at HS
  have HLen : Hid ((r.data.toList ++ b.data.toList).length = r.size + b.size) := by show _ = _; rw [List.length_append, len_data, len_data]
  generalize splice z64 0 r.data.toList = L0 at *
  go_enter Try.func25, Try.ntmps25
  go_wp2
  clear hcp hz
  generalize (((w.alloc (.cells (cU h) 47)).alloc (.cells #[.int .u32 0, .int .u32 0, .int .u32 0, .int .u32 0, .int .u32 0] 47)).alloc (.cells (cB z64) 62)).setRow (w.heap.size + 1 + 1) (cB L0) = W0 at *
  have hall : Hid (b.data.toList = (r.data.toList ++ b.data.toList).drop r.size) := by
    show _ = _
    rw [← len_data r, List.drop_left]
  generalize hA : r.data.toList ++ b.data.toList = all at *
  have HA := hideB2 hA
  clear hA
  go_loopw [9, 10] (fun hv av wr => ∃ j : Nat, j ≤ b.size ∧ av = .int .i64 j ∧ hv = .int .i64 (((r.size + j) % 64 : Nat) : Int) ∧ ∃ L, Held L all (r.size + j) ∧ Blk wr (w.heap.size + 1 + 1) (cB L) 62 ∧ Blk wr w.heap.size (cU (absH h all ((r.size + j) / 64))) 47 ∧ Blk wr (w.heap.size + 1) (v5 0 0 0 0 0) 47 ∧ Below w.heap.size w wr) (fun _ av _ => b.size - (intOf av).toNat)
  case atStart => exact ⟨0, Nat.zero_le _, rfl, congrArg (Value.int .i64) (by rw [Nat.add_zero, Nat.mod_eq_of_lt hr]), L0, HS.out, D3.out, by rw [Nat.add_zero, show r.size / 64 = 0 by omega]; exact D1.out, D2.out, DB.out⟩
  case round =>
    obtain ⟨j, hj, rfl, rfl, L, hH, h3, h1, h2, hbb⟩ := hrel
    clear D1 D2 D3 DB HS
    by_cases hlt : j < b.size
    · have hsl := fun W => sl64 W (w.heap.size + 1 + 1) ((r.size + j) % 64) (Nat.mod_lt _ (by decide))
      have hm64 : (r.size + j) % 64 < 64 := Nat.mod_lt _ (by decide)
      have H3 := hideB2 h3
      have H1 := hideB2 h1
      have H2 := hideB2 h2
      have HB := hideB2 hbb
      have HH := hideB2 hH
      clear h1 h2 h3 hbb hH
      generalize hp : (r.size + j) % 64 = p at *
      have HP := hideB2 hp
      clear hp
      go_wp2
      refine wp_region_draws_tail 5 ?_ ?_ ?_
      · kernel_rfl
      · kernel_rfl
      simp only [List.take_succ_cons, List.take_zero, List.drop_succ_cons, List.drop_zero]
      repeat (go_big_quiet_step (fail))
      refine wpQuiet_nil ?_
      rintro _ ⟨nq, rfl⟩
      by_cases hfull : 64 - p ≤ b.size - j
      · obtain ⟨hcl, hce⟩ := chunk_of (R := r.size) (j := j) (n := 64 - p) hall.out (by omega)
        have hfl := held_full HH.out hce (by rw [HP.out, hcl]; omega)
        rw [HP.out] at hfl
        have hne : Nat.min (b.extract j b.size).size (64 - p) = 64 - p := by rw [ByteArray.size_extract]; exact Nat.min_eq_right (by omega)
        refine wp_copyS rfl _ _ rfl (w.heap.size + 1 + 1) p (64 - p) (64 - p) (64 - p) _ L 62 rfl rfl (H3.out.drewN nq) hne (by rw [HH.out.1]; omega) ?_
        rw [hfl]
        have hbl : ((all.drop (64 * ((r.size + j) / 64))).take 64).length = 64 := by
          rw [List.length_take, List.length_drop, HLen.out]
          have := HP.out
          omega
        have hstep : absH h all ((r.size + j) / 64 + 1) = comp (absH h all ((r.size + j) / 64)) ((all.drop (64 * ((r.size + j) / 64))).take 64) := rfl
        have hf5 := absH_five hh all ((r.size + j) / 64)
        have hd1 : (r.size + (j + (64 - p))) / 64 = (r.size + j) / 64 + 1 := by have := HP.out; omega
        have hd2 : (r.size + (j + (64 - p))) % 64 = 0 := by have := HP.out; omega
        have E1 := hideB2 ((H1.out.drewN nq).rowOther (b' := w.heap.size + 1 + 1) (c' := cB ((all.drop (64 * ((r.size + j) / 64))).take 64)) (by omega))
        have E2 := hideB2 ((H2.out.drewN nq).rowOther (b' := w.heap.size + 1 + 1) (c' := cB ((all.drop (64 * ((r.size + j) / 64))).take 64)) (by omega))
        have E3 := hideB2 ((H3.out.drewN nq).row (c' := cB ((all.drop (64 * ((r.size + j) / 64))).take 64)))
        have EB := hideB2 (below_setRow (below_drewN HB.out nq) (show w.heap.size ≤ w.heap.size + 1 + 1 by omega) (cB ((all.drop (64 * ((r.size + j) / 64))).take 64)))
        have HBL := hideB2 hbl
        have HST := hideB2 hstep
        have HF5 := hideB2 hf5
        have HD1 := hideB2 hd1
        have HD2 := hideB2 hd2
        have hn1 : 64 - p ≤ 64 := by omega
        have hn2 : p + (64 - p) = 64 := by omega
        clear hfl hne hcl hce hbl hstep hf5 hd1 hd2 hsl H1 H2 H3 HB HH
        generalize hbk : (all.drop (64 * ((r.size + j) / 64))).take 64 = B at *
        clear hbk
        generalize hhk : absH h all ((r.size + j) / 64) = hk at *
        clear hhk
        generalize 64 - p = n at *
        have he64 : ((p : Int) + (n : Int) == 64) = true := by rw [beq_iff_eq]; omega
        have HN2 := hideB2 hn2
        clear hn2
        generalize ((wr.drewN nq).setRow (w.heap.size + 1 + 1) (cB B)) = W2 at *
        go_wp2_with (first | (refine wp_loadA rfl _ rfl rfl E1.out Try.underlying47 (Try.size5 HF5.out.1) ?_) | (refine wp_loadA rfl _ rfl rfl E3.out Try.underlying62 (Try.size64 HBL.out) ?_))
        refine (compressed_any hk B _ HF5.out HBL.out).mono ?_
        rintro e w3 ⟨rfl, hb3⟩
        have hc5 := comp_five hk B
        have F1 := hideB2 (E1.out.later hb3)
        have G1 := hideB2 ((E1.out.later hb3).row (c' := cU (comp hk B)))
        have G2 := hideB2 ((E2.out.later hb3).rowOther (b' := w.heap.size) (c' := cU (comp hk B)) (by omega))
        have G3 := hideB2 ((E3.out.later hb3).rowOther (b' := w.heap.size) (c' := cU (comp hk B)) (by omega))
        have GB := hideB2 (below_setRow (EB.out.trans (hb3.mono EB.out.size)) (Nat.le_refl w.heap.size) (cU (comp hk B)))
        have HC5 := hideB2 hc5
        have HSZ := hideB2 (show (cU hk).size = (cU (comp hk B)).size by rw [cU_size, cU_size, HF5.out.1, hc5.1])
        clear hb3 hc5
        generalize comp hk B = hk2 at *
        go_wp2_with (refine wp_storeA rfl rfl _ _ rfl rfl rfl F1.out (Try.size5 HC5.out.1) HSZ.out (cU_one _) ?_)
        have hn3 := HN2.out
        exact ⟨⟨j + n, by omega, by go_num, congrArg (Value.int .i64) (by rw [HD2.out]; rfl), B, held_none B all _ HBL.out HD2.out, G3.out, by rw [HD1.out, HST.out]; exact G1.out, G2.out, GB.out⟩, by simp [intOf]; omega⟩
      · obtain ⟨hcl, hce⟩ := chunk_of (R := r.size) (j := j) (n := b.size - j) hall.out (Nat.le_refl _)
        have hpt := held_part HH.out hce (by rw [HP.out, hcl]; omega)
        rw [HP.out, hcl] at hpt
        have hne : Nat.min (b.extract j b.size).size (64 - p) = b.size - j := by rw [ByteArray.size_extract]; exact (Nat.min_eq_left (by omega)).trans (by omega)
        refine wp_copyS rfl _ _ rfl (w.heap.size + 1 + 1) p (64 - p) (64 - p) (b.size - j) _ L 62 rfl rfl (H3.out.drewN nq) hne (by rw [HH.out.1]; omega) ?_
        have hd1 : (r.size + (j + (b.size - j))) / 64 = (r.size + j) / 64 := by have := HP.out; omega
        have hd2 : (r.size + (j + (b.size - j))) % 64 = p + (b.size - j) := by have := HP.out; omega
        rw [Nat.add_assoc] at hpt
        generalize splice L p ((b.extract j b.size).data.toList.take (b.size - j)) = L2 at *
        have E1 := hideB2 ((H1.out.drewN nq).rowOther (b' := w.heap.size + 1 + 1) (c' := cB L2) (by omega))
        have E2 := hideB2 ((H2.out.drewN nq).rowOther (b' := w.heap.size + 1 + 1) (c' := cB L2) (by omega))
        have E3 := hideB2 ((H3.out.drewN nq).row (c' := cB L2))
        have EB := hideB2 (below_setRow (below_drewN HB.out nq) (show w.heap.size ≤ w.heap.size + 1 + 1 by omega) (cB L2))
        have HD1 := hideB2 hd1
        have HD2 := hideB2 hd2
        have HPT := hideB2 hpt
        clear hd1 hd2 hpt hcl hce hne hsl H1 H2 H3 HB HH
        have hn1 : 0 < b.size - j := by omega
        have hn2 : p + (b.size - j) < 64 := by omega
        have hn3 : j + (b.size - j) ≤ b.size := by omega
        generalize b.size - j = n at *
        have he64 : ((p : Int) + (n : Int) == 64) = false := by rw [beq_eq_false_iff_ne]; omega
        generalize ((wr.drewN nq).setRow (w.heap.size + 1 + 1) (cB L2)) = W2 at *
        go_wp2
        exact ⟨⟨j + n, hn3, by go_num, congrArg (Value.int .i64) (by rw [HD2.out]; go_num), L2, HPT.out, E3.out, by rw [HD1.out]; exact E1.out, E2.out, EB.out⟩, by simp [intOf]; omega⟩
    · obtain rfl : j = b.size := by omega
      have hend : Hid (L.take ((r.size + b.size) % 64) = inR all) := by
        have hH' := hH
        rw [← HLen.out] at hH'
        have := held_end hH'
        rw [HLen.out] at this
        exact this
      have hih : Hid (absH h all ((r.size + b.size) / 64) = inH h all) := by show _ = _; rw [← HLen.out]; rfl
      have hf5 := absH_five hh all ((r.size + b.size) / 64)
      obtain ⟨a0, a1, a2, a3, a4, he5, l0, l1, l2, l3, l4⟩ := hf5.mk5
      have HE5 := hideB2 he5
      rw [he5] at h1
      have hm64 : (r.size + b.size) % 64 < 64 := Nat.mod_lt _ (by decide)
      have hsl := fun W => sl64h W (w.heap.size + 1 + 1) ((r.size + b.size) % 64) (Nat.le_of_lt hm64)
      have hcv := fun W (hB : Blk W (w.heap.size + 1 + 1) (cB L) 62) => blk_text W (w.heap.size + 1 + 1) ((r.size + b.size) % 64) 64 L 62 hB (by rw [hH.1]; omega)
      rw [hend.out] at hcv
      have hc := fun i (hi : i < 5) => (h1.cell i).trans (cU_at [a0, a1, a2, a3, a4] i hi)
      have c0 := hc 0 (by omega)
      have c1 := hc 1 (by omega)
      have c2 := hc 2 (by omega)
      have c3 := hc 3 (by omega)
      have c4 := hc 4 (by omega)
      clear hc he5 hf5
      generalize (r.size + b.size) % 64 = p at *
      have hd := fun i (v : Value) (hi : (v5 0 0 0 0 0)[i]? = some v) => (h2.cell i).trans hi
      have d0 := hd 0 _ rfl
      have d1 := hd 1 _ rfl
      have d2 := hd 2 _ rfl
      have d3 := hd 3 _ rfl
      have d4 := hd 4 _ rfl
      have f0 := h2.free 0
      have f1 := h2.free 1
      have f2 := h2.free 2
      have f3 := h2.free 3
      have f4 := h2.free 4
      have cvA := hcv wr.drew h3.drew
      have k3 := ((((h3.other (b' := w.heap.size + 1) (by omega) 0 (.int .u32 (a0 : Int))).other (b' := w.heap.size + 1) (by omega) 1 (.int .u32 (a1 : Int))).other (b' := w.heap.size + 1) (by omega) 2 (.int .u32 (a2 : Int))).other (b' := w.heap.size + 1) (by omega) 3 (.int .u32 (a3 : Int))).other (b' := w.heap.size + 1) (by omega) 4 (.int .u32 (a4 : Int))
      have cvB := hcv _ k3.drew
      simp only [List.getD_cons_zero, List.getD_cons_succ] at c0 c1 c2 c3 c4
      have K3 := hideB2 k3
      have H2 := hideB2 h2
      have HB := hideB2 hbb
      clear hd hcv k3 h1 h2 h3 hbb hH
      have k2 : Blk _ (w.heap.size + 1) (v5 a0 a1 a2 a3 a4) 47 := ((((H2.out.set 0 (.int .u32 (a0 : Int))).set 1 (.int .u32 (a1 : Int))).set 2 (.int .u32 (a2 : Int))).set 3 (.int .u32 (a3 : Int))).set 4 (.int .u32 (a4 : Int))
      have K2 := hideB2 k2
      have kb := ((((HB.out.setCell (p := ⟨w.heap.size + 1, 0, none⟩) (by simp) (.int .u32 (a0 : Int))).setCell (p := ⟨w.heap.size + 1, 1, none⟩) (by simp) (.int .u32 (a1 : Int))).setCell (p := ⟨w.heap.size + 1, 2, none⟩) (by simp) (.int .u32 (a2 : Int))).setCell (p := ⟨w.heap.size + 1, 3, none⟩) (by simp) (.int .u32 (a3 : Int))).setCell (p := ⟨w.heap.size + 1, 4, none⟩) (by simp) (.int .u32 (a4 : Int))
      have KB := hideB2 kb.drew
      clear k2 kb
      go_wp2
      go_region
      go_wp2
      refine bodyPost_ret (results_cell2 rfl _ _ _ rfl K2.out.drew Try.underlying47 (Try.size5v _ _ _ _ _)) rfl ⟨?_, KB.out⟩
      rw [HA.out, ← hih.out, HE5.out]
      rfl
end Go.Proofs.Ytknpolmenfdheaa
