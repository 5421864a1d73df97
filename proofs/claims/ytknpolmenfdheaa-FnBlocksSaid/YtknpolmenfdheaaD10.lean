/-
  The walks over chapter 3: the ending of a text, the bytes of five words (impl).
-/
import Derived.Test.YtknpolmenfdheaaD9
namespace Go.Proofs.Ytknpolmenfdheaa
set_option linter.unusedVariables false
set_option linter.unusedSimpArgs false
open Go.RowKit
theorem row8_made {w w' : World} {n : Nat} (h : w'.ownsRow w.heap.size 5 1 (.slice (some ⟨w.heap.size, 0, none⟩) n n) n (List.replicate n (.int .u8 0))) : Row8 w' w.heap.size (List.replicate n 0) := by
  refine ⟨fun j hj => ?_, fun j hj => h.frozenAt j, (h.lt w.heap.size rfl).2⟩
  rw [List.length_replicate] at hj
  have := h.cells (g := w.heap.size) rfl j (.int .u8 0) (by simp [hj])
  rw [Addr.add_lit, Nat.zero_add] at this
  rw [this]; simp [List.getD, hj]
theorem wp_mkB {ops : Array Oper} {rest : List Oper} {o : Oper} {a : Act} {Q : Exit → Act → World → Prop} {w : World} (hg : o.guard = none) (l c : Operand) (hop : o.op = Op.makeSlice 22 l c)
    (n : Nat) (L C : Int) (hl : a.eval l = .int .i64 L) (hc : a.eval c = .int .i64 C) (hL : L = (n : Int)) (hC : C = (n : Int)) (hn : n ≤ 1000000)
    (hK : ∀ w', Row8 w' w.heap.size (List.replicate n 0) → Below w.heap.size w w' → wpList Try.prog ops Q rest (a.put o.dst (.slice (some ⟨w.heap.size, 0, none⟩) n n)) w') :
    wpList Try.prog ops Q (o :: rest) a w := by
  obtain ⟨i0, hi, hz0, hz1, hz2⟩ := info_parts Try.infoU8d
  refine wpList_make_full w hg l c 22 hop w.heap.size 5 i0 (.int .u8 0) 1 Try.underlying22 hi hz0 hz1 .i64 .i64 L C n hl hc hL hC (by rw [hz2]; omega) (by unfold maxLen; omega) (Nat.le_refl _) ?_
  intro w' hown hgr
  refine hK w' (row8_made ?_) ⟨hgr.os, hgr.tape, hgr.output, hgr.size, fun k hk => hgr.block k hk (by simp)⟩
  have e : (madeCells (Value.int .u8 0).cells (n * 1)).toList = List.replicate n (.int .u8 0) := by
    rw [Nat.mul_one]; exact toList_madeCells_one _ _
  rw [e] at hown
  exact hown
theorem nZero_is {size z : Nat} (h : z ≤ nZero size) : (size + (9 + z)) % 64 = 0 ↔ z = nZero size := by unfold nZero at *; omega
theorem nZero_le (size : Nat) : nZero size ≤ 63 := by unfold nZero; omega
/-- The ending while the length goes in, i bytes of it so far, the lowest first. -/
def endR (z n i : Nat) : List Int := (List.range (9 + z)).map fun p => if p = 0 then 128 else if p ≤ z then 0 else if 8 + z - p < i then ((n / 256 ^ (8 + z - p) % 256 : Nat) : Int) else 0
theorem endR_len (z n i : Nat) : (endR z n i).length = 9 + z := by simp [endR]
theorem endR_start (z n : Nat) : endR z n 0 = (List.replicate (9 + z) (0 : Int)).set 0 128 := by
  have e : List.replicate (9 + z) (0 : Int) = (List.range (9 + z)).map fun _ => 0 := by rw [List.map_const', List.length_range]
  rw [e]
  exact map_range_set (9 + z) 0 _ _ _ rfl (fun j hj => by simp [hj])
theorem map_range_setB {α : Type} (n k : Nat) (f g : Nat → α) (v : α) (hk : g k = v) (ho : ∀ j, j < n → j ≠ k → g j = f j) : (List.range n).map g = ((List.range n).map f).set k v := by
  apply List.ext_getElem?
  intro j
  by_cases hj : j < n
  · by_cases e : j = k
    · subst e
      rw [List.getElem?_set_self (by simp [hj])]
      simp [hj, hk]
    · rw [List.getElem?_set_ne (Ne.symm e)]
      simp [hj, ho j hj e]
  · rw [List.getElem?_eq_none (by simp; omega), List.getElem?_eq_none (by simp; omega)]
theorem endR_step (z n i : Nat) (hi : i < 8) : endR z n (i + 1) = (endR z n i).set (8 + z - i) ((n / 256 ^ i % 256 : Nat) : Int) := by
  refine map_range_setB (9 + z) (8 + z - i) _ _ _ ?_ ?_
  · show (if 8 + z - i = 0 then _ else _) = _
    rw [if_neg (by omega), if_neg (by omega), if_pos (by omega), show 8 + z - (8 + z - i) = i by omega]
  · intro j hjn hj
    show (if j = 0 then _ else if j ≤ z then _ else if 8 + z - j < i + 1 then _ else _) = (if j = 0 then _ else if j ≤ z then _ else if 8 + z - j < i then _ else _)
    by_cases h0 : j = 0
    · rw [if_pos h0, if_pos h0]
    · rw [if_neg h0, if_neg h0]
      by_cases h1 : j ≤ z
      · rw [if_pos h1, if_pos h1]
      · rw [if_neg h1, if_neg h1]
        by_cases h2 : 8 + z - j < i
        · rw [if_pos (by omega), if_pos h2]
        · rw [if_neg (by omega), if_neg h2]
theorem ofNat_mod8 (x : Nat) : UInt8.ofNat (x % 256) = UInt8.ofNat x := by
  apply UInt8.toNat_inj.1
  simp
theorem endR_all (size : Nat) : strOfNums (endR (nZero size) (8 * size) 8) = ⟨(endL size).toArray⟩ := by
  unfold strOfNums
  congr 2
  unfold endR endL be8
  apply List.ext_getElem?
  intro p
  generalize nZero size = z
  generalize 8 * size = n
  by_cases hp : p < 9 + z
  · simp only [List.getElem?_map]
    rw [List.getElem?_range hp]
    simp only [Option.map_some]
    cases p with
    | zero => rfl
    | succ p =>
      rw [List.getElem?_cons_succ, if_neg (by omega)]
      by_cases h1 : p < z
      · rw [List.getElem?_append_left (by simp; exact h1), List.getElem?_replicate, if_pos h1, if_pos (by omega)]
        rfl
      · rw [List.getElem?_append_right (by simp; omega), List.length_replicate, List.getElem?_map, List.getElem?_range (by omega), if_neg (by omega), if_pos (by omega), show 8 + z - (p + 1) = 7 - (p - z) by omega, Int.toNat_natCast, ofNat_mod8]
        rfl
  · rw [List.getElem?_eq_none (by simp; omega), List.getElem?_eq_none (by simp; omega)]
theorem pow_256 (i : Nat) : (2 : Int) ^ (8 * i) = ((256 ^ i : Nat) : Int) := by
  rw [Int.pow_mul]; simp
theorem end_val (size i : Nat) : (size : Int) * 8 / 2 ^ (8 * i) % 256 = (((8 * size) / 256 ^ i % 256 : Nat) : Int) := by
  have e1 : (size : Int) * 8 = ((8 * size : Nat) : Int) := by omega
  rw [e1, pow_256]
  rfl
set_option maxHeartbeats 2000000 in
theorem ending_any (size : Nat) (w : World) (hs : size ≤ 999999999999999) :
    Calls Try.prog 27 #[.int .i64 (size : Int)] w fun e w' => e = .returned (.string ⟨(endL size).toArray⟩) ∧ Below w.heap.size w w' := by
  have hz63 := nZero_le size
  go_enter Try.func27, Try.ntmps27
  go_wp2
  go_loop [3] (fun l => ∃ z : Nat, z ≤ nZero size ∧ l = .int .i64 (9 + (z : Int))) (fun l => 9 + nZero size - (intOf l).toNat)
  case atStart => exact ⟨0, Nat.zero_le _, rfl⟩
  case round =>
    obtain ⟨z, hz, rfl⟩ := hrel
    have hq := nZero_is hz
    by_cases he : z = nZero size
    · have hmod : (((size : Int) + (9 + (z : Int))) % 64 != 0) = false := by
        rw [bne_eq_false_iff_eq]
        have := hq.2 he
        omega
      have HF := hideB2 (endR_all size)
      rw [← he] at HF
      have h1 : 9 + z ≤ 72 := by omega
      have hzz : z ≤ 63 := by omega
      have HLs := hideB2 (endR_len z (8 * size))
      clear hq he hz63 hz
      go_wp2_with (refine wp_mkB rfl _ _ rfl (9 + z) _ _ rfl rfl rfl rfl (by omega) ?_; intro W1 hr1 hb1; have HR := hideB2 hr1; have HB := hideB2 hb1; have hc0 := hr1.cell 0 (by rw [List.length_replicate]; omega); have hf0 := hr1.free 0 (by rw [List.length_replicate]; omega); clear hr1 hb1)
      have R0 := hideB2 (HR.out.set 0 128 (by rw [List.length_replicate]; omega))
      rw [← endR_start z (8 * size)] at R0
      have RB := hideB2 (HB.out.setCell (p := ⟨w.heap.size, 0, none⟩) (by simp) (.int .u8 128))
      clear HR HB hc0 hf0
      generalize W1.setCell ⟨w.heap.size, 0, none⟩ (.int .u8 128) = W2 at *
      go_loopw [17] (fun v wr => ∃ i : Nat, i ≤ 8 ∧ v = .int .i64 i ∧ Row8 wr w.heap.size (endR z (8 * size) i) ∧ Below w.heap.size w wr) (fun v _ => 8 - (intOf v).toNat)
      case atStart => exact ⟨0, by omega, rfl, R0.out, RB.out⟩
      case round =>
        obtain ⟨i, hi, rfl, hrow, hb⟩ := hrel
        clear R0 RB
        by_cases hlt : i < 8
        · have hc := hrow.cell (8 + z - i) (by rw [endR_len]; omega)
          have hf := hrow.free (8 + z - i) (by rw [endR_len]; omega)
          have R := hideB2 (hrow.set (8 + z - i) (((8 * size) / 256 ^ i % 256 : Nat) : Int) (by rw [endR_len]; omega))
          rw [← endR_step z (8 * size) i hlt] at R
          have RB := hideB2 (hb.setCell (p := ⟨w.heap.size, 8 + z - i, none⟩) (by simp) (.int .u8 (((8 * size) / 256 ^ i % 256 : Nat) : Int)))
          have hix : 9 + (z : Int) - 1 - (i : Int) = ((8 + z - i : Nat) : Int) := by omega
          have hil : 8 + z - i < 9 + z := by omega
          clear hrow hb
          generalize (endR z (8 * size) i).getD (8 + z - i) 0 = y at *
          generalize hq : 8 + z - i = q at *
          have HQ := hideB2 hq
          clear hq
          go_wp2
          rw [end_val]
          exact ⟨⟨i + 1, by omega, by go_num, R.out, RB.out⟩, by simp [intOf]; omega⟩
        · obtain rfl : i = 8 := by omega
          have kb := hrow.text (P := Try.prog) 22 5 9 (9 + z) (9 + z) (endR_len z _ 8) Try.underlying22 Try.underlying5 Try.underlying9
          rw [HF.out] at kb
          go_wp2
          go_ret
          exact ⟨rfl, hb⟩
    · have hmod : (((size : Int) + (9 + (z : Int))) % 64 != 0) = true := by
        rw [bne_iff_ne]
        intro h0
        exact he (hq.1 (by omega))
      clear hq
      go_wp2
      exact ⟨⟨z + 1, by omega, by go_num⟩, by simp [intOf]; omega⟩
theorem cB_set (l : List UInt8) (j : Nat) (v : UInt8) : (cB l).setIfInBounds j (.int .u8 (v.toNat : Int)) = cB (l.set j v) := by
  simp [cB, List.map_set]
def z20 : List UInt8 := List.replicate 20 0
theorem Try.info20 : (Try.prog.info? 68).map (fun i => (i.zero, i.size)) = some (some (.agg (cB z20)), 20) := by kernel_rfl
/-- The digest's bytes while they go out. -/
def outR (h : List Nat) (i : Nat) : List UInt8 := (digL h).take i ++ List.replicate (20 - i) 0
theorem digL_at (h : List Nat) (i : Nat) (hi : i < 20) : (digL h).getD i 0 = UInt8.ofNat (h.getD (i / 4) 0 / 256 ^ (3 - i % 4)) := by
  have h20 : i = 0 ∨ i = 1 ∨ i = 2 ∨ i = 3 ∨ i = 4 ∨ i = 5 ∨ i = 6 ∨ i = 7 ∨ i = 8 ∨ i = 9 ∨ i = 10 ∨ i = 11 ∨ i = 12 ∨ i = 13 ∨ i = 14 ∨ i = 15 ∨ i = 16 ∨ i = 17 ∨ i = 18 ∨ i = 19 := by omega
  rcases h20 with rfl | rfl | rfl | rfl | rfl | rfl | rfl | rfl | rfl | rfl | rfl | rfl | rfl | rfl | rfl | rfl | rfl | rfl | rfl | rfl
  all_goals simp [digL, wordB]
theorem outR_zero (h : List Nat) : outR h 0 = z20 := rfl
theorem outR_len (h : List Nat) (i : Nat) (hi : i ≤ 20) : (outR h i).length = 20 := by unfold outR; rw [List.length_append, List.length_take, digL_len, List.length_replicate]; omega
theorem outR_step (h : List Nat) (i : Nat) (hi : i < 20) : outR h (i + 1) = (outR h i).set i (UInt8.ofNat (h.getD (i / 4) 0 / 256 ^ (3 - i % 4))) := by
  rw [← digL_at h i hi]
  unfold outR
  have hl : ((digL h).take i).length = i := by rw [List.length_take, digL_len]; omega
  have hd : i < (digL h).length := by rw [digL_len]; exact hi
  rw [List.set_append_right _ _ (by rw [hl]; exact Nat.le_refl _), hl, Nat.sub_self, List.take_succ_eq_append_getElem hd, show 20 - i = (20 - (i + 1)) + 1 by omega, List.replicate_succ, List.getD, List.getElem?_eq_getElem hd, List.append_assoc, List.set_cons_zero]
  rfl
theorem outR_all (h : List Nat) : outR h 20 = digL h := by
  unfold outR
  rw [List.take_of_length_le (by rw [digL_len]; exact Nat.le_refl _)]
  simp
theorem pow_sh (i : Nat) : (2 : Int) ^ (24 - i % 4 * 8) = ((256 ^ (3 - i % 4) : Nat) : Int) := by
  have e : 24 - i % 4 * 8 = 8 * (3 - i % 4) := by omega
  rw [e, pow_256]
theorem out_val (x i : Nat) : ((x : Int) / 2 ^ (24 - i % 4 * 8)) % 256 = ((UInt8.ofNat (x / 256 ^ (3 - i % 4))).toNat : Int) := by
  rw [pow_sh]
  simp
set_option maxHeartbeats 2000000 in
theorem bytesOf_any (h : List Nat) (w : World) (hh : Five h) :
    Calls Try.prog 28 #[.agg (cU h)] w fun e w' => e = .returned (.string ⟨(digL h).toArray⟩) ∧ Below w.heap.size w w' := by
  have hz := (zero_of_info Try.info20).1
  have H1 := hideB2 (blk2_a w (cU h) 47 (.cells (cB z20) 68))
  have H2 := hideB2 (blk2_b w (cB z20) 68 (.cells (cU h) 47))
  have HB := hideB2 (below_a2 w (.cells (cU h) 47) (.cells (cB z20) 68))
  go_enter Try.func28, Try.ntmps28
  go_wp2
  clear hz
  generalize (w.alloc (.cells (cU h) 47)).alloc (.cells (cB z20) 68) = W0 at *
  go_loopw [5] (fun v wr => ∃ i : Nat, i ≤ 20 ∧ v = .int .i64 i ∧ Blk wr w.heap.size (cU h) 47 ∧ Blk wr (w.heap.size + 1) (cB (outR h i)) 68 ∧ Below w.heap.size w wr) (fun v _ => 20 - (intOf v).toNat)
  case atStart => exact ⟨0, by omega, rfl, H1.out, by rw [outR_zero]; exact H2.out, HB.out⟩
  case round =>
    obtain ⟨i, hi, rfl, h1, h2, hb⟩ := hrel
    clear H1 H2 HB
    by_cases hlt : i < 20
    · have hc1 := (h1.cell (i / 4)).trans (cU_at h (i / 4) (by rw [hh.1]; omega))
      have hx := getD_lt (B := 4294967296) (by decide) hh.2 (i / 4)
      have hc2 := (h2.cell i).trans (cB_at (outR h i) i (by rw [outR_len h i hi]; exact hlt))
      have hf2 := h2.free i
      have R := h2.set i (.int .u8 ((UInt8.ofNat (h.getD (i / 4) 0 / 256 ^ (3 - i % 4))).toNat : Int))
      rw [cB_set, ← outR_step h i hlt] at R
      have HR := hideB2 R
      have HR1 := hideB2 (h1.other (b' := w.heap.size + 1) (by omega) i (.int .u8 ((UInt8.ofNat (h.getD (i / 4) 0 / 256 ^ (3 - i % 4))).toNat : Int)))
      have HRB := hideB2 (hb.setCell (p := ⟨w.heap.size + 1, i, none⟩) (by simp) (.int .u8 ((UInt8.ofNat (h.getD (i / 4) 0 / 256 ^ (3 - i % 4))).toNat : Int)))
      have hv := out_val (h.getD (i / 4) 0) i
      have hq : (i : Int) / 4 = ((i / 4 : Nat) : Int) := by omega
      have hq5 : i / 4 < 5 := by omega
      clear R h1 h2 hb
      generalize (UInt8.ofNat (h.getD (i / 4) 0 / 256 ^ (3 - i % 4))).toNat = y at *
      generalize h.getD (i / 4) 0 = x at *
      generalize byteAt (outR h i) i = u at *
      generalize i / 4 = q at *
      have HV := hideB2 hv
      clear hv
      have hm : (i : Int) % 4 = ((i % 4 : Nat) : Int) := by omega
      have hm4 : i % 4 < 4 := by omega
      generalize i % 4 = m at *
      go_wp2
      rw [HV.out]
      exact ⟨⟨i + 1, by omega, by go_num, HR1.out, HR.out, HRB.out⟩, by simp [intOf]; omega⟩
    · obtain rfl : i = 20 := by omega
      rw [outR_all] at h2
      have kb := blk_text wr (w.heap.size + 1) 20 20 (digL h) 68 h2 (by rw [digL_len]; omega)
      rw [List.take_of_length_le (by rw [digL_len]; omega)] at kb
      go_wp2
      go_ret
      exact ⟨rfl, hb⟩
end Go.Proofs.Ytknpolmenfdheaa
