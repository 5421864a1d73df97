/-
  The walks over chapter 3: arrays as values; the eighty words.
-/
import Derived.Test.YtknpolmenfdheaaBK
namespace Go.Proofs.Ytknpolmenfdheaa
set_option linter.unusedVariables false
set_option linter.unusedSimpArgs false
open Go.RowKit
/-- Words as cells of 32 bits. -/
def cU (l : List Nat) : Array Value := (l.map fun (x : Nat) => Value.int .u32 (x : Int)).toArray
theorem cU_at (l : List Nat) (j : Nat) (h : j < l.length) : (cU l)[j]? = some (.int .u32 ((l.getD j 0 : Nat) : Int)) := by
  simp [cU, List.getD, h]
theorem cU_set (l : List Nat) (j v : Nat) : (cU l).setIfInBounds j (.int .u32 (v : Int)) = cU (l.set j v) := by
  simp [cU, List.map_set]
theorem cU_size (l : List Nat) : (cU l).size = l.length := by simp [cU]
theorem cU_one (l : List Nat) : (cU l).all (·.oneCell') = true := by
  simp [cU]
  intro x _
  rfl
/-- Bytes as cells. -/
def cB (l : List UInt8) : Array Value := (l.map fun b => Value.int .u8 (b.toNat : Int)).toArray
theorem cB_at (l : List UInt8) (j : Nat) (h : j < l.length) : (cB l)[j]? = some (.int .u8 (byteAt l j : Int)) := by
  simp [cB, byteAt, List.getD, h]
theorem cB_size (l : List UInt8) : (cB l).size = l.length := by simp [cB]
theorem cB_one (l : List UInt8) : (cB l).all (·.oneCell') = true := by
  simp [cB]
  intro x _
  rfl
def z80 : List Nat := List.replicate 80 0
theorem Try.info80 : (Try.prog.info? 72).map (fun i => (i.zero, i.size)) = some (some (.agg (cU z80)), 80) := by kernel_rfl
theorem Try.zero80 : (∀ w, (zeroValue 72).run Try.prog w = .ok (.agg (cU z80)) w) ∧ (Try.prog.info? 72).map (·.size) = some 80 := zero_of_info Try.info80
theorem join_u32 (x b : Nat) (hx : x < 16777216) (hb : b < 256) : bits .or .u32 ((x : Int) * 256) (b : Int) = ((x * 256 + b : Nat) : Int) := by
  have h := u32_or_nat (x * 256) b (by omega) (by omega)
  rw [nat_join 8 (x * 256) b (by omega) (by omega)] at h
  rw [← h]
  simp
theorem beP_lt3 (l : List UInt8) (q r : Nat) (h : r < 4) : beP l q r < 16777216 := by
  have h1 := beP_lt l q r
  have h2 : 256 ^ r ≤ 256 ^ 3 := Nat.pow_le_pow_right (by decide) (by omega)
  have h3 : (256 : Nat) ^ 3 = 16777216 := by decide
  omega
set_option maxHeartbeats 2000000 in
theorem scheduled_any (l : List UInt8) (w : World) (hl : l.length = 64) :
    Calls Try.prog 43 #[.agg (cB l)] w fun e w' => e = .returned (.agg (cU (schL l 80))) ∧ Below w.heap.size w w' := by
  have hz := Try.zero80.1
  have HB := hideB2 (below_a3 w (.cells (cB l) 62) (.cells (cU z80) 72) (.cells (cU z80) 72))
  have H1 := hideB2 (((Blk.new w (cB l) 62).alloc (.cells (cU z80) 72)).alloc (.cells (cU z80) 72))
  have H2 := hideB2 ((Blk.new (w.alloc (.cells (cB l) 62)) (cU z80) 72).alloc (.cells (cU z80) 72))
  have H3 := hideB2 (Blk.new ((w.alloc (.cells (cB l) 62)).alloc (.cells (cU z80) 72)) (cU z80) 72)
  rw [show (w.alloc (.cells (cB l) 62)).heap.size = w.heap.size + 1 by simp] at H2
  rw [show ((w.alloc (.cells (cB l) 62)).alloc (.cells (cU z80) 72)).heap.size = w.heap.size + 1 + 1 by simp] at H3
  go_enter Try.func43, Try.ntmps43
  go_wp2
  clear hz
  generalize ((w.alloc (.cells (cB l) 62)).alloc (.cells (cU z80) 72)).alloc (.cells (cU z80) 72) = W0 at *
  go_loopw [6] (fun i wr => ∃ k : Nat, k ≤ 64 ∧ i = .int .i64 k ∧ Blk wr w.heap.size (cB l) 62 ∧ Blk wr (w.heap.size + 1) (cU z80) 72 ∧ Blk wr (w.heap.size + 1 + 1) (cU (inRow l k)) 72 ∧ Below w.heap.size w wr) (fun i _ => 64 - (intOf i).toNat)
  case atStart => exact ⟨0, Nat.zero_le _, rfl, H1.out, H2.out, by rw [inRow_zero]; exact H3.out, HB.out⟩
  case round =>
    obtain ⟨k, hk, rfl, h1, h2, h3, hb⟩ := hrel
    clear H1 H2 H3 HB
    by_cases hlt : k < 64
    · have hc1 := h1.cell k
      rw [cB_at l k (by omega)] at hc1
      have hc3 := h3.cell (k / 4)
      rw [cU_at _ _ (by rw [inRow_len]; omega), inRow_at l k hlt] at hc3
      have hf3 := h3.free (k / 4)
      have R := hideB2 (h3.set (k / 4) (.int .u32 ((beP l (k / 4) (k % 4) * 256 + byteAt l k : Nat) : Int)))
      rw [cU_set, ← inRow_succ l k hlt] at R
      have R1 := hideB2 (h1.other (b' := w.heap.size + 1 + 1) (by omega) (k / 4) (.int .u32 ((beP l (k / 4) (k % 4) * 256 + byteAt l k : Nat) : Int)))
      have R2 := hideB2 (h2.other (b' := w.heap.size + 1 + 1) (by omega) (k / 4) (.int .u32 ((beP l (k / 4) (k % 4) * 256 + byteAt l k : Nat) : Int)))
      have RB := hideB2 (hb.setCell (p := ⟨w.heap.size + 1 + 1, k / 4, none⟩) (by simp; omega) (.int .u32 ((beP l (k / 4) (k % 4) * 256 + byteAt l k : Nat) : Int)))
      have hj := join_u32 _ _ (beP_lt3 l (k / 4) (k % 4) (by omega)) (byteAt_lt l k)
      have hx := beP_lt3 l (k / 4) (k % 4) (by omega)
      have hy := byteAt_lt l k
      have hq : (k : Int) / 4 = ((k / 4 : Nat) : Int) := by omega
      have hq4 : k / 4 < 16 := by omega
      clear h1 h2 h3 hb
      have ecast : ((beP l (k / 4) (k % 4) * 256 + byteAt l k : Nat) : Int) = (beP l (k / 4) (k % 4) : Int) * 256 + (byteAt l k : Int) := by simp
      rw [ecast] at R R1 R2 RB hj
      clear ecast
      generalize hqq : k / 4 = q at *
      generalize beP l q (k % 4) = x at *
      generalize byteAt l k = y at *
      have HQ := hideB2 hqq
      clear hqq
      go_wp2
      go_region
      go_wp2
      go_roundw
      case rel => exact ⟨k + 1, by omega, by go_num, R1.out, R2.out, R.out, RB.out.drew⟩
      case measure => simp [intOf]; omega
    · obtain rfl : k = 64 := by omega
      rw [inRow_full] at h3
      have H1 := hideB2 h1
      have H2 := hideB2 h2
      have H3 := hideB2 h3
      have HB := hideB2 hb
      clear h1 h2 h3 hb
      go_wp2
      rw [show ((64 : Nat) : Int) = 64 from rfl]
      obtain ⟨wo, rfl⟩ : ∃ wo : World, wo = wr := ⟨_, rfl⟩
      go_loopw [5] (fun i wr => ∃ t : Nat, 16 ≤ t ∧ t ≤ 80 ∧ i = .int .i64 t ∧ Blk wr (w.heap.size + 1) (cU z80) 72 ∧ Blk wr (w.heap.size + 1 + 1) (cU (fillR (schL l t) 80)) 72 ∧ Below w.heap.size w wr) (fun i _ => 80 - (intOf i).toNat)
      case atStart => exact ⟨16, by omega, by omega, rfl, H2.out, H3.out, HB.out⟩
      case round =>
        obtain ⟨t, ht, ht2, rfl, h2, h3, hb⟩ := hrel
        clear H1 H2 H3 HB
        by_cases hlt : t < 80
        · have hlen : (fillR (schL l t) 80).length = 80 := fillR_len _ _ (by rw [schL_len]; omega)
          have hcs := fun j (hj : j < t) => (h3.cell j).trans (by rw [cU_at _ _ (by rw [hlen]; omega), fillR_at _ _ _ (by rw [schL_len]; exact hj)])
          have hct := h3.cell t
          rw [cU_at _ _ (by rw [hlen]; omega)] at hct
          have hf3 := h3.free t
          have hg := getD_lt (B := 4294967296) (by decide) (schL_lt l t)
          have hn : nxt l t (schL l t) = rotl ((((schL l t).getD (t - 3) 0 ^^^ (schL l t).getD (t - 8) 0) ^^^ (schL l t).getD (t - 14) 0) ^^^ (schL l t).getD (t - 16) 0) 1 := by unfold nxt; rw [if_neg (by omega)]
          have hs1 : schL l (t + 1) = schL l t ++ [nxt l t (schL l t)] := rfl
          have hset := fillR_set (schL l t) 80 (nxt l t (schL l t)) (by rw [schL_len]; exact hlt)
          rw [schL_len, ← hs1] at hset
          have R := h3.set t (.int .u32 ((nxt l t (schL l t) : Nat) : Int))
          rw [cU_set, ← hset] at R
          have R2 := h2.other (b' := w.heap.size + 1 + 1) (by omega) t (.int .u32 ((nxt l t (schL l t) : Nat) : Int))
          have RB := hb.setCell (p := ⟨w.heap.size + 1 + 1, t, none⟩) (by simp; omega) (.int .u32 ((nxt l t (schL l t) : Nat) : Int))
          have hr := rotl_lt ((((schL l t).getD (t - 3) 0 ^^^ (schL l t).getD (t - 8) 0) ^^^ (schL l t).getD (t - 14) 0) ^^^ (schL l t).getD (t - 16) 0) 1 (xor_lt32 (xor_lt32 (xor_lt32 (hg _) (hg _)) (hg _)) (hg _))
          have c3 := hcs (t - 3) (by omega)
          have c8 := hcs (t - 8) (by omega)
          have c14 := hcs (t - 14) (by omega)
          have c16 := hcs (t - 16) (by omega)
          have g3 := hg (t - 3)
          have g8 := hg (t - 8)
          have g14 := hg (t - 14)
          have g16 := hg (t - 16)
          rw [hn] at R R2 RB
          have HR := hideB2 R
          have HR2 := hideB2 R2
          have HRB := hideB2 RB
          obtain ⟨v, hv⟩ : ∃ v, wr.cell? ⟨w.heap.size + 1 + 1, t, none⟩ = some v := ⟨_, hct⟩
          clear hcs hg hn hs1 hset R R2 RB h2 h3 hb hlen hct
          generalize (schL l t).getD (t - 3) 0 = x3 at *
          generalize (schL l t).getD (t - 8) 0 = x8 at *
          generalize (schL l t).getD (t - 14) 0 = x14 at *
          generalize (schL l t).getD (t - 16) 0 = x16 at *
          have e1 := u32_xor_nat x3 x8 g3 g8
          have e2 := u32_xor_nat _ x14 (xor_lt32 g3 g8) g14
          have e3 := u32_xor_nat _ x16 (xor_lt32 (xor_lt32 g3 g8) g14) g16
          have hlt4 := xor_lt32 (xor_lt32 (xor_lt32 g3 g8) g14) g16
          have i3 : (t : Int) - 3 = ((t - 3 : Nat) : Int) := by omega
          have i8 : (t : Int) - 8 = ((t - 8 : Nat) : Int) := by omega
          have i14 : (t : Int) - 14 = ((t - 14 : Nat) : Int) := by omega
          have i16 : (t : Int) - 16 = ((t - 16 : Nat) : Int) := by omega
          have j3 : t - 3 < 80 := by omega
          have j8 : t - 8 < 80 := by omega
          have j14 : t - 14 < 80 := by omega
          have j16 : t - 16 < 80 := by omega
          generalize t - 3 = t3 at *
          generalize t - 8 = t8 at *
          generalize t - 14 = t14 at *
          generalize t - 16 = t16 at *
          go_wp2
          have wr64 : ∀ n : Nat, n < 80 → IntKind.i64.wrap (n : Int) = (n : Int) := fun n hn => wrap_i64_nat n (by omega)
          have w3 := wr64 t3 j3
          have w8 := wr64 t8 j8
          have w14 := wr64 t14 j14
          have w16 := wr64 t16 j16
          have p3 : (t3 : Int) < 80 := by omega
          have p8 : (t8 : Int) < 80 := by omega
          have p14 : (t14 : Int) < 80 := by omega
          have p16 : (t16 : Int) < 80 := by omega
          have pt : (t : Int) < 80 := by omega
          clear wr64
          refine wp_region_still_tail 22 ?_ ?_ ?_
          · kernel_rfl
          · kernel_rfl
          simp only [List.take_succ_cons, List.take_zero, List.drop_succ_cons, List.drop_zero]
          repeat (first | still_step | (still_call (rotl32_any _ 1 _ hlt4 (by omega))))
          refine wpStill_nil ?_
          go_wp2
          go_roundw
          case rel => exact ⟨t + 1, by omega, by omega, by go_num, HR2.out, HR.out, HRB.out.drew⟩
          case measure => simp [intOf]; omega
        · obtain rfl : t = 80 := by omega
          rw [show fillR (schL l 80) 80 = schL l 80 by have := fillR_full (schL l 80); rwa [schL_len] at this] at h3
          have hsz : (Try.prog.info? 72).map (·.size) = some (cU (schL l 80)).size := by rw [cU_size, schL_len]; exact Try.zero80.2
          have H2 := hideB2 h2
          have H3 := hideB2 h3
          have HB := hideB2 (below_setRow hb (show w.heap.size ≤ w.heap.size + 1 by omega) (cU (schL l 80)))
          have hs2 : (cU z80).size = (cU (schL l 80)).size := by rw [cU_size, cU_size, schL_len]; rfl
          have HS := hideB2 hs2
          have HZ := hideB2 hsz
          clear h2 h3 hb hsz hs2
          generalize hL : schL l 80 = L at *
          have HL := hideB2 hL
          clear hL
          go_wp2_with (first | (refine wp_loadA rfl _ rfl rfl H3.out Try.underlying72 HZ.out ?_) | (refine wp_storeA rfl rfl _ _ rfl rfl rfl H2.out HZ.out HS.out (cU_one _) ?_))
          refine bodyPost_ret (v := .agg (cU L)) ?_ rfl ⟨by rw [HL.out], HB.out⟩
          exact results_cell1 rfl _ _ _ rfl H2.out.row Try.underlying72 HZ.out
end Go.Proofs.Ytknpolmenfdheaa
