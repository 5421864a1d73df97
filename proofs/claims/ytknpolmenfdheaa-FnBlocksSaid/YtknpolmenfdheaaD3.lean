/-
  The walks over chapter 3: a block mixed into five words (impl).
-/
import Derived.Test.YtknpolmenfdheaaD2
namespace Go.Proofs.Ytknpolmenfdheaa
set_option linter.unusedVariables false
set_option linter.unusedSimpArgs false
open Go.RowKit
theorem Try.info64 : (Try.prog.info? 62).map (fun i => (i.zero, i.size)) = some (some (.agg (cB (List.replicate 64 0))), 64) := by kernel_rfl
theorem Try.info5 : (Try.prog.info? 47).map (fun i => (i.zero, i.size)) = some (some (.agg (cU [0, 0, 0, 0, 0])), 5) := by kernel_rfl
theorem Try.size64 {l : List UInt8} (h : l.length = 64) : (Try.prog.info? 62).map (·.size) = some (cB l).size := by rw [cB_size, h]; exact (zero_of_info Try.info64).2
theorem Try.size5 {l : List Nat} (h : l.length = 5) : (Try.prog.info? 47).map (·.size) = some (cU l).size := by rw [cU_size, h]; exact (zero_of_info Try.info5).2
theorem Try.size80 {l : List Nat} (h : l.length = 80) : (Try.prog.info? 72).map (·.size) = some (cU l).size := by rw [cU_size, h]; exact (zero_of_info Try.info80).2
theorem blk_a (w : World) (c : Array Value) (t : TypeId) (o2 o3 : Obj) : Blk (((w.alloc (.cells c t)).alloc o2).alloc o3) w.heap.size c t := ((Blk.new w c t).alloc o2).alloc o3
theorem blk_b (w : World) (c : Array Value) (t : TypeId) (o1 o3 : Obj) : Blk (((w.alloc o1).alloc (.cells c t)).alloc o3) (w.heap.size + 1) c t := by
  have := (Blk.new (w.alloc o1) c t).alloc o3
  rwa [show (w.alloc o1).heap.size = w.heap.size + 1 by simp] at this
theorem blk_c (w : World) (c : Array Value) (t : TypeId) (o1 o2 : Obj) : Blk (((w.alloc o1).alloc o2).alloc (.cells c t)) (w.heap.size + 1 + 1) c t := by
  have := Blk.new ((w.alloc o1).alloc o2) c t
  rwa [show ((w.alloc o1).alloc o2).heap.size = w.heap.size + 1 + 1 by simp] at this
def v5 (a b c d e : Int) : Array Value := #[.int .u32 a, .int .u32 b, .int .u32 c, .int .u32 d, .int .u32 e]
theorem v5_cU (a b c d e : Nat) : v5 a b c d e = cU [a, b, c, d, e] := rfl
theorem v5_one (a b c d e : Int) : (v5 a b c d e).all (·.oneCell') = true := by simp [v5]; exact ⟨rfl, rfl, rfl, rfl, rfl⟩
theorem Try.size5v (a b c d e : Int) : (Try.prog.info? 47).map (·.size) = some (v5 a b c d e).size := (zero_of_info Try.info5).2
theorem wp_store5 {ops : Array Oper} {rest : List Oper} {o : Oper} {A : Act} {Q : Exit → Act → World → Prop} {w : World} {g : Nat} {a b c d e a' b' c' d' e' : Int} (hg : o.guard = none) (hd : o.dst = none) (x y : Operand) (ho : o.op = Op.store 47 x y)
    (hx : A.eval x = .pointer (some ⟨g, 0, none⟩)) (hy : A.eval y = .agg #[.int .u32 a', .int .u32 b', .int .u32 c', .int .u32 d', .int .u32 e']) (hB : Blk w g (v5 a b c d e) 47)
    (k : wpList Try.prog ops Q rest A (w.setRow g (v5 a' b' c' d' e'))) : wpList Try.prog ops Q (o :: rest) A w :=
  wp_storeA hg hd x y ho hx hy hB (Try.size5v _ _ _ _ _) rfl (v5_one _ _ _ _ _) k
set_option maxHeartbeats 4000000 in
theorem compressed_any (h : List Nat) (l : List UInt8) (w : World) (hh : Five h) (hl : l.length = 64) :
    Calls Try.prog 36 #[.agg (cU h), .agg (cB l)] w fun e w' => e = .returned (.agg (cU (comp h l))) ∧ Below w.heap.size w w' := by
  have hz := Try.zero80.1
  go_enter Try.func36, Try.ntmps36
  go_wp2_with (refine wp_loadA rfl _ rfl rfl (blk_b w (cB l) 62 _ _) Try.underlying62 (Try.size64 hl) ?_)
  have B1 := hideB2 (blk_a w (cU h) 47 (.cells (cB l) 62) (.cells #[.int .u32 0, .int .u32 0, .int .u32 0, .int .u32 0, .int .u32 0] 47))
  have B3 := hideB2 (blk_c w #[.int .u32 0, .int .u32 0, .int .u32 0, .int .u32 0, .int .u32 0] 47 (.cells (cU h) 47) (.cells (cB l) 62))
  have BB := hideB2 (below_a3 w (.cells (cU h) 47) (.cells (cB l) 62) (.cells #[.int .u32 0, .int .u32 0, .int .u32 0, .int .u32 0, .int .u32 0] 47))
  generalize ((w.alloc (.cells (cU h) 47)).alloc (.cells (cB l) 62)).alloc (.cells #[.int .u32 0, .int .u32 0, .int .u32 0, .int .u32 0, .int .u32 0] 47) = W1 at *
  refine (scheduled_any l _ hl).mono ?_
  rintro e w2 ⟨rfl, hb2⟩
  have C1 := hideB2 (((B1.out.later hb2).alloc (.cells (cU z80) 72)).rowOther (b' := w2.heap.size) (c' := cU (schL l 80)) (Nat.ne_of_gt (B1.out.later hb2).lt))
  have C3 := hideB2 (((B3.out.later hb2).alloc (.cells (cU z80) 72)).rowOther (b' := w2.heap.size) (c' := cU (schL l 80)) (Nat.ne_of_gt (B3.out.later hb2).lt))
  have C5 := hideB2 ((Blk.new w2 (cU z80) 72).row (c' := cU (schL l 80)))
  have hb3 : Below w.heap.size w w2 := below_then BB.out hb2
  have CB := hideB2 (below_setRow (hb3.alloc hb3.size (.cells (cU z80) 72)) hb3.size (cU (schL l 80)))
  have hws := schL_lt l 80
  have hwl := schL_len l 80
  have HS := hideB2 (show (cU z80).size = (cU (schL l 80)).size by rw [cU_size, cU_size, schL_len]; rfl)
  have HZ := hideB2 (Try.size80 hwl)
  have HC := hideB2 (show comp h l = sumUp h (rnds (schL l 80) (stOf h) 80) from rfl)
  clear B1 B3 BB hb2 hb3
  generalize schL l 80 = L at *
  have HWS := hideB2 hws
  have HWL := hideB2 hwl
  clear hws hwl
  go_wp2_with (refine wp_storeA rfl rfl _ _ rfl rfl rfl (Blk.new w2 (cU z80) 72) HZ.out HS.out (cU_one _) ?_)
  generalize hg5 : w2.heap.size = g5 at *
  generalize (w2.alloc (.cells (cU z80) 72)).setRow g5 (cU L) = W3 at *
  clear hg5 HS HZ hz
  have hc := fun j (hj : j < 5) => (C1.out.cell j).trans (cU_at h j (by rw [hh.1]; exact hj))
  have c0 := hc 0 (by omega)
  have c1 := hc 1 (by omega)
  have c2 := hc 2 (by omega)
  have c3 := hc 3 (by omega)
  have c4 := hc 4 (by omega)
  have hst : Hid (stOf h = ⟨h.getD 0 0, h.getD 1 0, h.getD 2 0, h.getD 3 0, h.getD 4 0⟩) := rfl
  have hok := hideB2 hh.ok
  clear hc
  refine wp_region_quiet_lit ?_ ?_ ?_
  · kernel_rfl
  · kernel_rfl
  repeat (go_big_quiet_step (fail))
  refine wpQuiet_nil ?_
  rintro _ ⟨nq, rfl⟩
  go_wp2
  clear c0 c1 c2 c3 c4
  have D1 := hideB2 (C1.out.drewN nq)
  have D3 := hideB2 (C3.out.drewN nq)
  have D5 := hideB2 (C5.out.drewN nq)
  have DB := hideB2 (below_drewN CB.out nq)
  clear C1 C3 C5 CB
  generalize W3.drewN nq = W4 at *
  go_loopw [6, 7, 8, 9, 10, 27] (fun sa sb sc sd se i wr => ∃ t : Nat, t ≤ 80 ∧ i = .int .i64 t ∧ sa = .int .u32 ((rnds L (stOf h) t).a : Int) ∧ sb = .int .u32 ((rnds L (stOf h) t).b : Int) ∧ sc = .int .u32 ((rnds L (stOf h) t).c : Int) ∧ sd = .int .u32 ((rnds L (stOf h) t).d : Int) ∧ se = .int .u32 ((rnds L (stOf h) t).e : Int) ∧ Blk wr w.heap.size (cU h) 47 ∧ Blk wr (w.heap.size + 1 + 1) (v5 0 0 0 0 0) 47 ∧ Blk wr g5 (cU L) 72 ∧ Below w.heap.size w wr) (fun _ _ _ _ _ i _ => 80 - (intOf i).toNat)
  case atStart => exact ⟨0, Nat.zero_le _, rfl, rfl, rfl, rfl, rfl, rfl, D1.out, D3.out, D5.out, DB.out⟩
  case round =>
    obtain ⟨t, ht, rfl, rfl, rfl, rfl, rfl, rfl, h1, h3, h5, hb⟩ := hrel
    clear D1 D3 D5 DB
    obtain ⟨k1, k2, k3, k4, k5⟩ := rnds_ok (W := L) hok.out t
    by_cases hlt : t < 80
    · have hct := (h5.cell t).trans (cU_at L t (by rw [HWL.out]; exact hlt))
      have hstep : Hid (rnds L (stOf h) (t + 1) = rnd L t (rnds L (stOf h) t)) := rfl
      have H1 := hideB2 h1
      have H3 := hideB2 h3
      have H5 := hideB2 h5
      have HB := hideB2 hb
      have hw := getD_lt (B := 4294967296) (by decide) HWS.out t
      clear h1 h3 h5 hb
      generalize rnds L (stOf h) t = s at *
      obtain ⟨a, b, c, d, e⟩ := s
      simp only at *
      have hf := fOf_lt t b c d k2 k3 k4
      have hk := kOf_lt t
      have hr := rotl_lt a 5 k1
      have hrn : Hid (rnd L t ⟨a, b, c, d, e⟩ = ⟨(rotl a 5 + fOf t b c d + e + L.getD t 0 + kOf t) % 4294967296, a, rotl b 30, c, d⟩) := rfl
      generalize hx : L.getD t 0 = x at *
      have HX := hideB2 hx
      clear hx
      go_wp2_with fail
      refine (roundParts_any t b c d _ (by omega) k2 k3 k4).mono ?_
      rintro e' w' ⟨rfl, rfl⟩
      generalize hf' : fOf t b c d = f at *
      generalize hk' : kOf t = kk at *
      have HF := hideB2 hf'
      have HK := hideB2 hk'
      clear hf' hk'
      go_wp2
      refine wp_region_quiet_lit ?_ ?_ ?_
      · kernel_rfl
      · kernel_rfl
      repeat (go_big_quiet_step ((go_at_call 41; exact Calls.quiet_of_same (rotl32_any _ 5 _ k1 (by omega)))))
      refine wpQuiet_nil ?_
      rintro _ ⟨nq2, rfl⟩
      go_wp2_with fail
      refine (rotl32_any _ 30 _ k2 (by omega)).mono ?_
      rintro e' w' ⟨rfl, rfl⟩
      go_wp2
      go_roundw
      case rel =>
        refine ⟨t + 1, by omega, by go_num, ?_, ?_, ?_, ?_, ?_, H1.out.drewN nq2, H3.out.drewN nq2, H5.out.drewN nq2, below_drewN HB.out nq2⟩
        all_goals rw [hstep.out, hrn.out]
        refine congrArg (Value.int .u32) ?_
        show _ = (((rotl a 5 + f + e + x + kk) % 4294967296 : Nat) : Int)
        omega
      case measure => simp [intOf]; omega
    · obtain rfl : t = 80 := by omega
      have hc := fun j (hj : j < 5) => (h1.cell j).trans (cU_at h j (by rw [hh.1]; exact hj))
      have c0 := hc 0 (by omega)
      have c1 := hc 1 (by omega)
      have c2 := hc 2 (by omega)
      have c3 := hc 3 (by omega)
      have c4 := hc 4 (by omega)
      have H3 := hideB2 h3
      have HB := hideB2 (below_setRow hb (show w.heap.size ≤ w.heap.size + 1 + 1 by omega))
      have hgl := getD_lt (B := 4294967296) (by decide) hh.2
      have g0 := hgl 0
      have g1 := hgl 1
      have g2 := hgl 2
      have g3 := hgl 3
      have g4 := hgl 4
      have hsum : Hid (sumUp h (rnds L (stOf h) 80) = [(h.getD 0 0 + (rnds L (stOf h) 80).a) % 4294967296, (h.getD 1 0 + (rnds L (stOf h) 80).b) % 4294967296, (h.getD 2 0 + (rnds L (stOf h) 80).c) % 4294967296, (h.getD 3 0 + (rnds L (stOf h) 80).d) % 4294967296, (h.getD 4 0 + (rnds L (stOf h) 80).e) % 4294967296]) := rfl
      clear hc hgl h1 h3 h5 hb
      generalize rnds L (stOf h) 80 = s at *
      obtain ⟨a, b, c, d, e⟩ := s
      simp only at *
      go_wp2_with (refine wp_store5 rfl rfl _ _ rfl rfl rfl H3.out ?_)
      refine bodyPost_ret (results_cell1 rfl _ _ _ rfl H3.out.row Try.underlying47 (Try.size5v _ _ _ _ _)) rfl ⟨?_, HB.out _⟩
      have ec : ∀ x y : Nat, ((x : Int) + (y : Int)) % 4294967296 = (((x + y) % 4294967296 : Nat) : Int) := by intro x y; omega
      rw [HC.out, hsum.out, ec, ec, ec, ec, ec, v5_cU]
      rfl
end Go.Proofs.Ytknpolmenfdheaa
