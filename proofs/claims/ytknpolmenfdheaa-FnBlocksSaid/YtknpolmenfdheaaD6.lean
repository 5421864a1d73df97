/-
  The walks over chapter 3: five words out of a list (impl).
-/
import Derived.Test.YtknpolmenfdheaaD5
namespace Go.Proofs.Ytknpolmenfdheaa
set_option linter.unusedVariables false
set_option linter.unusedSimpArgs false
open Go.RowKit
theorem results_cell2 {fn : Func} {p u : Tmp} {ty : TypeId} (h : fn.results = #[.cell p ty, .tmp u]) (tmps : Array Value) (P : Program) (w : World) {b : Nat} {c : Array Value} {t : TypeId} {n : Nat} {e : TypeId} (hp : tmps.getD p undef = .pointer (some ⟨b, 0, none⟩)) (hB : Blk w b c t)
    (hu : P.underlying ty = some (.array n e)) (hi : (P.info? ty).map (·.size) = some c.size) : (results fn tmps).run P w = .ok (.tuple #[.agg c, tmps.getD u undef]) w := by
  have hrun := hB.loadV hu hi
  have ha : (asAddr (tmps.getD p undef)).run P w = .ok ⟨b, 0, none⟩ w := by rw [hp]; rfl
  rw [results_cell_tmp h, ha]
  show ((loadVar ty ⟨b, 0, none⟩).run P w).andThen _ = _
  rw [hrun]
  rfl
/-- The words that fiveOf hands out. -/
def fiveW (xs : List Int) : List Nat := if fiveZ xs = true then xs.map Int.toNat else [0, 0, 0, 0, 0]
theorem fiveW_nz {h : List Nat} (f : Five h) : fiveW (nz h) = h := by
  unfold fiveW
  rw [if_pos (fiveZ_of f)]
  unfold nz
  rw [List.map_map]
  conv => rhs; rw [← List.map_id h]
  apply List.map_congr_left
  intro x _
  simp
theorem fiveW_no {xs : List Int} (h : fiveZ xs = false) : fiveW xs = [0, 0, 0, 0, 0] := by unfold fiveW; rw [h]; rfl
theorem fiveW_len (xs : List Int) : (fiveW xs).length = 5 := by
  unfold fiveW
  split
  · rename_i h
    simp only [fiveZ, Bool.and_eq_true, decide_eq_true_eq] at h
    rw [List.length_map]; exact h.1
  · rfl
def tk (xs : List Int) (k : Nat) : List Nat := (xs.take k).map Int.toNat
theorem tk_len {xs : List Int} {k : Nat} (h : k ≤ xs.length) : (tk xs k).length = k := by simp [tk]; omega
theorem tk_succ {xs : List Int} {k : Nat} (h : k < xs.length) : tk xs (k + 1) = tk xs k ++ [(xs.getD k 0).toNat] := by
  unfold tk
  rw [List.take_succ_eq_append_getElem h, List.map_append, List.getD, List.getElem?_eq_getElem h]
  rfl
theorem blk2_a (w : World) (c : Array Value) (t : TypeId) (o2 : Obj) : Blk ((w.alloc (.cells c t)).alloc o2) w.heap.size c t := (Blk.new w c t).alloc o2
theorem blk2_b (w : World) (c : Array Value) (t : TypeId) (o1 : Obj) : Blk ((w.alloc o1).alloc (.cells c t)) (w.heap.size + 1) c t := by
  have := Blk.new (w.alloc o1) c t
  rwa [show (w.alloc o1).heap.size = w.heap.size + 1 by simp] at this
set_option maxHeartbeats 2000000 in
theorem fiveOf_any (b n cap : Nat) (xs : List Int) (w : World) (hr : RowZ w b xs) (hn : xs.length = n) (hm : n ≤ maxLen) :
    Calls Try.prog 24 #[.slice (some ⟨b, 0, none⟩) n cap] w fun e w' => e = .returned (.tuple #[.agg (cU (fiveW xs)), .bool (fiveZ xs)]) ∧ Below w.heap.size w w' := by
  unfold maxLen at hm
  have HBl := hideB2 hr.lt
  have HB := hideB2 (below_a2 w (.cells #[.int .u32 0, .int .u32 0, .int .u32 0, .int .u32 0, .int .u32 0] 47) (.cells #[.int .u32 0, .int .u32 0, .int .u32 0, .int .u32 0, .int .u32 0] 47))
  have H1 : Hid (Blk _ _ (v5 0 0 0 0 0) _) := blk2_a w #[.int .u32 0, .int .u32 0, .int .u32 0, .int .u32 0, .int .u32 0] 47 (.cells #[.int .u32 0, .int .u32 0, .int .u32 0, .int .u32 0, .int .u32 0] 47)
  have H2 : Hid (Blk _ _ (v5 0 0 0 0 0) _) := blk2_b w #[.int .u32 0, .int .u32 0, .int .u32 0, .int .u32 0, .int .u32 0] 47 (.cells #[.int .u32 0, .int .u32 0, .int .u32 0, .int .u32 0, .int .u32 0] 47)
  by_cases h5 : n = 5
  · subst h5
    have HR := hideB2 hr
    have HN := hideB2 hn
    clear hr hn
    go_enter Try.func24, Try.ntmps24
    go_wp2
    generalize (w.alloc (.cells #[.int .u32 0, .int .u32 0, .int .u32 0, .int .u32 0, .int .u32 0] 47)).alloc (.cells #[.int .u32 0, .int .u32 0, .int .u32 0, .int .u32 0, .int .u32 0] 47) = W0 at *
    go_loopw [10] (fun i wr => ∃ k : Nat, k ≤ 5 ∧ i = .int .i64 k ∧ (∀ j, j < k → wordQ (xs.getD j 0) = true) ∧ Blk wr w.heap.size (v5 0 0 0 0 0) 47 ∧ Blk wr (w.heap.size + 1) (cU (fillR (tk xs k) 5)) 47 ∧ Below w.heap.size w wr) (fun i _ => 5 - (intOf i).toNat)
    case atStart => exact ⟨0, by omega, rfl, fun j hj => absurd hj (by omega), H1.out, H2.out, HB.out⟩
    case round =>
      obtain ⟨k, hk, rfl, hall, h1, h2, hb⟩ := hrel
      clear H1 H2 HB
      by_cases hlt : k < 5
      · have hc : wr.cell? ⟨b, k, none⟩ = some (.int .i64 (xs.getD k 0)) := by rw [hb.cell (p := ⟨b, k, none⟩) HBl.out]; exact HR.out.cell k (by rw [HN.out]; exact hlt)
        cases hq : wordQ (xs.getD k 0) with
        | true =>
          obtain ⟨hx0, hx1⟩ := wordQ_iff.1 hq
          have htl := tk_len (xs := xs) (k := k) (by rw [HN.out]; omega)
          have hlen : (fillR (tk xs k) 5).length = 5 := fillR_len _ _ (by omega)
          have hcd := (h2.cell k).trans (cU_at _ _ (by omega))
          have hfd := h2.free k
          have hfs := fillR_set (tk xs k) 5 (xs.getD k 0).toNat (by omega)
          rw [htl, ← tk_succ (by rw [HN.out]; exact hlt)] at hfs
          have R := h2.set k (.int .u32 (((xs.getD k 0).toNat : Nat) : Int))
          rw [cU_set, ← hfs, Int.toNat_of_nonneg hx0] at R
          have HR2 := hideB2 R
          have HR1 := hideB2 (h1.other (b' := w.heap.size + 1) (by omega) k (.int .u32 (xs.getD k 0)))
          have HRB := hideB2 (hb.setCell (p := ⟨w.heap.size + 1, k, none⟩) (by simp) (.int .u32 (xs.getD k 0)))
          have HA : Hid (∀ j, j < k + 1 → wordQ (xs.getD j 0) = true) := by
            intro j hj
            by_cases e : j = k
            · subst e; exact hq
            · exact hall j (by omega)
          clear R hfs hlen htl h1 h2 hb hall
          generalize (fillR (tk xs k) 5).getD k 0 = y at *
          generalize hx : xs.getD k 0 = x at *
          clear hx
          go_wp2_with (go_at_call 39; refine (isWord_any _ _).mono ?_; rintro e w' ⟨rfl, rfl⟩)
          exact ⟨⟨k + 1, by omega, by go_num, HA.out, HR1.out, HR2.out, HRB.out⟩, by simp [intOf]; omega⟩
        | false =>
          have hbad := fiveZ_bad (by rw [HN.out]; exact hlt) hq
          have HF := hideB2 hbad
          have HW := hideB2 (fiveW_no hbad)
          have H1 := hideB2 h1
          have HRB := hideB2 (below_setRow hb (Nat.le_refl w.heap.size) (v5 0 0 0 0 0))
          clear hbad h1 h2 hb hall
          generalize xs.getD k 0 = x at *
          go_wp2_with (first | (go_at_call 39; refine (isWord_any _ _).mono ?_; rintro e w' ⟨rfl, rfl⟩) | (refine wp_store5 rfl rfl _ _ rfl rfl rfl H1.out ?_))
          refine bodyPost_ret (results_cell2 rfl _ _ _ rfl H1.out.row Try.underlying47 (Try.size5v _ _ _ _ _)) rfl ⟨?_, HRB.out⟩
          rw [HF.out, HW.out]
          rfl
      · obtain rfl : k = 5 := by omega
        have hg := fiveZ_good HN.out hall
        have HF := hideB2 hg
        have HW : Hid (fiveW xs = fillR (tk xs 5) 5) := by
          show _ = _
          unfold fiveW tk
          rw [if_pos hg, List.take_of_length_le (by rw [HN.out]; omega)]
          have := fillR_full (xs.map Int.toNat)
          rw [List.length_map, HN.out] at this
          exact this.symm
        have hlen : (fillR (tk xs 5) 5).length = 5 := fillR_len _ _ (by rw [tk_len (by rw [HN.out]; omega)]; omega)
        have HZ := hideB2 (Try.size5 hlen)
        have HS := hideB2 (show (v5 0 0 0 0 0).size = (cU (fillR (tk xs 5) 5)).size by rw [cU_size, hlen]; rfl)
        have H1 := hideB2 h1
        have H2 := hideB2 h2
        have HRB := hideB2 (below_setRow hb (Nat.le_refl w.heap.size) (cU (fillR (tk xs 5) 5)))
        clear hg hlen h1 h2 hb hall
        generalize fillR (tk xs 5) 5 = L at *
        go_wp2_with (first | (refine wp_loadA rfl _ rfl rfl H2.out Try.underlying47 HZ.out ?_) | (refine wp_storeA rfl rfl _ _ rfl rfl rfl H1.out HZ.out HS.out (cU_one _) ?_))
        refine bodyPost_ret (results_cell2 rfl _ _ _ rfl H1.out.row Try.underlying47 HZ.out) rfl ⟨?_, HRB.out⟩
        rw [HF.out, HW.out]
        rfl
  · have hne : ((n : Int) != 5) = true := by rw [bne_iff_ne]; omega
    have hbad := fiveZ_len (xs := xs) (by omega)
    have HF := hideB2 hbad
    have HW := hideB2 (fiveW_no hbad)
    clear hn hbad
    go_enter Try.func24, Try.ntmps24
    go_wp2_with (refine wp_store5 rfl rfl _ _ rfl rfl rfl H1.out ?_)
    refine bodyPost_ret (results_cell2 rfl _ _ _ rfl H1.out.row Try.underlying47 (Try.size5v _ _ _ _ _)) rfl ⟨?_, below_setRow HB.out (Nat.le_refl _) _⟩
    rw [HF.out, HW.out]
    rfl
end Go.Proofs.Ytknpolmenfdheaa
