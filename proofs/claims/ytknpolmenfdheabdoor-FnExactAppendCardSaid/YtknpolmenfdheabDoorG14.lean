/-
  Chapter 4: AllBytes, Used, Loose, StoreNew, ReadAt (the specification's side).
-/
import Derived.Test.YtknpolmenfdheabDoorG3
import Derived.Test.YtknpolmenfdheabDoorG5
namespace Go.Proofs.YtknpolmenfdheabDoor
set_option linter.unusedVariables false
set_option linter.unusedSimpArgs false
open Go.RowKit
set_option maxHeartbeats 2000000 in
theorem sAllBytes_any (v : Value) (l : List Sg) (c : Int) (w : World) (hv : SlG w v l) (hl : l.length ≤ 1048576) (ht : totG l ≤ 1099511627776) :
    Calls Tryd.prog 22 #[.agg #[v, .int .i64 c]] w fun e w' => e = .returned (.string (if storeQ l c = true then catB l else ⟨#[]⟩)) ∧ Below w.heap.size w w' := by
  obtain ⟨a, c0, rfl⟩ := hv.form
  generalize hR : (if storeQ l c = true then catB l else ⟨#[]⟩) = R
  have HR := hideB2 hR
  clear hR
  generalize hn : l.length = n at *
  have HN := hideB2 hn
  clear hn
  have ha := below_a1 w (.cells #[.slice a n c0, .int .i64 c] 28)
  have A0 := Blk.new w #[.slice a n c0, .int .i64 c] 28
  have HA := hideB2 A0
  have HV := hideB2 (hv.later ha)
  clear A0 hv
  go_enter Tryd.func22, Tryd.ntmps22
  go_wp2_with fail
  refine (sStoreOk_any _ l c _ HV.out (by rw [HN.out]; exact hl) ht).mono ?_
  rintro e w1 ⟨rfl, hb1⟩
  obtain ⟨p0, p1⟩ := (HA.out.later hb1).c2
  have HB := hideB2 (below_then ha hb1)
  have HV1 := hideB2 (HV.out.later hb1)
  have HA1 := hideB2 (HA.out.later hb1)
  clear ha hb1 HV HA
  cases hq : storeQ l c with
  | false =>
    have HF := hideB2 (show (⟨#[]⟩ : ByteArray) = R by rw [← HR.out, hq]; rfl)
    clear hq HR
    have hf := HF.out
    subst hf
    go_wp2
    go_ret
    exact ⟨rfl, HB.out⟩
  | true =>
    have HF := hideB2 (show catB l = R by rw [← HR.out, hq]; rfl)
    clear hq HR
    go_wp2
    go_loopw [3, 4] (fun x i wr => ∃ k : Nat, k ≤ n ∧ i = .int .i64 k ∧ Buf w1 wr x (catL (l.take k))) (fun _ i _ => n - (intOf i).toNat)
    case atStart => exact ⟨0, Nat.zero_le _, rfl, Buf.start w1⟩
    case round =>
      obtain ⟨k, hk, rfl, hbuf⟩ := hrel
      have hb := hbuf.below
      obtain ⟨s0, s1⟩ := (HA1.out.later hb).c2
      by_cases hlt : k < n
      · obtain ⟨b, rfl, hr⟩ := HV1.out.row (by rw [HN.out]; omega)
        have p0 := (hr.keep hb).dat k (by rw [HN.out]; exact hlt)
        have p1 := (hr.keep hb).saf k (by rw [HN.out]; exact hlt)
        have hat := totG_at l k (by rw [HN.out]; exact hlt)
        have hnx := catL_next l k (by rw [HN.out]; exact hlt)
        have hcl := catL_len (l.take k)
        clear hr
        generalize sgAt l k = x at *
        obtain ⟨d, s⟩ := x
        simp only at p0 p1 hat hnx
        have HNX := hideB2 hnx
        have HLE := hideB2 (show (catL (l.take k)).length + d.size ≤ 1099511627776 by omega)
        have HBF := hideB2 hbuf
        obtain ⟨a1, c1, rfl⟩ := hbuf.form
        clear hnx hat hcl hbuf hb
        generalize catL (l.take k) = t at *
        go_wp2_with (refine wp_appS rfl _ _ rfl _ t rfl HBF.out d rfl HLE.out ?_; intro v2 W2 hbuf2 hB2; have HBF2 := hideB2 hbuf2; have HB2 := hideB2 hB2; clear hbuf2 hB2)
        exact ⟨⟨k + 1, by omega, by go_num, by rw [HNX.out]; exact HBF2.out⟩, by simp [intOf]; omega⟩
      · obtain rfl : k = n := by omega
        rw [List.take_of_length_le (by rw [HN.out]; exact Nat.le_refl _)] at hbuf
        have hcv := hbuf.text
        have HBB := hideB2 (below_then HB.out hbuf.below)
        have hf := HF.out
        unfold catB at hf
        obtain ⟨a1, c1, rfl⟩ := hbuf.form
        clear hbuf HF hb
        rw [hf] at hcv
        go_wp2
        go_ret
        exact ⟨rfl, HBB.out⟩
set_option maxHeartbeats 1000000 in
theorem sUsed_any (v : Value) (l : List Sg) (c : Int) (w : World) (hv : SlG w v l) (hl : l.length ≤ 1048576) (ht : totG l ≤ 1099511627776) :
    Calls Tryd.prog 13 #[.agg #[v, .int .i64 c]] w fun e w' => e = .returned (.int .i64 (if storeQ l c = true then (totG l : Int) else -1)) ∧ Below w.heap.size w w' := by
  generalize hR : (if storeQ l c = true then (totG l : Int) else -1) = R
  have HR := hideB2 hR
  clear hR
  have ha := below_a1 w (.cells #[v, .int .i64 c] 28)
  have A0 := Blk.new w #[v, .int .i64 c] 28
  have HA := hideB2 A0
  have HV := hideB2 (hv.later ha)
  have o1 := hv.one
  clear A0
  go_enter Tryd.func13, Tryd.ntmps13
  go_wp2_with fail
  refine (sStoreOk_any v l c _ HV.out hl ht).mono ?_
  rintro e w1 ⟨rfl, hb1⟩
  obtain ⟨p0, p1⟩ := (HA.out.later hb1).c2
  have HB := hideB2 (below_then ha hb1)
  have HV1 := hideB2 (HV.out.later hb1)
  clear ha hb1 hv HV
  cases hq : storeQ l c with
  | false =>
    have HF := hideB2 (show -1 = R by rw [← HR.out, hq]; rfl)
    clear hq
    go_wp2
    go_ret
    exact ⟨ret_int HF.out.symm, HB.out⟩
  | true =>
    have HF := hideB2 (show (totG l : Int) = R by rw [← HR.out, hq]; rfl)
    have HQT := hideB2 hq
    clear hq
    go_wp2_with fail
    refine (sAllBytes_any v l c _ HV1.out hl ht).mono ?_
    rintro e w2 ⟨rfl, hb2⟩
    rw [if_pos HQT.out]
    have hcs := catB_size l
    have HCS := hideB2 hcs
    clear hcs
    generalize catB l = d at *
    have hds : (d.size : Int) ≤ 1099511627776 := by rw [HCS.out]; omega
    have HB2 := hideB2 (below_then HB.out hb2)
    clear hb2
    go_wp2
    go_ret
    exact ⟨ret_int (by rw [HCS.out]; exact HF.out.symm), HB2.out⟩
end Go.Proofs.YtknpolmenfdheabDoor
