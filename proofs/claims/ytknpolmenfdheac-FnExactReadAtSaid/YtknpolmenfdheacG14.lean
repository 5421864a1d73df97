/-
  Chapter 4: AllBytes, Used, Loose, StoreNew, ReadAt (the specification's side).
-/
import Derived.Test.YtknpolmenfdheacG3
import Derived.Test.YtknpolmenfdheacG5
namespace Go.Proofs.Ytknpolmenfdheac
set_option linter.unusedVariables false
set_option linter.unusedSimpArgs false
open Go.RowKit
set_option maxHeartbeats 4000000 in
theorem sReadAt_any (v : Value) (l : List Sg) (c seg x n : Int) (w : World) (hv : SlG w v l) (hl : l.length ≤ 1048576) (ht : totG l ≤ 1099511627776) (hxb : -9223372036854775808 ≤ x ∧ x ≤ 9223372036854775807) (hnb : -9223372036854775808 ≤ n ∧ n ≤ 9223372036854775807) :
    Calls Try.prog 15 #[.agg #[v, .int .i64 c], .int .i64 seg, .int .i64 x, .int .i64 n] w fun e w' => e = .returned (.tuple #[.string (if readQ l c seg x n = true then readB l seg x n else ⟨#[]⟩), .bool (readQ l c seg x n)]) ∧ Below w.heap.size w w' := by
  obtain ⟨a, c0, rfl⟩ := hv.form
  generalize hR : (if readQ l c seg x n = true then readB l seg x n else ⟨#[]⟩) = R
  generalize hQ : readQ l c seg x n = Q
  have HR := hideB2 hR
  have HQ := hideB2 hQ
  clear hR hQ
  generalize hm : l.length = m at *
  have HN := hideB2 hm
  clear hm
  have ha := below_a1 w (.cells #[.slice a m c0, .int .i64 c] 28)
  have A0 := Blk.new w #[.slice a m c0, .int .i64 c] 28
  have HA := hideB2 A0
  have HV := hideB2 (hv.later ha)
  clear A0 hv
  go_enter Try.func15, Try.ntmps15
  go_wp2_with fail
  refine (sStoreOk_any _ l c _ HV.out (by rw [HN.out]; exact hl) ht).mono ?_
  rintro e w1 ⟨rfl, hb1⟩
  obtain ⟨p0, p1⟩ := (HA.out.later hb1).c2
  have HB := hideB2 (below_then ha hb1)
  have HV1 := hideB2 (HV.out.later hb1)
  clear ha hb1 HV HA
  cases hq : storeQ l c with
  | false =>
    have HF := hideB2 (show false = Q by rw [← HQ.out]; unfold readQ; rw [hq]; rfl)
    have hf := HF.out
    subst hf
    have HG := hideB2 (show (⟨#[]⟩ : ByteArray) = R by rw [← HR.out, HQ.out]; rfl)
    have hg := HG.out
    subst hg
    clear hq HR HQ
    go_wp2
    go_ret2
    exact ⟨rfl, HB.out⟩
  | true =>
    obtain ⟨_, _, q1, q2, q3, _⟩ := storeQ_iff.1 hq
    rw [HN.out] at q1 q2
    have HQ2 := hideB2 (show decide (0 ≤ seg ∧ seg < (m : Int) ∧ 0 ≤ x ∧ 0 ≤ n ∧ x + n ≤ ((sgAt l seg.toNat).1.size : Int)) = Q by rw [← HQ.out]; unfold readQ; rw [hq, HN.out]; rfl)
    by_cases hs : 0 ≤ seg ∧ seg < (m : Int) ∧ 0 ≤ x ∧ 0 ≤ n
    · obtain ⟨s1, s2, s3, s4⟩ := hs
      obtain ⟨k, rfl⟩ : ∃ k : Nat, seg = (k : Int) := ⟨seg.toNat, by omega⟩
      rw [Int.toNat_natCast] at HQ2
      have hk : k < m := by omega
      obtain ⟨b, rfl, hr⟩ := HV1.out.row (by rw [HN.out]; omega)
      have d0 := hr.dat k (by rw [HN.out]; exact hk)
      have hat := totG_at l k (by rw [HN.out]; exact hk)
      have HRB := hideB2 (show readB l (k : Int) x n = (sgAt l k).1.extract x.toNat (x + n).toNat from rfl)
      clear hq q3 hr
      generalize sgAt l k = y at *
      obtain ⟨d, s⟩ := y
      simp only at d0 hat HQ2 HRB
      have hds : (d.size : Int) ≤ 1099511627776 := by omega
      clear hat
      by_cases hle : x + n ≤ (d.size : Int)
      · have HF := hideB2 (show true = Q by rw [← HQ2.out]; symm; rw [decide_eq_true_eq]; exact ⟨s1, by omega, s3, s4, hle⟩)
        have hf := HF.out
        subst hf
        have HG := hideB2 (show d.extract x.toNat (x + n).toNat = R by rw [← HR.out, HQ.out, if_pos rfl, HRB.out])
        have hg := HG.out
        subst hg
        have hnn : ¬ (d.size : Int) - x < n := by omega
        have hxx : ¬ (d.size : Int) < x := by omega
        clear HR HQ HQ2 HF HG
        go_wp2
        go_ret2
        exact ⟨rfl, HB.out⟩
      · have HF := hideB2 (show false = Q by rw [← HQ2.out]; symm; rw [decide_eq_false_iff_not]; exact fun h => hle h.2.2.2.2)
        have hf := HF.out
        subst hf
        have HG := hideB2 (show (⟨#[]⟩ : ByteArray) = R by rw [← HR.out, HQ.out]; rfl)
        have hg := HG.out
        subst hg
        have hnn : (d.size : Int) - x < n := by omega
        clear HR HQ HQ2 HF HG hle
        by_cases hxx : (d.size : Int) < x
        all_goals
          go_wp2
          go_ret2
          exact ⟨rfl, HB.out⟩
    · have HF := hideB2 (show false = Q by rw [← HQ2.out]; symm; rw [decide_eq_false_iff_not]; exact fun h => hs ⟨h.1, by omega, h.2.2.1, h.2.2.2.1⟩)
      have hf := HF.out
      subst hf
      have HG := hideB2 (show (⟨#[]⟩ : ByteArray) = R by rw [← HR.out, HQ.out]; rfl)
      have hg := HG.out
      subst hg
      have h5 : seg < 0 ∨ ¬ seg < 0 ∧ (m : Int) ≤ seg ∨ (¬ seg < 0 ∧ ¬ (m : Int) ≤ seg) ∧ x < 0 ∨ (¬ seg < 0 ∧ ¬ (m : Int) ≤ seg) ∧ ¬ x < 0 ∧ n < 0 := by omega
      clear HR HQ HQ2 HF HG hs hq q3
      rcases h5 with g | ⟨g0, g⟩ | ⟨⟨g, g0⟩, g1⟩ | ⟨⟨g, g0⟩, g1, g2⟩
      all_goals
        go_wp2
        go_ret2
        exact ⟨rfl, HB.out⟩
end Go.Proofs.Ytknpolmenfdheac
