/-
  Chapter 4: is it a store? The specification's side.
-/
import Derived.Test.YtknpolmenfdheaaDoorGM
namespace Go.Proofs.YtknpolmenfdheaaDoor
set_option linter.unusedVariables false
set_option linter.unusedSimpArgs false
open Go.RowKit
set_option maxHeartbeats 4000000 in
theorem sStoreOk_any (v : Value) (l : List Sg) (c : Int) (w : World) (hv : SlG w v l) (hl : l.length ≤ 1048576) (ht : totG l ≤ 1099511627776) :
    Calls Tryd.prog 18 #[.agg #[v, .int .i64 c]] w fun e w' => e = .returned (.bool (storeQ l c)) ∧ Below w.heap.size w w' := by
  obtain ⟨a, c0, rfl⟩ := hv.form
  have HV := hideB2 hv
  clear hv
  generalize hQ : storeQ l c = R
  have HQ := hideB2 hQ
  clear hQ
  generalize hn : l.length = n at *
  have HN := hideB2 hn
  clear hn
  have ha := below_a1 w (.cells #[.slice a n c0, .int .i64 c] 25)
  by_cases h0 : 0 ≤ c ∧ c ≤ 60000 ∧ 1 ≤ n ∧ n ≤ 40
  · obtain ⟨h1, h2, h3, h4⟩ := h0
    have A0 := Blk.new w #[.slice a n c0, .int .i64 c] 25
    have HA := hideB2 A0
    have HA1 := hideB2 ha
    clear ha A0
    go_enter Tryd.func18, Tryd.ntmps18
    go_wp2
    generalize hW : w.alloc (.cells #[.slice a n c0, .int .i64 c] 25) = W1 at *
    clear hW
    go_loopw [3, 4] (fun x i wr => ∃ k : Nat, k ≤ n ∧ i = .int .i64 k ∧ x = .int .i64 (c - (totG (l.take k) : Int)) ∧ (totG (l.take k) : Int) ≤ c ∧ (∀ j, j < k → rowQ n j (sgAt l j) = true) ∧ Below W1.heap.size W1 wr) (fun _ i _ => n - (intOf i).toNat)
    case atStart => exact ⟨0, Nat.zero_le _, rfl, by simp [totG], by simp [totG]; exact h1, fun j hj => absurd hj (by omega), Below.refl _ _⟩
    case round =>
      obtain ⟨k, hk, rfl, rfl, hle, hall, hb⟩ := hrel
      obtain ⟨s0, s1⟩ := (HA.out.later hb).c2
      have z0 : ∀ o, (wr.alloc o).cell? ⟨w.heap.size, 0, none⟩ = some (.slice a n c0) := fun o => ((HA.out.later hb).alloc o).cell 0
      by_cases hlt : k < n
      · obtain ⟨b, rfl, hr⟩ := HV.out.row (by rw [HN.out]; omega)
        have p0 := ((hr.keep HA1.out).keep hb).dat k (by rw [HN.out]; exact hlt)
        have p1 := ((hr.keep HA1.out).keep hb).saf k (by rw [HN.out]; exact hlt)
        have hat := totG_at l k (by rw [HN.out]; exact hlt)
        have hnx := totG_next l k (by rw [HN.out]; exact hlt)
        have HBAD := hideB2 (fun h => storeQ_bad (l := l) (c := c) (k := k) (by rw [HN.out]; exact hlt) h)
        have HBIG : Hid (¬ (totG l : Int) ≤ c → storeQ l c = false) := fun h => storeQ_not fun hh => h hh.2.2.2.2.2
        have HALL := hideB2 hall
        have HBW := hideB2 hb
        clear hr hall hb
        generalize hx : sgAt l k = x at *
        have HX := hideB2 hx
        clear hx
        obtain ⟨d, s⟩ := x
        simp only at p0 p1 hat hnx
        have hds : d.size ≤ 1099511627776 := by omega
        have HNX := hideB2 hnx
        have HAT := hideB2 hat
        clear hat hnx
        generalize htk : totG (l.take k) = t at *
        clear htk
        by_cases hok : (t : Int) + (d.size : Int) ≤ c ∧ rowQ n k (d, s) = true
        · obtain ⟨g0, gq⟩ := hok
          have HOK := hideB2 gq
          obtain ⟨g1, g2, g3⟩ := rowQ_iff.1 gq
          simp only at g1 g2 g3
          clear gq
          have g0' : ¬ c - (t : Int) < (d.size : Int) := by omega
          by_cases hlast : k + 1 < n
          · obtain ⟨g4, g5⟩ := g3 hlast
            have g6 : (k : Int) + 1 < (n : Int) := by omega
            have g7 : ((d.size : Int) == 0) = false := by rw [beq_eq_false_iff_ne]; omega
            subst g5
            clear g3
            go_wp2
            refine ⟨⟨k + 1, by omega, by go_num, by rw [HNX.out]; congr 1; omega, by rw [HNX.out]; omega, fun j hj => ?_, ?_⟩, by simp [intOf]; omega⟩
            · by_cases e : j = k
              · subst e; rw [HX.out]; exact HOK.out
              · exact HALL.out j (by omega)
            · exact below_then HBW.out (below_a1 wr _)
          · have g6 : ¬ (k : Int) + 1 < (n : Int) := by omega
            clear g3
            go_wp2
            refine ⟨⟨k + 1, by omega, by go_num, by rw [HNX.out]; congr 1; omega, by rw [HNX.out]; omega, fun j hj => ?_, ?_⟩, by simp [intOf]; omega⟩
            · by_cases e : j = k
              · subst e; rw [HX.out]; exact HOK.out
              · exact HALL.out j (by omega)
            · exact below_then HBW.out (below_a1 wr _)
        · have HF := hideB2 (show false = R by
            rw [← HQ.out]
            by_cases hb1 : (t : Int) + (d.size : Int) ≤ c
            · have hq : rowQ n k (d, s) = false := by
                cases hh : rowQ n k (d, s) with
                | false => rfl
                | true => exact absurd ⟨hb1, hh⟩ hok
              refine (HBAD.out ?_).symm
              rw [HN.out]; exact hq
            · exact (HBIG.out (by have := HAT.out; omega)).symm)
          have h5 : c - (t : Int) < (d.size : Int) ∨ (¬ c - (t : Int) < (d.size : Int) ∧ s < 0) ∨ (¬ c - (t : Int) < (d.size : Int) ∧ ¬ s < 0 ∧ (d.size : Int) < s) ∨ (¬ c - (t : Int) < (d.size : Int) ∧ ¬ s < 0 ∧ ¬ (d.size : Int) < s ∧ (k : Int) + 1 < (n : Int) ∧ (d.size : Int) = 0) ∨ (¬ c - (t : Int) < (d.size : Int) ∧ ¬ s < 0 ∧ ¬ (d.size : Int) < s ∧ (k : Int) + 1 < (n : Int) ∧ ¬ (d.size : Int) = 0 ∧ ¬ s = (d.size : Int)) := by
            by_cases q1 : c - (t : Int) < (d.size : Int)
            · exact .inl q1
            · right
              have hq : ¬ (0 ≤ s ∧ s ≤ (d.size : Int) ∧ (k + 1 < n → 0 < d.size ∧ s = (d.size : Int))) := fun hh => hok ⟨by omega, rowQ_iff.2 hh⟩
              by_cases q2 : s < 0
              · exact .inl ⟨q1, q2⟩
              · right
                by_cases q3 : (d.size : Int) < s
                · exact .inl ⟨q1, q2, q3⟩
                · right
                  by_cases q4 : k + 1 < n
                  · by_cases q5 : d.size = 0
                    · exact .inl ⟨q1, q2, q3, by omega, by omega⟩
                    · exact .inr ⟨q1, q2, q3, by omega, by omega, fun hh => hq ⟨by omega, by omega, fun _ => ⟨by omega, hh⟩⟩⟩
                  · exact absurd ⟨by omega, by omega, fun h => absurd h q4⟩ hq
          clear hok HBAD HBIG HQ HX HALL
          rcases h5 with q1 | ⟨q1, q2⟩ | ⟨q1, q2, q3⟩ | ⟨q1, q2, q3, q4, q5⟩ | ⟨q1, q2, q3, q4, q5, q6⟩
          case inr.inr.inr.inl =>
            have q6 : ((d.size : Int) == 0) = true := by rw [beq_iff_eq]; exact q5
            clear q5
            go_wp2
            go_ret
            exact ⟨ret_bool HF.out.symm, below_then HA1.out (below_then HBW.out (below_a1 wr _))⟩
          case inr.inr.inr.inr =>
            have q7 : ((d.size : Int) == 0) = false := by rw [beq_eq_false_iff_ne]; exact q5
            have q8 : (s != (d.size : Int)) = true := by rw [bne_iff_ne]; exact q6
            go_wp2
            go_ret
            exact ⟨ret_bool HF.out.symm, below_then HA1.out (below_then HBW.out (below_a1 wr _))⟩
          all_goals
            go_wp2
            go_ret
            exact ⟨ret_bool HF.out.symm, below_then HA1.out (below_then HBW.out (below_a1 wr _))⟩
      · obtain rfl : k = n := by omega
        rw [List.take_of_length_le (by rw [HN.out]; exact Nat.le_refl _)] at hle
        have HF := hideB2 (show true = R by rw [← HQ.out]; exact (storeQ_iff.2 ⟨h1, h2, by rw [HN.out]; exact h3, by rw [HN.out]; exact h4, fun j hj => by rw [HN.out] at hj ⊢; exact hall j hj, hle⟩).symm)
        clear hall hle
        go_wp2
        go_ret
        exact ⟨ret_bool HF.out.symm, below_then HA1.out hb⟩
  · have HF := hideB2 (show false = R by rw [← HQ.out]; exact (storeQ_not (by rintro ⟨g1, g2, g3, g4, _⟩; rw [HN.out] at g3 g4; exact h0 ⟨g1, g2, g3, g4⟩)).symm)
    have h5 : c < 0 ∨ 0 ≤ c ∧ 60000 < c ∨ 0 ≤ c ∧ c ≤ 60000 ∧ n = 0 ∨ 0 ≤ c ∧ c ≤ 60000 ∧ 1 ≤ n ∧ 40 < n := by omega
    clear h0 HQ
    rcases h5 with g | ⟨g1, g⟩ | ⟨g1, g2, rfl⟩ | ⟨g1, g2, g3, g⟩
    all_goals
      go_enter Tryd.func18, Tryd.ntmps18
      go_wp2
      go_ret
      exact ⟨ret_bool HF.out.symm, ha⟩
end Go.Proofs.YtknpolmenfdheaaDoor
