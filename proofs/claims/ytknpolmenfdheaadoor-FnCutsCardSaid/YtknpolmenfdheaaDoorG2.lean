/-
  Chapter 4: is it a store? The program's side.
-/
import Derived.Test.YtknpolmenfdheaaDoorGM
namespace Go.Proofs.YtknpolmenfdheaaDoor
set_option linter.unusedVariables false
set_option linter.unusedSimpArgs false
open Go.RowKit
set_option maxHeartbeats 2000000 in
theorem StoreOk_any (v : Value) (l : List Sg) (c : Int) (w : World) (hv : SlG w v l) (hl : l.length ≤ 1048576) (ht : totG l ≤ 1099511627776) :
    Calls Tryd.prog 15 #[.agg #[v, .int .i64 c]] w fun e w' => e = .returned (.bool (storeQ l c)) ∧ Below w.heap.size w w' := by
  obtain ⟨a, c0, rfl⟩ := hv.form
  have HV := hideB2 hv
  clear hv
  generalize hQ : storeQ l c = R
  have HQ := hideB2 hQ
  clear hQ
  generalize hn : l.length = n at *
  have HN := hideB2 hn
  clear hn
  have ha := below_a1 w (.cells #[.slice a n c0, .int .i64 c] 25)
  by_cases h0 : 0 ≤ c ∧ c ≤ 60000
  · have w0 : withinB c 0 60000 = true := within_iff.2 h0
    by_cases h1 : 1 ≤ n ∧ n ≤ 40
    · have w1 : withinB (n : Int) 1 40 = true := within_iff.2 (by omega)
      go_enter Tryd.func15, Tryd.ntmps15
      go_wp2_with (go_at_call 41; refine (within_any _ _ _ _).mono ?_; rintro e w' ⟨rfl, rfl⟩)
      have A0 := Blk.new w #[.slice a n c0, .int .i64 c] 25
      have HA := hideB2 A0
      have HA1 := hideB2 ha
      clear ha A0
      generalize hW : w.alloc (.cells #[.slice a n c0, .int .i64 c] 25) = W1 at *
      clear hW
      go_loopw [24] (fun i wr => ∃ k : Nat, k ≤ n ∧ i = .int .i64 k ∧ (∀ j, j < k → rowQ n j (sgAt l j) = true) ∧ Below W1.heap.size W1 wr) (fun i _ => n - (intOf i).toNat)
      case atStart => exact ⟨0, Nat.zero_le _, rfl, fun j hj => absurd hj (by omega), Below.refl _ _⟩
      case round =>
        obtain ⟨k, hk, rfl, hall, hb⟩ := hrel
        by_cases hlt : k < n
        · obtain ⟨b, rfl, hr⟩ := HV.out.row (by rw [HN.out]; omega)
          have p0 := ((hr.keep HA1.out).keep hb).dat k (by rw [HN.out]; exact hlt)
          have p1 := ((hr.keep HA1.out).keep hb).saf k (by rw [HN.out]; exact hlt)
          have hat := totG_at l k (by rw [HN.out]; exact hlt)
          have HBAD := hideB2 (fun h => storeQ_bad (l := l) (c := c) (k := k) (by rw [HN.out]; exact hlt) h)
          have HALL := hideB2 hall
          have HBW := hideB2 hb
          clear hr hall hb
          generalize hx : sgAt l k = x at *
          have HX := hideB2 hx
          clear hx
          obtain ⟨d, s⟩ := x
          simp only at p0 p1 hat
          have hds : d.size ≤ 1099511627776 := by omega
          clear hat
          by_cases hs : 0 ≤ s ∧ s ≤ (d.size : Int)
          · have w2 : withinB s 0 (d.size : Int) = true := within_iff.2 hs
            by_cases hlast : k + 1 < n
            · have hi : (k : Int) < (n : Int) - 1 := by omega
              by_cases hz : d.size = 0
              · have hde : d = ⟨#[]⟩ := size_nil hz
                have HF := hideB2 (show false = R by rw [← HQ.out]; refine (HBAD.out ?_).symm; rw [HN.out]; exact rowQ_not (by rintro ⟨_, _, g3⟩; have := (g3 hlast).1; simp only at this; omega))
                clear HBAD HX
                obtain rfl : s = 0 := by omega
                have w3 : withinB 0 0 0 = true := rfl
                subst hde
                go_wp2_with (go_at_call 41; refine (within_any _ _ _ _).mono ?_; rintro e w' ⟨rfl, rfl⟩)
                go_ret
                exact ⟨ret_bool HF.out.symm, below_then HA1.out (below_then HBW.out (below_a1 wr _))⟩
              · have hde : (d.toList == []) = false := toList_ne hz
                by_cases he : s = (d.size : Int)
                · have HOK := hideB2 (show rowQ n k (d, s) = true from rowQ_iff.2 ⟨hs.1, hs.2, fun _ => ⟨Nat.pos_of_ne_zero hz, he⟩⟩)
                  clear HBAD
                  subst he
                  go_wp2_with (first | (go_at_call 41; refine (within_any _ _ _ _).mono ?_; rintro e w' ⟨rfl, rfl⟩) | (go_at_call 43; refine (loose_any d _ _ hs.1 hs.2 (by unfold maxLen; omega)).mono ?_; rintro e w' ⟨rfl, hbl⟩))
                  refine ⟨⟨k + 1, by omega, by go_num, fun j hj => ?_, ?_⟩, by simp [intOf]; omega⟩
                  · by_cases e : j = k
                    · subst e; rw [HX.out]; exact HOK.out
                    · exact HALL.out j (by omega)
                  · exact below_then HBW.out (below_then (below_a1 wr _) hbl)
                · have hle : (0 : Int) < (d.size : Int) - s := by omega
                  have HF := hideB2 (show false = R by rw [← HQ.out]; refine (HBAD.out ?_).symm; rw [HN.out]; exact rowQ_not (by rintro ⟨_, _, g3⟩; exact he (g3 hlast).2))
                  go_wp2_with (first | (go_at_call 41; refine (within_any _ _ _ _).mono ?_; rintro e w' ⟨rfl, rfl⟩) | (go_at_call 43; refine (loose_any d s _ hs.1 hs.2 (by unfold maxLen; omega)).mono ?_; rintro e w' ⟨rfl, hbl⟩))
                  go_ret
                  exact ⟨ret_bool HF.out.symm, below_then HA1.out (below_then HBW.out (below_then (below_a1 wr _) hbl))⟩
            · have hi : ¬ (k : Int) < (n : Int) - 1 := by omega
              have HOK := hideB2 (show rowQ n k (d, s) = true from rowQ_iff.2 ⟨hs.1, hs.2, fun h => absurd h hlast⟩)
              go_wp2_with (go_at_call 41; refine (within_any _ _ _ _).mono ?_; rintro e w' ⟨rfl, rfl⟩)
              refine ⟨⟨k + 1, by omega, by go_num, fun j hj => ?_, ?_⟩, by simp [intOf]; omega⟩
              · by_cases e : j = k
                · subst e; rw [HX.out]; exact HOK.out
                · exact HALL.out j (by omega)
              · exact HBW.out.trans ((below_a1 wr _).mono HBW.out.size)
          · have w2 : withinB s 0 (d.size : Int) = false := by cases hh : withinB s 0 (d.size : Int) with | false => rfl | true => exact absurd (within_iff.1 hh) hs
            have HF := hideB2 (show false = R by rw [← HQ.out]; refine (HBAD.out ?_).symm; rw [HN.out]; exact rowQ_not (by rintro ⟨g1, g2, _⟩; exact hs ⟨g1, g2⟩))
            go_wp2_with (go_at_call 41; refine (within_any _ _ _ _).mono ?_; rintro e w' ⟨rfl, rfl⟩)
            go_ret
            exact ⟨ret_bool HF.out.symm, below_then HA1.out (below_then HBW.out (below_a1 wr _))⟩
        · obtain rfl : k = n := by omega
          have HS := hideB2 (show storeQ l c = decide ((totG l : Int) ≤ c) by
            unfold storeQ
            refine decide_eq_decide.2 ⟨fun h => h.2.2.2.2.2, fun h => ⟨h0.1, h0.2, by rw [HN.out]; exact h1.1, by rw [HN.out]; exact h1.2, fun j hj => by rw [HN.out] at hj ⊢; exact hall j hj, h⟩⟩)
          obtain ⟨p0, p1⟩ := (HA.out.later hb).c2
          have hf := (HA.out.later hb).free 0
          have HBW := hideB2 hb
          clear hall hb
          have g0 := fun V => grw_some p0 V
          have g1 := fun V => grw_some p1 V
          have HSZ : Hid (∀ V : Gr wr, SlG (grw wr V) (.slice a k c0) l) := fun V => ((HV.out.later HA1.out).later HBW.out).later (grw_below wr V)
          clear p0 p1 hf
          go_wp2
          refine wp_region_grow ?_ ?_ ?_
          · kernel_rfl
          · kernel_rfl
          · intro hne
            repeat (go_big_quiet_step ((go_at_call 44; exact grow_call (size_any _ l c _ (HSZ.out _) (by rw [HN.out]; omega) ht))))
            refine wpQuiet_nil ?_
            rintro _ ⟨V, rfl⟩
            have hbb := hideB2 (below_then (below_then HA1.out HBW.out) (grw_below wr V))
            go_wp2
            go_ret
            exact ⟨ret_bool (by rw [← HQ.out]; exact HS.out), hbb.out⟩
    · have w1 : withinB (n : Int) 1 40 = false := by cases hh : withinB (n : Int) 1 40 with | false => rfl | true => exact absurd (within_iff.1 hh) (by omega)
      have HF := hideB2 (show false = R by rw [← HQ.out]; exact (storeQ_not (by rintro ⟨_, _, g1, g2, _⟩; rw [HN.out] at g1 g2; exact h1 ⟨g1, g2⟩)).symm)
      go_enter Tryd.func15, Tryd.ntmps15
      go_wp2_with (go_at_call 41; refine (within_any _ _ _ _).mono ?_; rintro e w' ⟨rfl, rfl⟩)
      go_ret
      exact ⟨ret_bool HF.out.symm, ha⟩
  · have w0 : withinB c 0 60000 = false := by cases hh : withinB c 0 60000 with | false => rfl | true => exact absurd (within_iff.1 hh) h0
    have HF := hideB2 (show false = R by rw [← HQ.out]; exact (storeQ_not (by rintro ⟨g1, g2, _⟩; exact h0 ⟨g1, g2⟩)).symm)
    go_enter Tryd.func15, Tryd.ntmps15
    go_wp2_with (go_at_call 41; refine (within_any _ _ _ _).mono ?_; rintro e w' ⟨rfl, rfl⟩)
    go_ret
    exact ⟨ret_bool HF.out.symm, ha⟩
end Go.Proofs.YtknpolmenfdheaaDoor
