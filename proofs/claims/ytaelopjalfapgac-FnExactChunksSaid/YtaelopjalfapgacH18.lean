/-
  Chapter 6: a body out of its chunks; the specification's side.
-/
import Derived.Test.YtaelopjalfapgacMCk
import Derived.Test.YtaelopjalfapgacW12
import Derived.Test.YtaelopjalfapgacW6
namespace Go.Proofs.Ytaelopjalfapgac
set_option linter.unusedVariables false
set_option linter.unusedSimpArgs false
open Go.RowKit
set_option maxHeartbeats 2000000 in
theorem l6upto_any (s : ByteArray) (w : World) (hs : s.size ≤ maxLen) :
    Calls Try.prog 17 #[.string s, .int .u8 59] w fun e w' => e = .returned (.string (uptoS s)) ∧ w' = w := by
  have hs' := hs
  unfold maxLen at hs'
  generalize hR : uptoS s = R
  have HR := hideB2 hR
  clear hR
  go_enter Try.func17, Try.ntmps17
  go_wp2
  go_loop [5] (fun i => ∃ k : Nat, k ≤ s.size ∧ i = .int .i64 k ∧ ∀ j, j < k → at8 s j ≠ 59) (fun i => s.size - (intOf i).toNat)
  case atStart => exact ⟨0, Nat.zero_le _, rfl, fun j hj => by omega⟩
  case round =>
    obtain ⟨k, hk, rfl, hall⟩ := hrel
    have Hall := hideB2 hall
    clear hall
    by_cases hlt : k < s.size
    · have hat : s[k] = at8 s k := at8_eq s k hlt
      by_cases hc : at8 s k = 59
      · have h59 : ((s[k].toNat : Int) == 59) = true := by rw [hat, hc]; rfl
        have HE := hideB2 (show R = s.extract 0 k by rw [← HR.out]; exact uptoS_some (idxS_of hlt hc Hall.out))
        clear hat hc
        go_wp2
        go_ret
        exact ⟨ret_str HE.out, rfl⟩
      · have h59 : ((s[k].toNat : Int) == 59) = false := by
          rw [beq_eq_false_iff_ne, hat]
          intro hh
          exact hc (UInt8.toNat_inj.1 (by have : (at8 s k).toNat = 59 := by omega
                                          rw [this]; rfl))
        have Hc := hideB2 hc
        clear hat hc
        go_wp2
        go_round
        case rel => exact ⟨k + 1, by omega, by go_num, all_succ Hall.out Hc.out⟩
        case measure => simp [intOf]; omega
    · have HE := hideB2 (show R = s by
        rw [← HR.out]
        rcases idxS_cases s with hi | ⟨i, hi, hil⟩
        · exact uptoS_none hi
        · exact absurd (idxS_some hi).2.1 (Hall.out i (by omega)))
      go_wp2
      go_ret
      exact ⟨ret_str HE.out, rfl⟩
theorem below_alloc2 {B : Nat} {w0 w : World} (h : Below B w0 w) (hB : B ≤ w0.heap.size) (o : Obj) : Below B w0 (w.alloc o) := h.alloc (Nat.le_trans hB h.size) o
set_option maxRecDepth 100000 in
set_option maxHeartbeats 8000000 in
theorem l6trailer_any (s : ByteArray) (k : Nat) (w : World) (hs : s.size ≤ maxLen) (hk : k ≤ s.size) :
    Calls Try.prog 18 #[.agg #[.string s, .int .i64 (k : Int)]] w fun e w' => e = .returned (.bool (decide (trE s 21 k = some s.size))) ∧ Below w.heap.size w w' := by
  have HB := hideB2 (below_a1 w (.cells #[.string s, .int .i64 (k : Int)] 35))
  have A1 := hideB2 (Blk.new w #[.string s, .int .i64 (k : Int)] 35)
  have HS := hideB2 hs
  generalize hT : trE s 21 k = T
  generalize hR : decide (T = some s.size) = R
  have HT := hideB2 hT
  have HR := hideB2 hR
  have HK := hideB2 hk
  clear hT hR hs hk
  go_enter Try.func18, Try.ntmps18
  go_wp2
  generalize hW : w.alloc (.cells #[.string s, .int .i64 (k : Int)] 35) = W1 at *
  clear hW
  go_loopw [3] (fun i wr => ∃ k' c : Nat, k' ≤ s.size ∧ c ≤ 21 ∧ i = .int .i64 c ∧ Hid (trE s (21 - c) k' = T) ∧ Blk wr w.heap.size #[.string s, .int .i64 (k' : Int)] 35 ∧ Below w.heap.size w wr) (fun i _ => 21 - (intOf i).toNat)
  case atStart => exact ⟨k, 0, HK.out, by omega, rfl, HT.out, A1.out, HB.out⟩
  case round =>
    obtain ⟨k', c, hk', hc, rfl, ht, hb1, hbw⟩ := hrel
    clear A1 HB HT HK
    have HB1 := hideB2 hb1
    have HBW := hideB2 hbw
    obtain ⟨p0, p1⟩ := hb1.c2
    clear hb1 hbw
    by_cases hc21 : c = 21
    · subst hc21
      have HF := hideB2 (show R = false by rw [← HR.out, ← ht.out]; rfl)
      obtain rfl := HF.out
      clear HF ht
      go_wp2
      go_ret
      exact ⟨rfl, HBW.out⟩
    · have hc20 : (c : Int) ≤ 20 := by omega
      have HTL := hideB2 (fun W => sTakeLine_ok s k' W HS.out hk')
      have HT0 := hideB2 (fun h => trE_bad (s := s) (n := 20 - c) (k := k') h)
      have HT1 := hideB2 (fun h h' => trE_end (s := s) (n := 20 - c) (k := k') h h')
      have HT2 := hideB2 (fun h h' h'' => trE_no (s := s) (n := 20 - c) (k := k') h h' h'')
      have HT3 := hideB2 (fun h h' h'' => trE_next (s := s) (n := 20 - c) (k := k') h h' h'')
      rw [show 20 - c + 1 = 21 - c by omega, ht.out] at HT0 HT1 HT2 HT3
      by_cases h1 : tlC s k' = 0
      · have hE := tlE_ok hk' h1
        have hz := lineAt_size hk'
        have hn := lenE_nil hk'
        rw [tlV_ok h1] at HTL
        change Hid (∀ W, Calls _ _ _ W fun e w' => e = .returned (.tuple #[.string (lineAt s k'), .agg #[.string s, .int .i64 ((tlE s k' : Int) + 2)], .int .i64 0]) ∧ Below W.heap.size W w') at HTL
        by_cases h2 : (300 : Int) < ((lineAt s k').size : Int)
        · have HF := hideB2 (show R = false by rw [← HR.out, HT0.out (by unfold lnQ; rw [decide_eq_false (show ¬ tlE s k' - k' ≤ 300 by omega), Bool.and_false])]; rfl)
          obtain rfl := HF.out
          clear HF HT0 HT1 HT2 HT3 ht hz hn h1
          generalize lineAt s k' = L at *
          generalize tlE s k' = E at *
          go_wp2_with (go_at_call 15; refine (HTL.out _).mono ?_; rintro e w2 ⟨rfl, hb2⟩)
          go_ret
          exact ⟨rfl, below_then (below_then HBW.out hb2) (below_a1 _ _)⟩
        · have hq : lnQ s k' = true := lnQ_iff.2 ⟨h1, by omega⟩
          have d2 : decide ((300 : Int) < ((lineAt s k').size : Int)) = false := decide_eq_false h2
          have hL : Hid ((lineAt s k').size ≤ maxLen) := by
            show (lineAt s k').size ≤ maxLen
            unfold maxLen; omega
          by_cases he : tlE s k' = k'
          · have HF := hideB2 (show R = ((k' : Int) + 2 == (s.size : Int)) by
              rw [← HR.out, HT1.out hq he]
              by_cases h : k' + 2 = s.size
              · rw [decide_eq_true (by rw [h])]; symm; rw [beq_iff_eq]; omega
              · rw [decide_eq_false (fun hh => h (Option.some.inj hh))]; symm; rw [beq_eq_false_iff_ne]; omega)
            rw [decide_eq_true he] at hn
            rw [he] at HTL
            clear HT0 HT1 HT2 HT3 ht hz h1 hE he h2
            generalize lineAt s k' = L at *
            go_wp2_with fail
            refine (HTL.out _).mono ?_
            rintro e w2 ⟨rfl, hb2⟩
            have B2 := HB1.out.later hb2
            obtain ⟨x0, x1⟩ := B2.c2
            have y0 := B2.free 0
            have y1 := B2.free 1
            have hlt := B2.lt
            go_wp2
            go_ret
            exact ⟨ret_bool HF.out, below_alloc2 (below_set2 (g := w.heap.size) (below_then HBW.out hb2) (Nat.le_refl _) _ _) (Nat.le_refl _) _⟩
          · rw [decide_eq_false he] at hn
            cases hr : readO (lineAt s k')
            · have HF := hideB2 (show R = false by rw [← HR.out, HT2.out hq he hr]; rfl)
              have HRF := hideB2 (fun W => sReadField_any (lineAt s k') W hL.out)
              rw [hr] at HRF
              obtain rfl := HF.out
              clear HF HT0 HT1 HT2 HT3 ht hz h1 hE he h2 hr
              generalize (readF (lineAt s k')).1 = fx at *
              generalize (readF (lineAt s k')).2 = fy at *
              generalize lineAt s k' = L at *
              generalize tlE s k' = E at *
              go_wp2_with fail
              refine (HTL.out _).mono ?_
              rintro e w2 ⟨rfl, hb2⟩
              have B2 := HB1.out.later hb2
              obtain ⟨x0, x1⟩ := B2.c2
              have y0 := B2.free 0
              have y1 := B2.free 1
              have hlt := B2.lt
              go_wp2_with (go_at_call 32; refine (HRF.out _).mono ?_; rintro e w3 ⟨rfl, hb3⟩)
              go_ret
              exact ⟨rfl, below_then (below_then (below_alloc2 (below_set2 (g := w.heap.size) (below_then HBW.out hb2) (Nat.le_refl _) _ _) (Nat.le_refl _) _) hb3) (below_a1 _ _)⟩
            · have HRF := hideB2 (fun W => sReadField_any (lineAt s k') W hL.out)
              rw [hr] at HRF
              have HTN := hideB2 (show trE s (20 - c) (tlE s k' + 2) = T by rw [← HT3.out hq he hr])
              have HE2 := hideB2 hE
              clear HT0 HT1 HT2 HT3 ht hz h1 hE he h2 hr
              generalize (readF (lineAt s k')).1 = fx at *
              generalize (readF (lineAt s k')).2 = fy at *
              generalize lineAt s k' = L at *
              generalize tlE s k' = E at *
              go_wp2_with fail
              refine (HTL.out _).mono ?_
              rintro e w2 ⟨rfl, hb2⟩
              have B2 := HB1.out.later hb2
              obtain ⟨x0, x1⟩ := B2.c2
              have y0 := B2.free 0
              have y1 := B2.free 1
              have hlt := B2.lt
              have B3 := (B2.set2 (.string s) (.int .i64 ((E : Int) + 2))).alloc (.cells #[.string s, .int .i64 ((E : Int) + 2)] 35)
              go_wp2_with (go_at_call 32; refine (HRF.out _).mono ?_; rintro e w3 ⟨rfl, hb3⟩)
              refine ⟨⟨E + 2, c + 1, HE2.out, by omega, by go_num, ?_, ?_, ?_⟩, by simp [intOf]; omega⟩
              · show trE s (21 - (c + 1)) (E + 2) = T
                rw [show 21 - (c + 1) = 20 - c by omega]; exact HTN.out
              · rw [show ((E + 2 : Nat) : Int) = (E : Int) + 2 by omega]
                exact (B3.later hb3).alloc _
              · exact below_then (below_then (below_alloc2 (below_set2 (g := w.heap.size) (below_then HBW.out hb2) (Nat.le_refl _) _ _) (Nat.le_refl _) _) hb3) (below_a1 _ _)
      · obtain ⟨cc, hcc, hv⟩ := tlV_not h1
        rw [hv] at HTL
        unfold curZ at HTL
        have HF := hideB2 (show R = false by rw [← HR.out, HT0.out (lnQ_no h1)]; rfl)
        obtain rfl := HF.out
        clear HF HT0 HT1 HT2 HT3 ht h1 hv
        go_wp2_with (go_at_call 15; refine (HTL.out _).mono ?_; rintro e w2 ⟨rfl, hb2⟩)
        go_ret
        exact ⟨rfl, below_then (below_then HBW.out hb2) (below_a1 _ _)⟩
end Go.Proofs.Ytaelopjalfapgac
