/-
  Chapter 6: Chunks; the specification's side.
-/
import Derived.Test.YtaelopjalfapgacH18
namespace Go.Proofs.Ytaelopjalfapgac
set_option linter.unusedVariables false
set_option linter.unusedSimpArgs false
open Go.RowKit
theorem eqB_crlf2 {s : ByteArray} : eqB s ⟨#[13, 10]⟩ = (s.toList == [13, 10]) := by unfold eqB; rw [ByteArray.toList_eq ⟨#[13, 10]⟩]
def lenOf2 (v : Value) : Nat :=
  match v with
  | .string s => s.size
  | _ => 0
theorem lenOf2_string (s : ByteArray) : lenOf2 (.string s) = s.size := rfl
theorem size_app2 (a b : ByteArray) : (a ++ b).size = a.size + b.size := by
  have : (a ++ b).data.toList = a.data.toList ++ b.data.toList := Go.Joins.data_append a b
  rw [← len_data, this, List.length_append, len_data, len_data]
theorem tnOk_no {s : ByteArray} {k m : Nat} (h : ¬ k + m ≤ s.size) : tnOk s (k : Int) (m : Int) = false := by
  unfold tnOk
  rw [show decide ((m : Int) ≤ (s.size : Int) - (k : Int)) = false from decide_eq_false (by omega), Bool.and_false]
set_option maxRecDepth 100000 in
set_option maxHeartbeats 16000000 in
theorem sChunks_any (s : ByteArray) (w : World) (hs : s.size ≤ maxLen) :
    Calls Try.prog 6 #[.string s] w fun e w' => e = .returned (.tuple #[.string (exB (ckX s)), .int .i64 (exC (ckX s))]) ∧ Below w.heap.size w w' := by
  have HB := hideB2 (below_a1 w (.cells #[.string s, .int .i64 0] 35))
  have A1 := hideB2 (Blk.new w #[.string s, .int .i64 0] 35)
  have HS := hideB2 hs
  generalize hX : ckX s = X
  have HX := hideB2 hX
  clear hs hX
  go_enter Try.func6, Try.ntmps6
  go_wp2
  generalize hW : w.alloc (.cells #[.string s, .int .i64 0] 35) = W1 at *
  clear hW
  go_loopw [5] (fun o wr => ∃ (n k : Nat) (body : ByteArray), k ≤ s.size ∧ Hid (601 ≤ n + body.size) ∧ body.size ≤ 600 ∧ o = .string body ∧ Hid (ckR s n k body = X) ∧ Blk wr w.heap.size #[.string s, .int .i64 (k : Int)] 35 ∧ Below w.heap.size w wr) (fun o _ => 601 - lenOf2 o)
  case atStart => exact ⟨601, 0, ⟨#[]⟩, Nat.zero_le _, (show 601 ≤ 601 + 0 by omega), Nat.zero_le _, rfl, HX.out, A1.out, HB.out⟩
  case round =>
    obtain ⟨n, k, body, hk, hn, hbo, rfl, hx, hb1, hbw⟩ := hrel
    clear A1 HB HX
    obtain ⟨m, rfl⟩ : ∃ m, n = m + 1 := ⟨n - 1, by have := hn.out; omega⟩
    have HB1 := hideB2 hb1
    have HBW := hideB2 hbw
    obtain ⟨p0, p1⟩ := hb1.c2
    clear hb1 hbw
    have HTL := hideB2 (fun W => sTakeLine_ok s k W HS.out hk)
    by_cases h1 : tlC s k = 0
    · have hE := tlE_ok hk h1
      have hz := lineAt_size hk
      rw [tlV_ok h1] at HTL
      change Hid (∀ W, Calls _ _ _ W fun e w' => e = .returned (.tuple #[.string (lineAt s k), .agg #[.string s, .int .i64 ((tlE s k : Int) + 2)], .int .i64 0]) ∧ Below W.heap.size W w') at HTL
      by_cases h2 : (300 : Int) < ((lineAt s k).size : Int)
      · obtain rfl : X = .error 400 := by rw [← hx.out]; exact ck_bad1 (by unfold lnQ; rw [decide_eq_false (show ¬ tlE s k - k ≤ 300 by omega), Bool.and_false])
        clear hx hz h1
        generalize lineAt s k = L at *
        generalize tlE s k = E at *
        go_wp2_with (go_at_call 15; refine (HTL.out _).mono ?_; rintro e w2 ⟨rfl, hb2⟩)
        go_ret2
        exact ⟨rfl, below_then (below_then HBW.out hb2) (below_a1 _ _)⟩
      · have hq : lnQ s k = true := lnQ_iff.2 ⟨h1, by omega⟩
        have d2 : decide ((300 : Int) < ((lineAt s k).size : Int)) = false := decide_eq_false h2
        have hL : (lineAt s k).size ≤ maxLen := by unfold maxLen; omega
        have HU := hideB2 (fun W => l6upto_any (lineAt s k) W hL)
        have HH := hideB2 (fun W => sReadHex_any (uptoS (lineAt s k)) W (Nat.le_trans (uptoS_size _) hL))
        cases h3 : rhexOk (uptoS (lineAt s k))
        · obtain rfl : X = .error 400 := by rw [← hx.out]; exact ck_bad2 hq h3
          rw [h3] at HH
          clear hx hz h1 hq h3 hL h2
          generalize uptoS (lineAt s k) = U at *
          generalize rhexN U = N at *
          generalize lineAt s k = L at *
          generalize tlE s k = E at *
          go_wp2_with (first | (go_at_call 15; refine (HTL.out _).mono ?_; rintro e w2 ⟨rfl, hb2⟩) | (go_at_call 17; refine (HU.out _).mono ?_; rintro e w3 ⟨rfl, rfl⟩) | (go_at_call 16; refine (HH.out _).mono ?_; rintro e w4 ⟨rfl, rfl⟩))
          go_ret2
          exact ⟨rfl, below_then (below_then HBW.out hb2) (below_a1 _ _)⟩
        · have hbd := rhexN_bd (uptoS (lineAt s k))
          obtain ⟨z, hzz⟩ := Int.eq_ofNat_of_zero_le hbd.1
          have K3 := hideB2 (fun h => ck_bad3 (s := s) (n := m) (k := k) (body := body) hq h3 h)
          have K4 := hideB2 (fun h h' => ck_end (s := s) (n := m) (k := k) (body := body) hq h3 h h')
          have K5 := hideB2 (fun h h5 h' => ck_bad4 (s := s) (n := m) (k := k) (z := z) (body := body) hq h3 h hzz h5 h')
          have K6 := hideB2 (fun h h5 h' => ck_next (s := s) (n := m) (k := k) (z := z) (body := body) hq h3 h hzz h5 h')
          have HT := hideB2 (fun W => l6trailer_any s (tlE s k + 2) W HS.out hE)
          rw [h3] at HH
          rw [hzz] at HH K3 K4 K5 K6 hbd
          clear hz h1 hq h3 hL h2 hzz
          generalize uptoS (lineAt s k) = U at *
          generalize lineAt s k = L at *
          have hEc : (tlE s k : Int) + 2 = ((tlE s k + 2 : Nat) : Int) := by omega
          rw [hEc] at HTL
          clear hEc
          generalize tlE s k + 2 = E2 at *
          have HTN := hideB2 (fun W => sTakeN_any s (E2 : Int) (z : Int) W HS.out (by omega))
          by_cases h4 : (600 : Int) - (body.size : Int) < (z : Int)
          · obtain rfl : X = .error 413 := by rw [← hx.out]; exact K3.out (by omega)
            clear hx K3 K4 K5 K6 HT HTN
            go_wp2_with (first | (go_at_call 15; refine (HTL.out _).mono ?_; rintro e w2 ⟨rfl, hb2⟩) | (go_at_call 17; refine (HU.out _).mono ?_; rintro e w3 ⟨rfl, rfl⟩) | (go_at_call 16; refine (HH.out _).mono ?_; rintro e w4 ⟨rfl, rfl⟩))
            go_ret2
            exact ⟨rfl, below_then (below_then HBW.out hb2) (below_a1 _ _)⟩
          · have d4 : decide ((600 : Int) - (body.size : Int) < (z : Int)) = false := decide_eq_false h4
            clear K3
            by_cases hz0 : z = 0
            · subst hz0
              have HKE := hideB2 (hx.out.symm.trans (K4.out (by omega) rfl))
              clear K4 K5 K6 hx HTN
              by_cases hT : trE s 21 E2 = some s.size
              · rw [decide_eq_true hT] at HT
                obtain rfl : X = .ok body := by rw [HKE.out]; exact if_pos hT
                clear HKE hT
                go_wp2_with (first | (go_at_call 15; refine (HTL.out _).mono ?_; rintro e w2 ⟨rfl, hb2⟩) | (go_at_call 17; refine (HU.out _).mono ?_; rintro e w3 ⟨rfl, rfl⟩) | (go_at_call 16; refine (HH.out _).mono ?_; rintro e w4 ⟨rfl, rfl⟩) | (go_at_call 18; refine (HT.out _).mono ?_; rintro e w5 ⟨rfl, hb5⟩))
                go_ret2
                exact ⟨rfl, below_then (below_then (below_then HBW.out hb2) (below_a1 _ _)) hb5⟩
              · rw [decide_eq_false hT] at HT
                obtain rfl : X = .error 400 := by rw [HKE.out]; exact if_neg hT
                clear HKE hT
                go_wp2_with (first | (go_at_call 15; refine (HTL.out _).mono ?_; rintro e w2 ⟨rfl, hb2⟩) | (go_at_call 17; refine (HU.out _).mono ?_; rintro e w3 ⟨rfl, rfl⟩) | (go_at_call 16; refine (HH.out _).mono ?_; rintro e w4 ⟨rfl, rfl⟩) | (go_at_call 18; refine (HT.out _).mono ?_; rintro e w5 ⟨rfl, hb5⟩))
                go_ret2
                exact ⟨rfl, below_then (below_then (below_then HBW.out hb2) (below_a1 _ _)) hb5⟩
            · have hz1 : ((z : Int) == 0) = false := beq_eq_false_iff_ne.2 (by omega)
              clear K4 HT
              by_cases h6 : E2 + z ≤ s.size
              · rw [tnV_yes h6] at HTN
                have HT2 := hideB2 (fun W => sTakeN_any s ((E2 + z : Nat) : Int) ((2 : Nat) : Int) W HS.out (by omega))
                by_cases h7 : E2 + z + 2 ≤ s.size
                · rw [tnV_yes (show (E2 + z) + 2 ≤ s.size by omega)] at HT2
                  rw [show ((E2 + z : Nat) : Int) = (E2 : Int) + (z : Int) by omega, show ((2 : Nat) : Int) = 2 from rfl] at HT2
                  cases h8 : eqB (s.extract (E2 + z) (E2 + z + 2)) ⟨#[13, 10]⟩
                  · obtain rfl : X = .error 400 := by rw [← hx.out]; exact K5.out (by omega) hz0 (by unfold datQ; rw [h8, Bool.and_false])
                    rw [eqB_crlf2] at h8
                    clear K5 K6 hx h6 h7
                    generalize s.extract (E2 + z) (E2 + z + 2) = Q at *
                    generalize s.extract E2 (E2 + z) = P at *
                    go_wp2_with fail
                    refine (HTL.out _).mono ?_
                    rintro e w2 ⟨rfl, hb2⟩
                    go_wp2_with fail
                    refine (HU.out _).mono ?_
                    rintro e w3 ⟨rfl, hw3⟩
                    rw [hw3]
                    go_wp2_with fail
                    refine (HH.out _).mono ?_
                    rintro e w4 ⟨rfl, hw4⟩
                    rw [hw4]
                    clear hw3 hw4
                    have D2 := hideB2 ((HB1.out.later hb2).alloc (.cells #[.string s, .int .i64 (E2 : Int)] 35))
                    have hB2 := below_then (below_then HBW.out hb2) (below_a1 _ (.cells #[.string s, .int .i64 (E2 : Int)] 35))
                    go_wp2_with fail
                    refine (HTN.out _).mono ?_
                    rintro e w5 ⟨rfl, hb5⟩
                    have D5 := hideB2 ((D2.out.later hb5).alloc (.cells #[.string s, .int .i64 ((E2 : Int) + (z : Int))] 35))
                    have hB5 := below_then (below_then hB2 hb5) (below_a1 _ (.cells #[.string s, .int .i64 ((E2 : Int) + (z : Int))] 35))
                    go_wp2_with fail
                    refine (HT2.out _).mono ?_
                    rintro e w6 ⟨rfl, hb6⟩
                    have B6 := D5.out.later hb6
                    have hB6 := below_then hB5 hb6
                    obtain ⟨x0, x1⟩ := B6.c2
                    have y0 := B6.free 0
                    have y1 := B6.free 1
                    have hlt6 := B6.lt
                    clear hb2 hB2 hb5 hB5 hb6 D2 D5
                    go_wp2
                    go_ret2
                    exact ⟨rfl, below_then hB6 (below_a1 _ _)⟩
                  · have HNX := hideB2 ((K6.out (by omega) hz0 (by unfold datQ; rw [decide_eq_true h7, h8]; rfl)).symm.trans hx.out)
                    rw [eqB_crlf2] at h8
                    have hps : (s.extract E2 (E2 + z)).size = z := by rw [ByteArray.size_extract]; omega
                    have HAP := hideB2 (size_app2 body (s.extract E2 (E2 + z)))
                    have HN := hn
                    clear K5 K6 hx h6 hn
                    generalize s.extract (E2 + z) (E2 + z + 2) = Q at *
                    generalize s.extract E2 (E2 + z) = P at *
                    have HPS := hideB2 hps
                    have hps2 : P.size ≤ 600 := by omega
                    clear hps
                    go_wp2_with fail
                    refine (HTL.out _).mono ?_
                    rintro e w2 ⟨rfl, hb2⟩
                    go_wp2_with fail
                    refine (HU.out _).mono ?_
                    rintro e w3 ⟨rfl, hw3⟩
                    rw [hw3]
                    go_wp2_with fail
                    refine (HH.out _).mono ?_
                    rintro e w4 ⟨rfl, hw4⟩
                    rw [hw4]
                    clear hw3 hw4
                    have D2 := hideB2 ((HB1.out.later hb2).alloc (.cells #[.string s, .int .i64 (E2 : Int)] 35))
                    have hB2 := below_then (below_then HBW.out hb2) (below_a1 _ (.cells #[.string s, .int .i64 (E2 : Int)] 35))
                    go_wp2_with fail
                    refine (HTN.out _).mono ?_
                    rintro e w5 ⟨rfl, hb5⟩
                    have D5 := hideB2 ((D2.out.later hb5).alloc (.cells #[.string s, .int .i64 ((E2 : Int) + (z : Int))] 35))
                    have hB5 := below_then (below_then hB2 hb5) (below_a1 _ (.cells #[.string s, .int .i64 ((E2 : Int) + (z : Int))] 35))
                    go_wp2_with fail
                    refine (HT2.out _).mono ?_
                    rintro e w6 ⟨rfl, hb6⟩
                    have B6 := D5.out.later hb6
                    have hB6 := below_then hB5 hb6
                    obtain ⟨x0, x1⟩ := B6.c2
                    have y0 := B6.free 0
                    have y1 := B6.free 1
                    have hlt6 := B6.lt
                    clear hb2 hB2 hb5 hB5 hb6 D2 D5
                    go_wp2
                    refine ⟨⟨m, E2 + z + 2, body ++ P, h7, ?_, ?_, rfl, HNX.out, ?_, ?_⟩, ?_⟩
                    · show 601 ≤ m + (body ++ P).size
                      have h1 := HAP.out
                      have h2 := HPS.out
                      have h4 := HN.out
                      omega
                    · have h1 := HAP.out
                      have h2 := HPS.out
                      omega
                    · rw [show ((E2 + z + 2 : Nat) : Int) = (E2 : Int) + (z : Int) + 2 by omega]
                      exact (B6.set2 _ _).alloc _
                    · exact below_alloc2 (below_set2 (g := w.heap.size) hB6 (Nat.le_refl _) _ _) (Nat.le_refl _) _
                    · rw [lenOf2_string, lenOf2_string]
                      have h1 := HAP.out
                      have h2 := HPS.out
                      omega
                · rw [tnV_no (tnOk_no h7)] at HT2
                  rw [show ((E2 + z : Nat) : Int) = (E2 : Int) + (z : Int) by omega, show ((2 : Nat) : Int) = 2 from rfl] at HT2
                  unfold curZ at HT2
                  obtain rfl : X = .error 400 := by rw [← hx.out]; exact K5.out (by omega) hz0 (by unfold datQ; rw [decide_eq_false h7]; rfl)
                  clear K5 K6 hx h6 h7
                  generalize s.extract E2 (E2 + z) = P at *
                  go_wp2_with fail
                  refine (HTL.out _).mono ?_
                  rintro e w2 ⟨rfl, hb2⟩
                  go_wp2_with fail
                  refine (HU.out _).mono ?_
                  rintro e w3 ⟨rfl, hw3⟩
                  rw [hw3]
                  go_wp2_with fail
                  refine (HH.out _).mono ?_
                  rintro e w4 ⟨rfl, hw4⟩
                  rw [hw4]
                  clear hw3 hw4
                  have D2 := hideB2 ((HB1.out.later hb2).alloc (.cells #[.string s, .int .i64 (E2 : Int)] 35))
                  have hB2 := below_then (below_then HBW.out hb2) (below_a1 _ (.cells #[.string s, .int .i64 (E2 : Int)] 35))
                  go_wp2_with fail
                  refine (HTN.out _).mono ?_
                  rintro e w5 ⟨rfl, hb5⟩
                  have D5 := hideB2 ((D2.out.later hb5).alloc (.cells #[.string s, .int .i64 ((E2 : Int) + (z : Int))] 35))
                  have hB5 := below_then (below_then hB2 hb5) (below_a1 _ (.cells #[.string s, .int .i64 ((E2 : Int) + (z : Int))] 35))
                  go_wp2_with fail
                  refine (HT2.out _).mono ?_
                  rintro e w6 ⟨rfl, hb6⟩
                  have B6 := D5.out.later hb6
                  have hB6 := below_then hB5 hb6
                  obtain ⟨x0, x1⟩ := B6.c2
                  have y0 := B6.free 0
                  have y1 := B6.free 1
                  have hlt6 := B6.lt
                  clear hb2 hB2 hb5 hB5 hb6 D2 D5
                  go_wp2
                  go_ret2
                  exact ⟨rfl, below_then hB6 (below_a1 _ _)⟩
              · rw [tnV_no (tnOk_no h6)] at HTN
                obtain rfl : X = .error 400 := by rw [← hx.out]; exact K5.out (by omega) hz0 (by unfold datQ; rw [decide_eq_false (show ¬ E2 + z + 2 ≤ s.size by omega)]; rfl)
                unfold curZ at HTN
                clear K5 K6 hx h6
                go_wp2_with (first | (go_at_call 15; refine (HTL.out _).mono ?_; rintro e w2 ⟨rfl, hb2⟩) | (go_at_call 17; refine (HU.out _).mono ?_; rintro e w3 ⟨rfl, rfl⟩) | (go_at_call 16; refine (HH.out _).mono ?_; rintro e w4 ⟨rfl, rfl⟩) | (go_at_call 19; refine (HTN.out _).mono ?_; rintro e w5 ⟨rfl, hb5⟩))
                go_ret2
                exact ⟨rfl, below_then (below_then (below_then (below_then HBW.out hb2) (below_a1 _ _)) hb5) (below_a1 _ _)⟩
    · obtain ⟨cc, hcc, hv⟩ := tlV_not h1
      rw [hv] at HTL
      unfold curZ at HTL
      obtain rfl : X = .error 400 := by rw [← hx.out]; exact ck_bad1 (lnQ_no h1)
      clear hx h1 hv
      go_wp2_with (go_at_call 15; refine (HTL.out _).mono ?_; rintro e w2 ⟨rfl, hb2⟩)
      go_ret2
      exact ⟨rfl, below_then (below_then HBW.out hb2) (below_a1 _ _)⟩
end Go.Proofs.Ytaelopjalfapgac
