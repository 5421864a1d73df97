/-
  Chapter 6: a body out of its chunks; the program's side.
-/
import Derived.Test.YtaelopjalfapgacH13
namespace Go.Proofs.Ytaelopjalfapgac
set_option linter.unusedVariables false
set_option linter.unusedSimpArgs false
open Go.RowKit
theorem ext_rest (s : ByteArray) (p z : Nat) (h : p + z + 2 ≤ s.size) : (s.extract p (p + (z + 2))).extract z (s.extract p (p + (z + 2))).size = s.extract (p + z) (p + z + 2) := by
  have hz : (s.extract p (p + (z + 2))).size = z + 2 := by rw [ByteArray.size_extract]; omega
  rw [hz, ByteArray.extract_extract]
  congr 1 <;> omega
theorem ext_head (s : ByteArray) (p z : Nat) : (s.extract p (p + (z + 2))).extract 0 z = s.extract p (p + z) := by
  rw [ByteArray.extract_extract]
  congr 1; omega
theorem eqB_crlf {s : ByteArray} : eqB s ⟨#[13, 10]⟩ = (s.toList == [13, 10]) := by unfold eqB; rw [ByteArray.toList_eq ⟨#[13, 10]⟩]
set_option maxRecDepth 100000 in
set_option maxHeartbeats 4000000 in
theorem chunkData_bad (s : ByteArray) (p z : Nat) (w : World) (hs : s.size ≤ maxLen) (hp : p ≤ s.size) (hz : z ≤ 268435455) (h : datQ s p z = false) :
    Calls Try.prog 38 #[.agg #[.string s, .int .i64 (p : Int)], .int .i64 (z : Int)] w fun e w' => e = .panicked (gone 400) ∧ Below w.heap.size w w' := by
  have HB := hideB2 (below_a2 w (.cells #[.string s, .int .i64 (p : Int)] 35) (.cells #[.string ⟨#[]⟩, .int .i64 0] 35))
  have HT := hideB2 (fun W => TakeN_any s (p : Int) ((z : Int) + 2) W hs (by omega))
  by_cases h1 : p + z + 2 ≤ s.size
  · unfold datQ at h
    rw [decide_eq_true h1, Bool.true_and, eqB_crlf] at h
    replace HT := hideB2 (fun W => TakeN_any s (p : Int) ((z + 2 : Nat) : Int) W hs (by omega))
    rw [tnV_yes (show p + (z + 2) ≤ s.size by omega)] at HT
    rw [show ((z + 2 : Nat) : Int) = (z : Int) + 2 by omega] at HT
    rw [← ext_rest s p z h1] at h
    have hDz : (s.extract p (p + (z + 2))).size = z + 2 := by rw [ByteArray.size_extract]; omega
    generalize hD : s.extract p (p + (z + 2)) = D at *
    have i1 : (z : Int) ≤ (D.size : Int) := by omega
    have i2 : z ≤ D.size := by omega
    clear hD hDz hs h1
    go_enter Try.func38, Try.ntmps38
    go_wp2_with (first | (go_at_call 48; refine (HT.out _).mono ?_; rintro e w2 ⟨rfl, hb2⟩) | (go_at_call 35; refine (refuseIf_any _ _ _).mono ?_; rintro e w9 ⟨rfl, rfl⟩; simp only [refE]))
    exact ⟨rfl, rfl, below_then (below_then HB.out hb2) (below_a1 _ _)⟩
  · have hno : tnOk s (p : Int) ((z : Int) + 2) = false := by
      unfold tnOk
      rw [show decide ((z : Int) + 2 ≤ (s.size : Int) - (p : Int)) = false from decide_eq_false (by omega), Bool.and_false]
    rw [tnV_no hno] at HT
    unfold curZ at HT
    clear h h1 hno hs
    go_enter Try.func38, Try.ntmps38
    go_wp2_with (first | (go_at_call 48; refine (HT.out _).mono ?_; rintro e w2 ⟨rfl, hb2⟩) | (go_at_call 35; refine (refuseIf_any _ _ _).mono ?_; rintro e w9 ⟨rfl, rfl⟩; simp only [refE]))
    exact ⟨rfl, rfl, below_then (below_then HB.out hb2) (below_a1 _ _)⟩
set_option maxRecDepth 100000 in
set_option maxHeartbeats 4000000 in
theorem chunkData_ok (s : ByteArray) (p z : Nat) (w : World) (hs : s.size ≤ maxLen) (hp : p ≤ s.size) (hz : z ≤ 268435455) (h : datQ s p z = true) :
    Calls Try.prog 38 #[.agg #[.string s, .int .i64 (p : Int)], .int .i64 (z : Int)] w fun e w' => e = .returned (.tuple #[.string (s.extract p (p + z)), .agg #[.string s, .int .i64 ((p : Int) + ((z : Int) + 2))]]) ∧ Below w.heap.size w w' := by
  have HB := hideB2 (below_a2 w (.cells #[.string s, .int .i64 (p : Int)] 35) (.cells #[.string ⟨#[]⟩, .int .i64 0] 35))
  have A2 := hideB2 (show Blk ((w.alloc (.cells #[.string s, .int .i64 (p : Int)] 35)).alloc (.cells #[.string ⟨#[]⟩, .int .i64 0] 35)) (w.heap.size + 1) #[.string ⟨#[]⟩, .int .i64 0] 35 by
    have := Blk.new (w.alloc (.cells #[.string s, .int .i64 (p : Int)] 35)) #[.string ⟨#[]⟩, .int .i64 0] 35
    simpa using this)
  unfold datQ at h
  rw [Bool.and_eq_true, decide_eq_true_eq, eqB_crlf] at h
  obtain ⟨h1, h2⟩ := h
  have HT := hideB2 (fun W => TakeN_any s (p : Int) ((z + 2 : Nat) : Int) W hs (by omega))
  rw [tnV_yes (show p + (z + 2) ≤ s.size by omega)] at HT
  rw [show ((z + 2 : Nat) : Int) = (z : Int) + 2 by omega] at HT
  rw [← ext_rest s p z h1] at h2
  have HH := hideB2 (ext_head s p z)
  have hDz : (s.extract p (p + (z + 2))).size = z + 2 := by rw [ByteArray.size_extract]; omega
  generalize hD : s.extract p (p + (z + 2)) = D at *
  have i1 : (z : Int) ≤ (D.size : Int) := by omega
  have i2 : z ≤ D.size := by omega
  clear hD hDz hs h1
  generalize hX : s.extract p (p + z) = X at *
  clear hX
  go_enter Try.func38, Try.ntmps38
  go_wp2_with fail
  refine (HT.out _).mono ?_
  rintro e w2 ⟨rfl, hb2⟩
  have A3 := (A2.out.later hb2).alloc (.cells #[.string s, .int .i64 ((p : Int) + ((z : Int) + 2))] 35)
  have N3 := Blk.new w2 #[.string s, .int .i64 ((p : Int) + ((z : Int) + 2))] 35
  have hlt := (A2.out.later hb2).lt
  have HB2 := hideB2 (below_then (below_then HB.out hb2) (below_a1 _ (.cells #[.string s, .int .i64 ((p : Int) + ((z : Int) + 2))] 35)))
  clear hb2
  obtain ⟨p0, p1⟩ := A3.c2
  obtain ⟨q0, q1⟩ := N3.c2
  have f0 := A3.free 0
  have f1 := A3.free 1
  have HA3 := hideB2 A3
  clear A3 N3
  go_wp2_with (go_at_call 35; refine (refuseIf_any _ _ _).mono ?_; rintro e w9 ⟨rfl, rfl⟩; simp only [refE])
  generalize hW : w2.alloc (.cells #[.string s, .int .i64 ((p : Int) + ((z : Int) + 2))] 35) = W3 at *
  clear hW
  go_region
  go_wp2
  refine bodyPost_ret (results_tmpC rfl _ _ _ rfl (HA3.out.set2 _ _) Try.underlying35 Try.infoCur) rfl ⟨by rw [← HH.out]; rfl, ?_⟩
  exact (below_set2 (g := w.heap.size + 1) HB2.out (by omega) _ _).drew
/-- What comes of the lines behind the last chunk. -/
def trPost (s : ByteArray) (T : Option Nat) (e : Ending) : Prop :=
  match T with
  | some q => e = .returned (.agg #[.string s, .int .i64 (q : Int)]) ∧ q ≤ s.size
  | none => e = .panicked (gone 400)
set_option maxRecDepth 100000 in
set_option maxHeartbeats 8000000 in
theorem behindTrailer_any (s : ByteArray) (k : Nat) (w : World) (hs : s.size ≤ maxLen) (hk : k ≤ s.size) (T : Option Nat) (hT : trE s 21 k = T) :
    Calls Try.prog 36 #[.agg #[.string s, .int .i64 (k : Int)]] w fun e w' => trPost s T e ∧ Below w.heap.size w w' := by
  have HB := hideB2 (below_a2 w (.cells #[.string s, .int .i64 (k : Int)] 35) (.cells #[.string ⟨#[]⟩, .int .i64 0] 35))
  have A1 := hideB2 ((Blk.new w #[.string s, .int .i64 (k : Int)] 35).alloc (.cells #[.string ⟨#[]⟩, .int .i64 0] 35))
  have A2 := hideB2 (show Blk ((w.alloc (.cells #[.string s, .int .i64 (k : Int)] 35)).alloc (.cells #[.string ⟨#[]⟩, .int .i64 0] 35)) (w.heap.size + 1) #[.string ⟨#[]⟩, .int .i64 0] 35 by
    have := Blk.new (w.alloc (.cells #[.string s, .int .i64 (k : Int)] 35)) #[.string ⟨#[]⟩, .int .i64 0] 35
    simpa using this)
  have HS := hideB2 hs
  have HT := hideB2 hT
  clear hT
  cases h : lnQ s k
  · obtain rfl : T = none := by rw [← HT.out]; exact trE_bad h
    have HL := hideB2 (fun W => chunkLine_bad s k W hs hk h)
    clear h hs hk HT
    go_enter Try.func36, Try.ntmps36
    go_wp2_with (go_at_call 44; refine (HL.out _).mono ?_; rintro e w2 ⟨rfl, hb2⟩)
    exact ⟨rfl, show trPost s none _ from rfl, below_then HB.out hb2⟩
  · have HL := hideB2 (fun W => chunkLine_ok s k W hs hk h)
    have HQ := hideB2 h
    have HK := hideB2 hk
    clear h hs hk
    go_enter Try.func36, Try.ntmps36
    go_wp2_with fail
    refine (HL.out _).mono ?_
    rintro e w2 ⟨rfl, hb2⟩
    have B1 := A1.out.later hb2
    have B2 := A2.out.later hb2
    have HB2 := hideB2 (below_then HB.out hb2)
    obtain ⟨p0, p1⟩ := B1.c2
    have f0 := B1.free 0
    have f1 := B1.free 1
    have hlt := B1.lt
    have HB1 := hideB2 (B1.set2 (.string s) (.int .i64 ((tlE s k : Int) + 2)))
    have HBB2 := hideB2 (B2.oth2 (show w.heap.size ≠ w.heap.size + 1 by omega) (.string s) (.int .i64 ((tlE s k : Int) + 2)))
    have HBW := hideB2 (below_set2 (g := w.heap.size) HB2.out (Nat.le_refl _) (.string s) (.int .i64 ((tlE s k : Int) + 2)))
    clear B1 B2 hb2 HB A1 A2 HB2 HL
    go_wp2
    generalize hW : (w2.setCell ⟨w.heap.size, 0, none⟩ (.string s)).setCell ⟨w.heap.size, 1, none⟩ (.int .i64 ((tlE s k : Int) + 2)) = W3 at *
    clear hW p0 p1 f0 f1
    go_loopw [3, 4] (fun l i wr => ∃ k' c : Nat, k' ≤ s.size ∧ c ≤ 20 ∧ i = .int .i64 c ∧ l = .string (lineAt s k') ∧ Hid (lnQ s k' = true) ∧ Hid (trE s (21 - c) k' = T) ∧ Blk wr w.heap.size #[.string s, .int .i64 ((tlE s k' : Int) + 2)] 35 ∧ Blk wr (w.heap.size + 1) #[.string ⟨#[]⟩, .int .i64 0] 35 ∧ Below w.heap.size w wr) (fun _ i _ => 21 - (intOf i).toNat)
    case atStart => exact ⟨k, 0, HK.out, by omega, rfl, rfl, HQ.out, HT.out, HB1.out, HBB2.out, HBW.out⟩
    case round =>
      obtain ⟨k', c, hk', hc, rfl, rfl, hq, ht, hb1, hb2, hbw⟩ := hrel
      clear HB1 HBB2 HBW HT HQ HK hlt
      have hn := lenE_nil hk'
      have hE := tlE_ok hk' (lnQ_iff.1 hq.out).1
      have hz := lineAt_size hk'
      have hL : Hid ((lineAt s k').size ≤ maxLen) := by
        have := HS.out
        show (lineAt s k').size ≤ maxLen
        unfold maxLen at *
        omega
      have HB1 := hideB2 hb1
      have HBB2 := hideB2 hb2
      have HBW := hideB2 hbw
      obtain ⟨p0, p1⟩ := hb1.c2
      obtain ⟨q0, q1⟩ := hb2.c2
      have f0 := hb1.free 0
      have f1 := hb1.free 1
      have g0 := hb2.free 0
      have g1 := hb2.free 1
      clear hb1 hb2 hbw hz
      by_cases he : tlE s k' = k'
      · rw [decide_eq_true he] at hn
        have HR := hideB2 (show T = some (k' + 2) by rw [← ht.out, show 21 - c = (20 - c) + 1 by omega]; exact trE_end hq.out he)
        have hE2 : k' + 2 ≤ s.size := by omega
        rw [he] at p1 HB1
        obtain rfl := HR.out
        clear HR ht he hE
        generalize lineAt s k' = L at *
        go_wp2
        refine bodyPost_ret (results_cellS rfl _ _ _ rfl (HBB2.out.set2 _ _) Try.underlying35 Try.infoCur) rfl ⟨show trPost s (some (k' + 2)) _ from ⟨?_, hE2⟩, ?_⟩
        · rw [show ((k' + 2 : Nat) : Int) = (k' : Int) + 2 by omega]
        · exact below_set2 (g := w.heap.size + 1) HBW.out (by omega) _ _
      · rw [decide_eq_false he] at hn
        have HRN := hideB2 (fun h => trE_no (n := 20 - c) hq.out he h)
        have HRX := hideB2 (fun h => trE_next (n := 20 - c) hq.out he h)
        rw [show 20 - c + 1 = 21 - c by omega] at HRN HRX
        by_cases hc20 : c = 20
        · subst hc20
          have HR := hideB2 (show T = none by
            rw [← ht.out]
            cases h : readO (lineAt s k')
            · exact HRN.out h
            · rw [HRX.out h]; rfl)
          obtain rfl := HR.out
          clear HR ht he HRN HRX hE
          generalize lineAt s k' = L at *
          go_wp2_with (go_at_call 35; refine (refuseIf_any _ _ _).mono ?_; rintro e w9 ⟨rfl, rfl⟩; simp only [refE])
          exact ⟨rfl, show trPost s none _ from rfl, HBW.out⟩
        · have hne : ((c : Int) == 20) = false := beq_eq_false_iff_ne.2 (by omega)
          cases hr : readO (lineAt s k')
          · have HF := hideB2 (fun W => takenField_bad (lineAt s k') W hL.out hr)
            have HR := hideB2 (show T = none by rw [← ht.out]; exact HRN.out hr)
            obtain rfl := HR.out
            clear HR ht he HRN HRX hE hr
            generalize lineAt s k' = L at *
            go_wp2_with (first | (go_at_call 35; refine (refuseIf_any _ _ _).mono ?_; rintro e w9 ⟨rfl, rfl⟩; simp only [refE]) | (go_at_call 47; refine (HF.out _).mono ?_; rintro e w5 ⟨rfl, hb5⟩))
            exact ⟨rfl, show trPost s none _ from rfl, below_then HBW.out hb5⟩
          · have HF := hideB2 (fun W => takenField_ok (lineAt s k') W hL.out hr)
            have HTN := hideB2 (show trE s (20 - c) (tlE s k' + 2) = T by rw [← HRX.out hr]; exact ht.out)
            have hcast : ((tlE s k' + 2 : Nat) : Int) = (tlE s k' : Int) + 2 := by omega
            have HE2 := hideB2 hE
            generalize (readF (lineAt s k')).1 = fx at *
            generalize (readF (lineAt s k')).2 = fy at *
            cases hln : lnQ s (tlE s k' + 2)
            · have HL := hideB2 (fun W => chunkLine_bad s (tlE s k' + 2) W HS.out HE2.out hln)
              rw [hcast] at HL
              have HR := hideB2 (show T = none by
                rw [← HTN.out, show 20 - c = (19 - c) + 1 by omega]
                exact trE_bad hln)
              obtain rfl := HR.out
              clear HR ht he HRN HRX hE hr hln HTN HE2 hcast
              generalize lineAt s k' = L at *
              generalize tlE s k' = E at *
              go_wp2_with (first
                | (go_at_call 35; refine (refuseIf_any _ _ _).mono ?_; rintro e w9 ⟨rfl, rfl⟩; simp only [refE])
                | (go_at_call 47; refine (HF.out _).mono ?_; rintro e w5 ⟨rfl, hb5⟩; obtain ⟨r0, r1⟩ := (HB1.out.later hb5).c2)
                | (go_at_call 44; refine (HL.out _).mono ?_; rintro e w6 ⟨rfl, hb6⟩))
              exact ⟨rfl, show trPost s none _ from rfl, below_then (below_then HBW.out hb5) hb6⟩
            · have HL := hideB2 (fun W => chunkLine_ok s (tlE s k' + 2) W HS.out HE2.out hln)
              rw [hcast] at HL
              have HLN := hideB2 hln
              clear ht he HRN HRX hE hr hln hcast
              generalize hk2 : tlE s k' + 2 = k2 at *
              have HK2 := hideB2 hk2
              clear hk2
              generalize hLL : lineAt s k' = L at *
              clear hLL
              generalize hEE : tlE s k' = E at *
              clear hEE
              go_wp2_with (first
                | (go_at_call 35; refine (refuseIf_any _ _ _).mono ?_; rintro e w9 ⟨rfl, rfl⟩; simp only [refE])
                | (go_at_call 47; refine (HF.out _).mono ?_; rintro e w5 ⟨rfl, hb5⟩; obtain ⟨r0, r1⟩ := (HB1.out.later hb5).c2)
                | (go_at_call 44; refine (HL.out _).mono ?_; rintro e w6 ⟨rfl, hb6⟩; have B6 := (HB1.out.later hb5).later hb6; obtain ⟨x0, x1⟩ := B6.c2; have y0 := B6.free 0; have y1 := B6.free 1; have hlt6 := B6.lt))
              refine ⟨⟨k2, c + 1, HE2.out, by omega, by go_num, rfl, HLN.out, ?_, ?_, ?_, ?_⟩, by simp [intOf]; omega⟩
              · show trE s (21 - (c + 1)) k2 = T
                rw [show 21 - (c + 1) = 20 - c by omega]; exact HTN.out
              · exact B6.set2 _ _
              · exact ((HBB2.out.later hb5).later hb6).oth2 (by omega) _ _
              · exact below_set2 (g := w.heap.size) (below_then (below_then HBW.out hb5) hb6) (Nat.le_refl _) _ _
end Go.Proofs.Ytaelopjalfapgac
