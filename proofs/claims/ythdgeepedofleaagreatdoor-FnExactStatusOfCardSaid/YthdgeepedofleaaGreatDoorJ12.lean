/-
  Chapter 6: a body out of its chunks; the program's side. · Chapter 6: a body out of its chunks; the program's side, whole. · Chapter 6: a body out of its chunks; the specification's side. · Chapter 6: Chunks; the specification's side. · Chapter 6: a body, by what bounds it; both sides. · Chapter 6: how a body is bounded. The program's side. · Chapter 6: a whole message read; the program's side.
-/
import Derived.Test.YthdgeepedofleaaGreatDoorJ11
import Derived.Defers
import Derived.Recover
import Derived.Test.YthdgeepedofleaaGreatDoorJ3
import Derived.Test.YthdgeepedofleaaGreatDoorJ10
import Derived.Test.YthdgeepedofleaaGreatDoorJ5
import Derived.Test.YthdgeepedofleaaGreatDoorJ4
import Derived.Test.YthdgeepedofleaaGreatDoorJ9
namespace Go.Proofs.YthdgeepedofleaaGreatDoor
set_option linter.unusedVariables false
set_option linter.unusedSimpArgs false
open Go.RowKit
theorem ext_rest (s : ByteArray) (p z : Nat) (h : p + z + 2 ≤ s.size) : (s.extract p (p + (z + 2))).extract z (s.extract p (p + (z + 2))).size = s.extract (p + z) (p + z + 2) := by
  have hz : (s.extract p (p + (z + 2))).size = z + 2 := by rw [ByteArray.size_extract]; omega
  rw [hz, ByteArray.extract_extract]
  congr 1 <;> omega
theorem ext_head (s : ByteArray) (p z : Nat) : (s.extract p (p + (z + 2))).extract 0 z = s.extract p (p + z) := by
  rw [ByteArray.extract_extract]
  congr 1; omega
theorem eqB_crlf {s : ByteArray} : eqB s ⟨#[13, 10]⟩ = (s.toList == [13, 10]) := by unfold eqB; rw [ByteArray.toList_eq ⟨#[13, 10]⟩]
set_option maxRecDepth 100000 in
set_option maxHeartbeats 4000000 in
theorem chunkData_bad (s : ByteArray) (p z : Nat) (w : World) (hs : s.size ≤ maxLen) (hp : p ≤ s.size) (hz : z ≤ 268435455) (h : datQ s p z = false) :
    Calls Tryz.prog 259 #[.agg #[.string s, .int .i64 (p : Int)], .int .i64 (z : Int)] w fun e w' => e = .panicked (gone 400) ∧ Below w.heap.size w w' := by
  have HB := hideB2 (below_a2 w (.cells #[.string s, .int .i64 (p : Int)] 183) (.cells #[.string ⟨#[]⟩, .int .i64 0] 183))
  have HT := hideB2 (fun W => TakeN_any s (p : Int) ((z : Int) + 2) W hs (by omega))
  by_cases h1 : p + z + 2 ≤ s.size
  · unfold datQ at h
    rw [decide_eq_true h1, Bool.true_and, eqB_crlf] at h
    replace HT := hideB2 (fun W => TakeN_any s (p : Int) ((z + 2 : Nat) : Int) W hs (by omega))
    rw [tnV_yes (show p + (z + 2) ≤ s.size by omega)] at HT
    rw [show ((z + 2 : Nat) : Int) = (z : Int) + 2 by omega] at HT
    rw [← ext_rest s p z h1] at h
    have hDz : (s.extract p (p + (z + 2))).size = z + 2 := by rw [ByteArray.size_extract]; omega
    generalize hD : s.extract p (p + (z + 2)) = D at *
    have i1 : (z : Int) ≤ (D.size : Int) := by omega
    have i2 : z ≤ D.size := by omega
    clear hD hDz hs h1
    go_enter Tryz.func259, Tryz.ntmps259
    go_wp2_with (first | (go_at_call 288; refine (HT.out _).mono ?_; rintro e w2 ⟨rfl, hb2⟩) | (go_at_call 181; refine (refuseIf_any _ _ _).mono ?_; rintro e w9 ⟨rfl, rfl⟩; simp only [refE]))
    exact ⟨rfl, rfl, below_then (below_then HB.out hb2) (below_a1 _ _)⟩
  · have hno : tnOk s (p : Int) ((z : Int) + 2) = false := by
      unfold tnOk
      rw [show decide ((z : Int) + 2 ≤ (s.size : Int) - (p : Int)) = false from decide_eq_false (by omega), Bool.and_false]
    rw [tnV_no hno] at HT
    unfold curZ at HT
    clear h h1 hno hs
    go_enter Tryz.func259, Tryz.ntmps259
    go_wp2_with (first | (go_at_call 288; refine (HT.out _).mono ?_; rintro e w2 ⟨rfl, hb2⟩) | (go_at_call 181; refine (refuseIf_any _ _ _).mono ?_; rintro e w9 ⟨rfl, rfl⟩; simp only [refE]))
    exact ⟨rfl, rfl, below_then (below_then HB.out hb2) (below_a1 _ _)⟩
set_option maxRecDepth 100000 in
set_option maxHeartbeats 4000000 in
theorem chunkData_ok (s : ByteArray) (p z : Nat) (w : World) (hs : s.size ≤ maxLen) (hp : p ≤ s.size) (hz : z ≤ 268435455) (h : datQ s p z = true) :
    Calls Tryz.prog 259 #[.agg #[.string s, .int .i64 (p : Int)], .int .i64 (z : Int)] w fun e w' => e = .returned (.tuple #[.string (s.extract p (p + z)), .agg #[.string s, .int .i64 ((p : Int) + ((z : Int) + 2))]]) ∧ Below w.heap.size w w' := by
  have HB := hideB2 (below_a2 w (.cells #[.string s, .int .i64 (p : Int)] 183) (.cells #[.string ⟨#[]⟩, .int .i64 0] 183))
  have A2 := hideB2 (show Blk ((w.alloc (.cells #[.string s, .int .i64 (p : Int)] 183)).alloc (.cells #[.string ⟨#[]⟩, .int .i64 0] 183)) (w.heap.size + 1) #[.string ⟨#[]⟩, .int .i64 0] 183 by
    have := Blk.new (w.alloc (.cells #[.string s, .int .i64 (p : Int)] 183)) #[.string ⟨#[]⟩, .int .i64 0] 183
    simpa using this)
  unfold datQ at h
  rw [Bool.and_eq_true, decide_eq_true_eq, eqB_crlf] at h
  obtain ⟨h1, h2⟩ := h
  have HT := hideB2 (fun W => TakeN_any s (p : Int) ((z + 2 : Nat) : Int) W hs (by omega))
  rw [tnV_yes (show p + (z + 2) ≤ s.size by omega)] at HT
  rw [show ((z + 2 : Nat) : Int) = (z : Int) + 2 by omega] at HT
  rw [← ext_rest s p z h1] at h2
  have HH := hideB2 (ext_head s p z)
  have hDz : (s.extract p (p + (z + 2))).size = z + 2 := by rw [ByteArray.size_extract]; omega
  generalize hD : s.extract p (p + (z + 2)) = D at *
  have i1 : (z : Int) ≤ (D.size : Int) := by omega
  have i2 : z ≤ D.size := by omega
  clear hD hDz hs h1
  generalize hX : s.extract p (p + z) = X at *
  clear hX
  go_enter Tryz.func259, Tryz.ntmps259
  go_wp2_with fail
  refine (HT.out _).mono ?_
  rintro e w2 ⟨rfl, hb2⟩
  have A3 := (A2.out.later hb2).alloc (.cells #[.string s, .int .i64 ((p : Int) + ((z : Int) + 2))] 183)
  have N3 := Blk.new w2 #[.string s, .int .i64 ((p : Int) + ((z : Int) + 2))] 183
  have hlt := (A2.out.later hb2).lt
  have HB2 := hideB2 (below_then (below_then HB.out hb2) (below_a1 _ (.cells #[.string s, .int .i64 ((p : Int) + ((z : Int) + 2))] 183)))
  clear hb2
  obtain ⟨p0, p1⟩ := A3.c2
  obtain ⟨q0, q1⟩ := N3.c2
  have f0 := A3.free 0
  have f1 := A3.free 1
  have HA3 := hideB2 A3
  clear A3 N3
  go_wp2_with (go_at_call 181; refine (refuseIf_any _ _ _).mono ?_; rintro e w9 ⟨rfl, rfl⟩; simp only [refE])
  generalize hW : w2.alloc (.cells #[.string s, .int .i64 ((p : Int) + ((z : Int) + 2))] 183) = W3 at *
  clear hW
  go_region
  go_wp2
  refine bodyPost_ret (results_tmpC rfl _ _ _ rfl (HA3.out.set2 _ _) Tryz.underlying183 Tryz.infoCur) rfl ⟨by rw [← HH.out]; rfl, ?_⟩
  exact (below_set2 (g := w.heap.size + 1) HB2.out (by omega) _ _).drew
/-- What comes of the lines behind the last chunk. -/
def trPost (s : ByteArray) (T : Option Nat) (e : Ending) : Prop :=
  match T with
  | some q => e = .returned (.agg #[.string s, .int .i64 (q : Int)]) ∧ q ≤ s.size
  | none => e = .panicked (gone 400)
set_option maxRecDepth 100000 in
set_option maxHeartbeats 8000000 in
theorem behindTrailer_any (s : ByteArray) (k : Nat) (w : World) (hs : s.size ≤ maxLen) (hk : k ≤ s.size) (T : Option Nat) (hT : trE s 21 k = T) :
    Calls Tryz.prog 257 #[.agg #[.string s, .int .i64 (k : Int)]] w fun e w' => trPost s T e ∧ Below w.heap.size w w' := by
  have HB := hideB2 (below_a2 w (.cells #[.string s, .int .i64 (k : Int)] 183) (.cells #[.string ⟨#[]⟩, .int .i64 0] 183))
  have A1 := hideB2 ((Blk.new w #[.string s, .int .i64 (k : Int)] 183).alloc (.cells #[.string ⟨#[]⟩, .int .i64 0] 183))
  have A2 := hideB2 (show Blk ((w.alloc (.cells #[.string s, .int .i64 (k : Int)] 183)).alloc (.cells #[.string ⟨#[]⟩, .int .i64 0] 183)) (w.heap.size + 1) #[.string ⟨#[]⟩, .int .i64 0] 183 by
    have := Blk.new (w.alloc (.cells #[.string s, .int .i64 (k : Int)] 183)) #[.string ⟨#[]⟩, .int .i64 0] 183
    simpa using this)
  have HS := hideB2 hs
  have HT := hideB2 hT
  clear hT
  cases h : lnQ s k
  · obtain rfl : T = none := by rw [← HT.out]; exact trE_bad h
    have HL := hideB2 (fun W => chunkLine_bad s k W hs hk h)
    clear h hs hk HT
    go_enter Tryz.func257, Tryz.ntmps257
    go_wp2_with (go_at_call 286; refine (HL.out _).mono ?_; rintro e w2 ⟨rfl, hb2⟩)
    exact ⟨rfl, show trPost s none _ from rfl, below_then HB.out hb2⟩
  · have HL := hideB2 (fun W => chunkLine_ok s k W hs hk h)
    have HQ := hideB2 h
    have HK := hideB2 hk
    clear h hs hk
    go_enter Tryz.func257, Tryz.ntmps257
    go_wp2_with fail
    refine (HL.out _).mono ?_
    rintro e w2 ⟨rfl, hb2⟩
    have B1 := A1.out.later hb2
    have B2 := A2.out.later hb2
    have HB2 := hideB2 (below_then HB.out hb2)
    obtain ⟨p0, p1⟩ := B1.c2
    have f0 := B1.free 0
    have f1 := B1.free 1
    have hlt := B1.lt
    have HB1 := hideB2 (B1.set2 (.string s) (.int .i64 ((tlE s k : Int) + 2)))
    have HBB2 := hideB2 (B2.oth2 (show w.heap.size ≠ w.heap.size + 1 by omega) (.string s) (.int .i64 ((tlE s k : Int) + 2)))
    have HBW := hideB2 (below_set2 (g := w.heap.size) HB2.out (Nat.le_refl _) (.string s) (.int .i64 ((tlE s k : Int) + 2)))
    clear B1 B2 hb2 HB A1 A2 HB2 HL
    go_wp2
    generalize hW : (w2.setCell ⟨w.heap.size, 0, none⟩ (.string s)).setCell ⟨w.heap.size, 1, none⟩ (.int .i64 ((tlE s k : Int) + 2)) = W3 at *
    clear hW p0 p1 f0 f1
    go_loopw [3, 4] (fun l i wr => ∃ k' c : Nat, k' ≤ s.size ∧ c ≤ 20 ∧ i = .int .i64 c ∧ l = .string (lineAt s k') ∧ Hid (lnQ s k' = true) ∧ Hid (trE s (21 - c) k' = T) ∧ Blk wr w.heap.size #[.string s, .int .i64 ((tlE s k' : Int) + 2)] 183 ∧ Blk wr (w.heap.size + 1) #[.string ⟨#[]⟩, .int .i64 0] 183 ∧ Below w.heap.size w wr) (fun _ i _ => 21 - (intOf i).toNat)
    case atStart => exact ⟨k, 0, HK.out, by omega, rfl, rfl, HQ.out, HT.out, HB1.out, HBB2.out, HBW.out⟩
    case round =>
      obtain ⟨k', c, hk', hc, rfl, rfl, hq, ht, hb1, hb2, hbw⟩ := hrel
      clear HB1 HBB2 HBW HT HQ HK hlt
      have hn := lenE_nil hk'
      have hE := tlE_ok hk' (lnQ_iff.1 hq.out).1
      have hz := lineAt_size hk'
      have hL : Hid ((lineAt s k').size ≤ maxLen) := by
        have := HS.out
        show (lineAt s k').size ≤ maxLen
        unfold maxLen at *
        omega
      have HB1 := hideB2 hb1
      have HBB2 := hideB2 hb2
      have HBW := hideB2 hbw
      obtain ⟨p0, p1⟩ := hb1.c2
      obtain ⟨q0, q1⟩ := hb2.c2
      have f0 := hb1.free 0
      have f1 := hb1.free 1
      have g0 := hb2.free 0
      have g1 := hb2.free 1
      clear hb1 hb2 hbw hz
      by_cases he : tlE s k' = k'
      · rw [decide_eq_true he] at hn
        have HR := hideB2 (show T = some (k' + 2) by rw [← ht.out, show 21 - c = (20 - c) + 1 by omega]; exact trE_end hq.out he)
        have hE2 : k' + 2 ≤ s.size := by omega
        rw [he] at p1 HB1
        obtain rfl := HR.out
        clear HR ht he hE
        generalize lineAt s k' = L at *
        go_wp2
        refine bodyPost_ret (results_cellS rfl _ _ _ rfl (HBB2.out.set2 _ _) Tryz.underlying183 Tryz.infoCur) rfl ⟨show trPost s (some (k' + 2)) _ from ⟨?_, hE2⟩, ?_⟩
        · rw [show ((k' + 2 : Nat) : Int) = (k' : Int) + 2 by omega]
        · exact below_set2 (g := w.heap.size + 1) HBW.out (by omega) _ _
      · rw [decide_eq_false he] at hn
        have HRN := hideB2 (fun h => trE_no (n := 20 - c) hq.out he h)
        have HRX := hideB2 (fun h => trE_next (n := 20 - c) hq.out he h)
        rw [show 20 - c + 1 = 21 - c by omega] at HRN HRX
        by_cases hc20 : c = 20
        · subst hc20
          have HR := hideB2 (show T = none by
            rw [← ht.out]
            cases h : readO (lineAt s k')
            · exact HRN.out h
            · rw [HRX.out h]; rfl)
          obtain rfl := HR.out
          clear HR ht he HRN HRX hE
          generalize lineAt s k' = L at *
          go_wp2_with (go_at_call 181; refine (refuseIf_any _ _ _).mono ?_; rintro e w9 ⟨rfl, rfl⟩; simp only [refE])
          exact ⟨rfl, show trPost s none _ from rfl, HBW.out⟩
        · have hne : ((c : Int) == 20) = false := beq_eq_false_iff_ne.2 (by omega)
          cases hr : readO (lineAt s k')
          · have HF := hideB2 (fun W => takenField_bad (lineAt s k') W hL.out hr)
            have HR := hideB2 (show T = none by rw [← ht.out]; exact HRN.out hr)
            obtain rfl := HR.out
            clear HR ht he HRN HRX hE hr
            generalize lineAt s k' = L at *
            go_wp2_with (first | (go_at_call 181; refine (refuseIf_any _ _ _).mono ?_; rintro e w9 ⟨rfl, rfl⟩; simp only [refE]) | (go_at_call 216; refine (HF.out _).mono ?_; rintro e w5 ⟨rfl, hb5⟩))
            exact ⟨rfl, show trPost s none _ from rfl, below_then HBW.out hb5⟩
          · have HF := hideB2 (fun W => takenField_ok (lineAt s k') W hL.out hr)
            have HTN := hideB2 (show trE s (20 - c) (tlE s k' + 2) = T by rw [← HRX.out hr]; exact ht.out)
            have hcast : ((tlE s k' + 2 : Nat) : Int) = (tlE s k' : Int) + 2 := by omega
            have HE2 := hideB2 hE
            generalize (readF (lineAt s k')).1 = fx at *
            generalize (readF (lineAt s k')).2 = fy at *
            cases hln : lnQ s (tlE s k' + 2)
            · have HL := hideB2 (fun W => chunkLine_bad s (tlE s k' + 2) W HS.out HE2.out hln)
              rw [hcast] at HL
              have HR := hideB2 (show T = none by
                rw [← HTN.out, show 20 - c = (19 - c) + 1 by omega]
                exact trE_bad hln)
              obtain rfl := HR.out
              clear HR ht he HRN HRX hE hr hln HTN HE2 hcast
              generalize lineAt s k' = L at *
              generalize tlE s k' = E at *
              go_wp2_with (first
                | (go_at_call 181; refine (refuseIf_any _ _ _).mono ?_; rintro e w9 ⟨rfl, rfl⟩; simp only [refE])
                | (go_at_call 216; refine (HF.out _).mono ?_; rintro e w5 ⟨rfl, hb5⟩; obtain ⟨r0, r1⟩ := (HB1.out.later hb5).c2)
                | (go_at_call 286; refine (HL.out _).mono ?_; rintro e w6 ⟨rfl, hb6⟩))
              exact ⟨rfl, show trPost s none _ from rfl, below_then (below_then HBW.out hb5) hb6⟩
            · have HL := hideB2 (fun W => chunkLine_ok s (tlE s k' + 2) W HS.out HE2.out hln)
              rw [hcast] at HL
              have HLN := hideB2 hln
              clear ht he HRN HRX hE hr hln hcast
              generalize hk2 : tlE s k' + 2 = k2 at *
              have HK2 := hideB2 hk2
              clear hk2
              generalize hLL : lineAt s k' = L at *
              clear hLL
              generalize hEE : tlE s k' = E at *
              clear hEE
              go_wp2_with (first
                | (go_at_call 181; refine (refuseIf_any _ _ _).mono ?_; rintro e w9 ⟨rfl, rfl⟩; simp only [refE])
                | (go_at_call 216; refine (HF.out _).mono ?_; rintro e w5 ⟨rfl, hb5⟩; obtain ⟨r0, r1⟩ := (HB1.out.later hb5).c2)
                | (go_at_call 286; refine (HL.out _).mono ?_; rintro e w6 ⟨rfl, hb6⟩; have B6 := (HB1.out.later hb5).later hb6; obtain ⟨x0, x1⟩ := B6.c2; have y0 := B6.free 0; have y1 := B6.free 1; have hlt6 := B6.lt))
              refine ⟨⟨k2, c + 1, HE2.out, by omega, by go_num, rfl, HLN.out, ?_, ?_, ?_, ?_⟩, by simp [intOf]; omega⟩
              · show trE s (21 - (c + 1)) k2 = T
                rw [show 21 - (c + 1) = 20 - c by omega]; exact HTN.out
              · exact B6.set2 _ _
              · exact ((HBB2.out.later hb5).later hb6).oth2 (by omega) _ _
              · exact below_set2 (g := w.heap.size) (below_then (below_then HBW.out hb5) hb6) (Nat.le_refl _) _ _
end Go.Proofs.YthdgeepedofleaaGreatDoor
namespace Go.Proofs.YthdgeepedofleaaGreatDoor
set_option linter.unusedVariables false
set_option linter.unusedSimpArgs false
open Go.RowKit
/-- How long a text is that a slot holds. -/
def lenOf (v : Value) : Nat :=
  match v with
  | .string s => s.size
  | _ => 0
theorem lenOf_string (s : ByteArray) : lenOf (.string s) = s.size := rfl
/-- What comes of a reader of a text. -/
def ckPost (X : Except Int ByteArray) (e : Ending) : Prop :=
  match X with
  | .ok b => e = .returned (.string b)
  | .error c => e = .panicked (gone c)
theorem size_app' (a b : ByteArray) : (a ++ b).size = a.size + b.size := by
  have : (a ++ b).data.toList = a.data.toList ++ b.data.toList := Go.Joins.data_append a b
  rw [← len_data, this, List.length_append, len_data, len_data]
set_option maxRecDepth 100000 in
set_option maxHeartbeats 16000000 in
theorem takenChunks_any (s : ByteArray) (w : World) (hs : s.size ≤ maxLen) (X : Except Int ByteArray) (hX : ckX s = X) :
    Calls Tryz.prog 222 #[.string s] w fun e w' => ckPost X e ∧ Below w.heap.size w w' := by
  have HB := hideB2 (below_a1 w (.cells #[.string s, .int .i64 0] 183))
  have A1 := hideB2 (Blk.new w #[.string s, .int .i64 0] 183)
  have HS := hideB2 hs
  have HX := hideB2 hX
  clear hs hX
  go_enter Tryz.func222, Tryz.ntmps222
  go_wp2
  generalize hW : w.alloc (.cells #[.string s, .int .i64 0] 183) = W1 at *
  clear hW
  go_loopw [3] (fun o wr => ∃ (n k : Nat) (body : ByteArray), k ≤ s.size ∧ Hid (601 ≤ n + body.size) ∧ body.size ≤ 600 ∧ o = .string body ∧ Hid (ckR s n k body = X) ∧ Blk wr w.heap.size #[.string s, .int .i64 (k : Int)] 183 ∧ Below w.heap.size w wr) (fun o _ => 601 - lenOf o)
  case atStart => exact ⟨601, 0, ⟨#[]⟩, Nat.zero_le _, (show 601 ≤ 601 + 0 by omega), Nat.zero_le _, rfl, HX.out, A1.out, HB.out⟩
  case round =>
    obtain ⟨n, k, body, hk, hn, hbo, rfl, hx, hb1, hbw⟩ := hrel
    clear A1 HB HX
    obtain ⟨m, rfl⟩ : ∃ m, n = m + 1 := ⟨n - 1, by have := hn.out; omega⟩
    have HB1 := hideB2 hb1
    have HBW := hideB2 hbw
    obtain ⟨p0, p1⟩ := hb1.c2
    clear hb1 hbw
    cases h1 : lnQ s k
    · have HC := hideB2 (fun W => chunkSize_bad1 s k W HS.out hk h1)
      obtain rfl : X = .error 400 := by rw [← hx.out]; exact ck_bad1 h1
      clear hx h1
      go_wp2_with (first
        | (go_at_call 181; refine (refuseIf_any _ _ _).mono ?_; rintro e w9 ⟨rfl, rfl⟩; simp only [refE])
        | (go_at_call 256; refine (HC.out _).mono ?_; rintro e w2 ⟨rfl, hb2⟩))
      exact ⟨rfl, show ckPost (.error 400) _ from rfl, below_then HBW.out hb2⟩
    · cases h2 : rhexOk (uptoS (lineAt s k))
      · have HC := hideB2 (fun W => chunkSize_bad2 s k W HS.out hk h1 h2)
        obtain rfl : X = .error 400 := by rw [← hx.out]; exact ck_bad2 h1 h2
        clear hx h1 h2
        go_wp2_with (first
          | (go_at_call 181; refine (refuseIf_any _ _ _).mono ?_; rintro e w9 ⟨rfl, rfl⟩; simp only [refE])
          | (go_at_call 256; refine (HC.out _).mono ?_; rintro e w2 ⟨rfl, hb2⟩))
        exact ⟨rfl, show ckPost (.error 400) _ from rfl, below_then HBW.out hb2⟩
      · have HC := hideB2 (fun W => chunkSize_ok s k W HS.out hk h1 h2)
        have hbd := rhexN_bd (uptoS (lineAt s k))
        have hE := tlE_ok hk (lnQ_iff.1 h1).1
        obtain ⟨z, hz⟩ := Int.eq_ofNat_of_zero_le hbd.1
        have K3 := hideB2 (fun h => ck_bad3 (s := s) (n := m) (k := k) (body := body) h1 h2 h)
        have K4 := hideB2 (fun h h' => ck_end (s := s) (n := m) (k := k) (body := body) h1 h2 h h')
        have K5 := hideB2 (fun h h3 h' => ck_bad4 (s := s) (n := m) (k := k) (z := z) (body := body) h1 h2 h hz h3 h')
        have K6 := hideB2 (fun h h3 h' => ck_next (s := s) (n := m) (k := k) (z := z) (body := body) h1 h2 h hz h3 h')
        have HT := hideB2 (fun W T hT => behindTrailer_any s (tlE s k + 2) W HS.out (by omega) T hT)
        have HDB := hideB2 (fun W h => chunkData_bad s (tlE s k + 2) z W HS.out (by omega) (by omega) h)
        have HDO := hideB2 (fun W h => chunkData_ok s (tlE s k + 2) z W HS.out (by omega) (by omega) h)
        rw [hz] at HC K3 K4 K5 K6 hbd
        rw [show ((tlE s k + 2 : Nat) : Int) = (tlE s k : Int) + 2 by omega] at HT HDB HDO
        clear h1 h2 hz
        generalize hEE : tlE s k + 2 = E2 at *
        have hE2 : (tlE s k : Int) + 2 = (E2 : Int) := by omega
        rw [hE2] at HC HT HDB HDO
        clear hEE hE2
        by_cases h3 : (600 : Int) < (body.size : Int) + (z : Int)
        · obtain rfl : X = .error 413 := by rw [← hx.out]; exact K3.out h3
          clear hx K3 K4 K5 K6 HT HDB HDO
          go_wp2_with (first
            | (go_at_call 181; refine (refuseIf_any _ _ _).mono ?_; rintro e w9 ⟨rfl, rfl⟩; simp only [refE])
            | (go_at_call 256; refine (HC.out _).mono ?_; rintro e w2 ⟨rfl, hb2⟩))
          exact ⟨rfl, show ckPost (.error 413) _ from rfl, below_then (below_then HBW.out hb2) (below_a1 _ _)⟩
        · have d3 : decide ((600 : Int) < (body.size : Int) + (z : Int)) = false := decide_eq_false h3
          clear K3
          by_cases hz0 : z = 0
          · subst hz0
            have d0 : decide ((600 : Int) < (body.size : Int)) = false := decide_eq_false (by omega)
            have HKE := hideB2 (hx.out.symm.trans (K4.out (by omega) rfl))
            clear K4 K5 K6 HDB HDO hx
            generalize hTT : trE s 21 E2 = T at *
            have HTT := hideB2 hTT
            clear hTT
            cases T with
            | none =>
              obtain rfl : X = .error 400 := by rw [HKE.out]; rfl
              go_wp2_with (first
                | (go_at_call 181; refine (refuseIf_any _ _ _).mono ?_; rintro e w9 ⟨rfl, rfl⟩; simp only [refE])
                | (go_at_call 256; refine (HC.out _).mono ?_; rintro e w2 ⟨rfl, hb2⟩)
                | (go_at_call 257; refine (HT.out _ _ rfl).mono ?_; rintro e w3 ⟨he, hb3⟩; replace he : e = .panicked (gone 400) := he; subst he))
              exact ⟨rfl, show ckPost (.error 400) _ from rfl, below_then (below_then (below_then HBW.out hb2) (below_a1 _ _)) hb3⟩
            | some q =>
              by_cases hq : q = s.size
              · subst hq
                obtain rfl : X = .ok body := by rw [HKE.out]; exact if_pos rfl
                have dq : decide ((0 : Int) < (s.size : Int) - (s.size : Int)) = false := decide_eq_false (by omega)
                clear HKE
                go_wp2_with (first
                  | (go_at_call 181; refine (refuseIf_any _ _ _).mono ?_; rintro e w9 ⟨rfl, rfl⟩; simp only [refE])
                  | (go_at_call 256; refine (HC.out _).mono ?_; rintro e w2 ⟨rfl, hb2⟩)
                  | (go_at_call 257; refine (HT.out _ _ rfl).mono ?_; rintro e w3 ⟨he, hb3⟩; replace he : e = .returned (.agg #[.string s, .int .i64 ((s.size : Nat) : Int)]) ∧ s.size ≤ s.size := he; obtain ⟨rfl, hqs⟩ := he)
                  | (go_at_call 258; refine (left_at s _ s.size _ rfl HS.out (Nat.le_refl _)).mono ?_; rintro e w4 ⟨rfl, hw4⟩))
                go_ret
                refine ⟨show ckPost (.ok body) _ from rfl, ?_⟩
                exact below_then (below_then (below_then (below_then HBW.out hb2) (below_a1 _ _)) hb3) (below_a1 _ _)
              · have hqn : ¬ (some q : Option Nat) = some s.size := fun h => hq (Option.some.inj h)
                obtain rfl : X = .error 400 := by rw [HKE.out]; exact if_neg hqn
                clear HKE hqn
                go_wp2_with (first
                  | (go_at_call 181; refine (refuseIf_any _ _ _).mono ?_; rintro e w9 ⟨rfl, rfl⟩; simp only [refE])
                  | (go_at_call 256; refine (HC.out _).mono ?_; rintro e w2 ⟨rfl, hb2⟩)
                  | (go_at_call 257; refine (HT.out _ _ rfl).mono ?_; rintro e w3 ⟨he, hb3⟩; replace he : e = .returned (.agg #[.string s, .int .i64 (q : Int)]) ∧ q ≤ s.size := he; obtain ⟨rfl, hqs⟩ := he; have hql : q < s.size := (by omega); have dq : decide ((0 : Int) < (s.size : Int) - (q : Int)) = true := decide_eq_true (by omega))
                  | (go_at_call 258; refine (left_at s _ q _ rfl HS.out hqs).mono ?_; rintro e w4 ⟨rfl, hw4⟩))

                refine ⟨rfl, show ckPost (.error 400) _ from rfl, ?_⟩
                exact below_then (below_then (below_then (below_then HBW.out hb2) (below_a1 _ _)) hb3) (below_a1 _ _)
          · have hz1 : ((z : Int) == 0) = false := beq_eq_false_iff_ne.2 (by omega)
            clear K4 HT
            cases hd : datQ s E2 z
            · have HD := hideB2 (fun W => HDB.out W hd)
              obtain rfl : X = .error 400 := by rw [← hx.out]; exact K5.out h3 hz0 hd
              clear K5 K6 HDB HDO hx hd
              go_wp2_with (first
                | (go_at_call 181; refine (refuseIf_any _ _ _).mono ?_; rintro e w9 ⟨rfl, rfl⟩; simp only [refE])
                | (go_at_call 256; refine (HC.out _).mono ?_; rintro e w2 ⟨rfl, hb2⟩)
                | (go_at_call 259; refine (HD.out _).mono ?_; rintro e w3 ⟨rfl, hb3⟩))
              exact ⟨rfl, show ckPost (.error 400) _ from rfl, below_then (below_then (below_then HBW.out hb2) (below_a1 _ _)) hb3⟩
            · have HD := hideB2 (fun W => HDO.out W hd)
              have hsz : E2 + z + 2 ≤ s.size := by
                unfold datQ at hd
                rw [Bool.and_eq_true, decide_eq_true_eq] at hd
                exact hd.1
              have HNX := hideB2 ((K6.out h3 hz0 hd).symm.trans hx.out)
              have hps : (s.extract E2 (E2 + z)).size = z := by rw [ByteArray.size_extract]; omega
              have HAP := hideB2 (size_app' body (s.extract E2 (E2 + z)))
              have HN := hn
              clear K5 K6 HDB HDO hx hd hn
              generalize s.extract E2 (E2 + z) = P at *
              have HPS := hideB2 hps
              have hps2 : P.size ≤ 600 := by omega
              clear hps
              go_wp2_with (first
                | (go_at_call 181; refine (refuseIf_any _ _ _).mono ?_; rintro e w9 ⟨rfl, rfl⟩; simp only [refE])
                | (go_at_call 256; refine (HC.out _).mono ?_; rintro e w2 ⟨rfl, hb2⟩)
                | (go_at_call 259; refine (HD.out _).mono ?_; rintro e w3 ⟨rfl, hb3⟩; have B3 := ((HB1.out.later hb2).alloc (.cells #[.string s, .int .i64 (E2 : Int)] 183)).later hb3; obtain ⟨x0, x1⟩ := B3.c2; have y0 := B3.free 0; have y1 := B3.free 1; have hlt3 := B3.lt))
              refine ⟨⟨m, E2 + z + 2, body ++ P, hsz, ?_, ?_, rfl, HNX.out, ?_, ?_⟩, ?_⟩
              · show 601 ≤ m + (body ++ P).size
                have h1 := HAP.out
                have h2 := HPS.out
                have h4 := HN.out
                omega
              · have h1 := HAP.out
                have h2 := HPS.out
                omega
              · rw [show ((E2 + z + 2 : Nat) : Int) = (E2 : Int) + ((z : Int) + 2) by omega]
                exact (B3.set2 _ _).alloc _
              · exact below_alloc' (below_set2 (g := w.heap.size) (below_then (below_then (below_then HBW.out hb2) (below_a1 _ _)) hb3) (Nat.le_refl _) _ _) (Nat.le_refl _) _
              · rw [lenOf_string, lenOf_string]
                have h1 := HAP.out
                have h2 := HPS.out
                omega
end Go.Proofs.YthdgeepedofleaaGreatDoor
namespace Go.Proofs.YthdgeepedofleaaGreatDoor
set_option linter.unusedVariables false
set_option linter.unusedSimpArgs false
open Go.RowKit
set_option maxHeartbeats 2000000 in
theorem l6upto_any (s : ByteArray) (w : World) (hs : s.size ≤ maxLen) :
    Calls Tryz.prog 124 #[.string s, .int .u8 59] w fun e w' => e = .returned (.string (uptoS s)) ∧ w' = w := by
  have hs' := hs
  unfold maxLen at hs'
  generalize hR : uptoS s = R
  have HR := hideB2 hR
  clear hR
  go_enter Tryz.func124, Tryz.ntmps124
  go_wp2
  go_loop [5] (fun i => ∃ k : Nat, k ≤ s.size ∧ i = .int .i64 k ∧ ∀ j, j < k → at8 s j ≠ 59) (fun i => s.size - (intOf i).toNat)
  case atStart => exact ⟨0, Nat.zero_le _, rfl, fun j hj => by omega⟩
  case round =>
    obtain ⟨k, hk, rfl, hall⟩ := hrel
    have Hall := hideB2 hall
    clear hall
    by_cases hlt : k < s.size
    · have hat : s[k] = at8 s k := at8_eq s k hlt
      by_cases hc : at8 s k = 59
      · have h59 : ((s[k].toNat : Int) == 59) = true := by rw [hat, hc]; rfl
        have HE := hideB2 (show R = s.extract 0 k by rw [← HR.out]; exact uptoS_some (idxSc_of hlt hc Hall.out))
        clear hat hc
        go_wp2
        go_ret
        exact ⟨ret_str HE.out, rfl⟩
      · have h59 : ((s[k].toNat : Int) == 59) = false := by
          rw [beq_eq_false_iff_ne, hat]
          intro hh
          exact hc (UInt8.toNat_inj.1 (by have : (at8 s k).toNat = 59 := by omega
                                          rw [this]; rfl))
        have Hc := hideB2 hc
        clear hat hc
        go_wp2
        go_round
        case rel => exact ⟨k + 1, by omega, by go_num, all_succ Hall.out Hc.out⟩
        case measure => simp [intOf]; omega
    · have HE := hideB2 (show R = s by
        rw [← HR.out]
        rcases idxSc_cases s with hi | ⟨i, hi, hil⟩
        · exact uptoS_none hi
        · exact absurd (idxSc_some hi).2.1 (Hall.out i (by omega)))
      go_wp2
      go_ret
      exact ⟨ret_str HE.out, rfl⟩
theorem below_alloc2 {B : Nat} {w0 w : World} (h : Below B w0 w) (hB : B ≤ w0.heap.size) (o : Obj) : Below B w0 (w.alloc o) := h.alloc (Nat.le_trans hB h.size) o
set_option maxRecDepth 100000 in
set_option maxHeartbeats 8000000 in
theorem l6trailer_any (s : ByteArray) (k : Nat) (w : World) (hs : s.size ≤ maxLen) (hk : k ≤ s.size) :
    Calls Tryz.prog 208 #[.agg #[.string s, .int .i64 (k : Int)]] w fun e w' => e = .returned (.bool (decide (trE s 21 k = some s.size))) ∧ Below w.heap.size w w' := by
  have HB := hideB2 (below_a1 w (.cells #[.string s, .int .i64 (k : Int)] 183))
  have A1 := hideB2 (Blk.new w #[.string s, .int .i64 (k : Int)] 183)
  have HS := hideB2 hs
  generalize hT : trE s 21 k = T
  generalize hR : decide (T = some s.size) = R
  have HT := hideB2 hT
  have HR := hideB2 hR
  have HK := hideB2 hk
  clear hT hR hs hk
  go_enter Tryz.func208, Tryz.ntmps208
  go_wp2
  generalize hW : w.alloc (.cells #[.string s, .int .i64 (k : Int)] 183) = W1 at *
  clear hW
  go_loopw [3] (fun i wr => ∃ k' c : Nat, k' ≤ s.size ∧ c ≤ 21 ∧ i = .int .i64 c ∧ Hid (trE s (21 - c) k' = T) ∧ Blk wr w.heap.size #[.string s, .int .i64 (k' : Int)] 183 ∧ Below w.heap.size w wr) (fun i _ => 21 - (intOf i).toNat)
  case atStart => exact ⟨k, 0, HK.out, by omega, rfl, HT.out, A1.out, HB.out⟩
  case round =>
    obtain ⟨k', c, hk', hc, rfl, ht, hb1, hbw⟩ := hrel
    clear A1 HB HT HK
    have HB1 := hideB2 hb1
    have HBW := hideB2 hbw
    obtain ⟨p0, p1⟩ := hb1.c2
    clear hb1 hbw
    by_cases hc21 : c = 21
    · subst hc21
      have HF := hideB2 (show R = false by rw [← HR.out, ← ht.out]; rfl)
      obtain rfl := HF.out
      clear HF ht
      go_wp2
      go_ret
      exact ⟨rfl, HBW.out⟩
    · have hc20 : (c : Int) ≤ 20 := by omega
      have HTL := hideB2 (fun W => sTakeLine_ok s k' W HS.out hk')
      have HT0 := hideB2 (fun h => trE_bad (s := s) (n := 20 - c) (k := k') h)
      have HT1 := hideB2 (fun h h' => trE_end (s := s) (n := 20 - c) (k := k') h h')
      have HT2 := hideB2 (fun h h' h'' => trE_no (s := s) (n := 20 - c) (k := k') h h' h'')
      have HT3 := hideB2 (fun h h' h'' => trE_next (s := s) (n := 20 - c) (k := k') h h' h'')
      rw [show 20 - c + 1 = 21 - c by omega, ht.out] at HT0 HT1 HT2 HT3
      by_cases h1 : tlC s k' = 0
      · have hE := tlE_ok hk' h1
        have hz := lineAt_size hk'
        have hn := lenE_nil hk'
        rw [tlV_ok h1] at HTL
        change Hid (∀ W, Calls _ _ _ W fun e w' => e = .returned (.tuple #[.string (lineAt s k'), .agg #[.string s, .int .i64 ((tlE s k' : Int) + 2)], .int .i64 0]) ∧ Below W.heap.size W w') at HTL
        by_cases h2 : (300 : Int) < ((lineAt s k').size : Int)
        · have HF := hideB2 (show R = false by rw [← HR.out, HT0.out (by unfold lnQ; rw [decide_eq_false (show ¬ tlE s k' - k' ≤ 300 by omega), Bool.and_false])]; rfl)
          obtain rfl := HF.out
          clear HF HT0 HT1 HT2 HT3 ht hz hn h1
          generalize lineAt s k' = L at *
          generalize tlE s k' = E at *
          go_wp2_with (go_at_call 157; refine (HTL.out _).mono ?_; rintro e w2 ⟨rfl, hb2⟩)
          go_ret
          exact ⟨rfl, below_then (below_then HBW.out hb2) (below_a1 _ _)⟩
        · have hq : lnQ s k' = true := lnQ_iff.2 ⟨h1, by omega⟩
          have d2 : decide ((300 : Int) < ((lineAt s k').size : Int)) = false := decide_eq_false h2
          have hL : Hid ((lineAt s k').size ≤ maxLen) := by
            show (lineAt s k').size ≤ maxLen
            unfold maxLen; omega
          by_cases he : tlE s k' = k'
          · have HF := hideB2 (show R = ((k' : Int) + 2 == (s.size : Int)) by
              rw [← HR.out, HT1.out hq he]
              by_cases h : k' + 2 = s.size
              · rw [decide_eq_true (by rw [h])]; symm; rw [beq_iff_eq]; omega
              · rw [decide_eq_false (fun hh => h (Option.some.inj hh))]; symm; rw [beq_eq_false_iff_ne]; omega)
            rw [decide_eq_true he] at hn
            rw [he] at HTL
            clear HT0 HT1 HT2 HT3 ht hz h1 hE he h2
            generalize lineAt s k' = L at *
            go_wp2_with fail
            refine (HTL.out _).mono ?_
            rintro e w2 ⟨rfl, hb2⟩
            have B2 := HB1.out.later hb2
            obtain ⟨x0, x1⟩ := B2.c2
            have y0 := B2.free 0
            have y1 := B2.free 1
            have hlt := B2.lt
            go_wp2
            go_ret
            exact ⟨ret_bool HF.out, below_alloc2 (below_set2 (g := w.heap.size) (below_then HBW.out hb2) (Nat.le_refl _) _ _) (Nat.le_refl _) _⟩
          · rw [decide_eq_false he] at hn
            cases hr : readO (lineAt s k')
            · have HF := hideB2 (show R = false by rw [← HR.out, HT2.out hq he hr]; rfl)
              have HRF := hideB2 (fun W => sReadField_any (lineAt s k') W hL.out)
              rw [hr] at HRF
              obtain rfl := HF.out
              clear HF HT0 HT1 HT2 HT3 ht hz h1 hE he h2 hr
              generalize (readF (lineAt s k')).1 = fx at *
              generalize (readF (lineAt s k')).2 = fy at *
              generalize lineAt s k' = L at *
              generalize tlE s k' = E at *
              go_wp2_with fail
              refine (HTL.out _).mono ?_
              rintro e w2 ⟨rfl, hb2⟩
              have B2 := HB1.out.later hb2
              obtain ⟨x0, x1⟩ := B2.c2
              have y0 := B2.free 0
              have y1 := B2.free 1
              have hlt := B2.lt
              go_wp2_with (go_at_call 160; refine (HRF.out _).mono ?_; rintro e w3 ⟨rfl, hb3⟩)
              go_ret
              exact ⟨rfl, below_then (below_then (below_alloc2 (below_set2 (g := w.heap.size) (below_then HBW.out hb2) (Nat.le_refl _) _ _) (Nat.le_refl _) _) hb3) (below_a1 _ _)⟩
            · have HRF := hideB2 (fun W => sReadField_any (lineAt s k') W hL.out)
              rw [hr] at HRF
              have HTN := hideB2 (show trE s (20 - c) (tlE s k' + 2) = T by rw [← HT3.out hq he hr])
              have HE2 := hideB2 hE
              clear HT0 HT1 HT2 HT3 ht hz h1 hE he h2 hr
              generalize (readF (lineAt s k')).1 = fx at *
              generalize (readF (lineAt s k')).2 = fy at *
              generalize lineAt s k' = L at *
              generalize tlE s k' = E at *
              go_wp2_with fail
              refine (HTL.out _).mono ?_
              rintro e w2 ⟨rfl, hb2⟩
              have B2 := HB1.out.later hb2
              obtain ⟨x0, x1⟩ := B2.c2
              have y0 := B2.free 0
              have y1 := B2.free 1
              have hlt := B2.lt
              have B3 := (B2.set2 (.string s) (.int .i64 ((E : Int) + 2))).alloc (.cells #[.string s, .int .i64 ((E : Int) + 2)] 183)
              go_wp2_with (go_at_call 160; refine (HRF.out _).mono ?_; rintro e w3 ⟨rfl, hb3⟩)
              refine ⟨⟨E + 2, c + 1, HE2.out, by omega, by go_num, ?_, ?_, ?_⟩, by simp [intOf]; omega⟩
              · show trE s (21 - (c + 1)) (E + 2) = T
                rw [show 21 - (c + 1) = 20 - c by omega]; exact HTN.out
              · rw [show ((E + 2 : Nat) : Int) = (E : Int) + 2 by omega]
                exact (B3.later hb3).alloc _
              · exact below_then (below_then (below_alloc2 (below_set2 (g := w.heap.size) (below_then HBW.out hb2) (Nat.le_refl _) _ _) (Nat.le_refl _) _) hb3) (below_a1 _ _)
      · obtain ⟨cc, hcc, hv⟩ := tlV_not h1
        rw [hv] at HTL
        unfold curZ at HTL
        have HF := hideB2 (show R = false by rw [← HR.out, HT0.out (lnQ_no h1)]; rfl)
        obtain rfl := HF.out
        clear HF HT0 HT1 HT2 HT3 ht h1 hv
        go_wp2_with (go_at_call 157; refine (HTL.out _).mono ?_; rintro e w2 ⟨rfl, hb2⟩)
        go_ret
        exact ⟨rfl, below_then (below_then HBW.out hb2) (below_a1 _ _)⟩
end Go.Proofs.YthdgeepedofleaaGreatDoor
namespace Go.Proofs.YthdgeepedofleaaGreatDoor
set_option linter.unusedVariables false
set_option linter.unusedSimpArgs false
open Go.RowKit
theorem eqB_crlf2 {s : ByteArray} : eqB s ⟨#[13, 10]⟩ = (s.toList == [13, 10]) := by unfold eqB; rw [ByteArray.toList_eq ⟨#[13, 10]⟩]
def lenOf2 (v : Value) : Nat :=
  match v with
  | .string s => s.size
  | _ => 0
theorem lenOf2_string (s : ByteArray) : lenOf2 (.string s) = s.size := rfl
theorem size_app2 (a b : ByteArray) : (a ++ b).size = a.size + b.size := by
  have : (a ++ b).data.toList = a.data.toList ++ b.data.toList := Go.Joins.data_append a b
  rw [← len_data, this, List.length_append, len_data, len_data]
theorem tnOk_no {s : ByteArray} {k m : Nat} (h : ¬ k + m ≤ s.size) : tnOk s (k : Int) (m : Int) = false := by
  unfold tnOk
  rw [show decide ((m : Int) ≤ (s.size : Int) - (k : Int)) = false from decide_eq_false (by omega), Bool.and_false]
set_option maxRecDepth 100000 in
set_option maxHeartbeats 16000000 in
theorem sChunks_any (s : ByteArray) (w : World) (hs : s.size ≤ maxLen) :
    Calls Tryz.prog 163 #[.string s] w fun e w' => e = .returned (.tuple #[.string (exB (ckX s)), .int .i64 (exC (ckX s))]) ∧ Below w.heap.size w w' := by
  have HB := hideB2 (below_a1 w (.cells #[.string s, .int .i64 0] 183))
  have A1 := hideB2 (Blk.new w #[.string s, .int .i64 0] 183)
  have HS := hideB2 hs
  generalize hX : ckX s = X
  have HX := hideB2 hX
  clear hs hX
  go_enter Tryz.func163, Tryz.ntmps163
  go_wp2
  generalize hW : w.alloc (.cells #[.string s, .int .i64 0] 183) = W1 at *
  clear hW
  go_loopw [5] (fun o wr => ∃ (n k : Nat) (body : ByteArray), k ≤ s.size ∧ Hid (601 ≤ n + body.size) ∧ body.size ≤ 600 ∧ o = .string body ∧ Hid (ckR s n k body = X) ∧ Blk wr w.heap.size #[.string s, .int .i64 (k : Int)] 183 ∧ Below w.heap.size w wr) (fun o _ => 601 - lenOf2 o)
  case atStart => exact ⟨601, 0, ⟨#[]⟩, Nat.zero_le _, (show 601 ≤ 601 + 0 by omega), Nat.zero_le _, rfl, HX.out, A1.out, HB.out⟩
  case round =>
    obtain ⟨n, k, body, hk, hn, hbo, rfl, hx, hb1, hbw⟩ := hrel
    clear A1 HB HX
    obtain ⟨m, rfl⟩ : ∃ m, n = m + 1 := ⟨n - 1, by have := hn.out; omega⟩
    have HB1 := hideB2 hb1
    have HBW := hideB2 hbw
    obtain ⟨p0, p1⟩ := hb1.c2
    clear hb1 hbw
    have HTL := hideB2 (fun W => sTakeLine_ok s k W HS.out hk)
    by_cases h1 : tlC s k = 0
    · have hE := tlE_ok hk h1
      have hz := lineAt_size hk
      rw [tlV_ok h1] at HTL
      change Hid (∀ W, Calls _ _ _ W fun e w' => e = .returned (.tuple #[.string (lineAt s k), .agg #[.string s, .int .i64 ((tlE s k : Int) + 2)], .int .i64 0]) ∧ Below W.heap.size W w') at HTL
      by_cases h2 : (300 : Int) < ((lineAt s k).size : Int)
      · obtain rfl : X = .error 400 := by rw [← hx.out]; exact ck_bad1 (by unfold lnQ; rw [decide_eq_false (show ¬ tlE s k - k ≤ 300 by omega), Bool.and_false])
        clear hx hz h1
        generalize lineAt s k = L at *
        generalize tlE s k = E at *
        go_wp2_with (go_at_call 157; refine (HTL.out _).mono ?_; rintro e w2 ⟨rfl, hb2⟩)
        go_ret2
        exact ⟨rfl, below_then (below_then HBW.out hb2) (below_a1 _ _)⟩
      · have hq : lnQ s k = true := lnQ_iff.2 ⟨h1, by omega⟩
        have d2 : decide ((300 : Int) < ((lineAt s k).size : Int)) = false := decide_eq_false h2
        have hL : (lineAt s k).size ≤ maxLen := by unfold maxLen; omega
        have HU := hideB2 (fun W => l6upto_any (lineAt s k) W hL)
        have HH := hideB2 (fun W => sReadHex_any (uptoS (lineAt s k)) W (Nat.le_trans (uptoS_size _) hL))
        cases h3 : rhexOk (uptoS (lineAt s k))
        · obtain rfl : X = .error 400 := by rw [← hx.out]; exact ck_bad2 hq h3
          rw [h3] at HH
          clear hx hz h1 hq h3 hL h2
          generalize uptoS (lineAt s k) = U at *
          generalize rhexN U = N at *
          generalize lineAt s k = L at *
          generalize tlE s k = E at *
          go_wp2_with (first | (go_at_call 157; refine (HTL.out _).mono ?_; rintro e w2 ⟨rfl, hb2⟩) | (go_at_call 124; refine (HU.out _).mono ?_; rintro e w3 ⟨rfl, rfl⟩) | (go_at_call 207; refine (HH.out _).mono ?_; rintro e w4 ⟨rfl, rfl⟩))
          go_ret2
          exact ⟨rfl, below_then (below_then HBW.out hb2) (below_a1 _ _)⟩
        · have hbd := rhexN_bd (uptoS (lineAt s k))
          obtain ⟨z, hzz⟩ := Int.eq_ofNat_of_zero_le hbd.1
          have K3 := hideB2 (fun h => ck_bad3 (s := s) (n := m) (k := k) (body := body) hq h3 h)
          have K4 := hideB2 (fun h h' => ck_end (s := s) (n := m) (k := k) (body := body) hq h3 h h')
          have K5 := hideB2 (fun h h5 h' => ck_bad4 (s := s) (n := m) (k := k) (z := z) (body := body) hq h3 h hzz h5 h')
          have K6 := hideB2 (fun h h5 h' => ck_next (s := s) (n := m) (k := k) (z := z) (body := body) hq h3 h hzz h5 h')
          have HT := hideB2 (fun W => l6trailer_any s (tlE s k + 2) W HS.out hE)
          rw [h3] at HH
          rw [hzz] at HH K3 K4 K5 K6 hbd
          clear hz h1 hq h3 hL h2 hzz
          generalize uptoS (lineAt s k) = U at *
          generalize lineAt s k = L at *
          have hEc : (tlE s k : Int) + 2 = ((tlE s k + 2 : Nat) : Int) := by omega
          rw [hEc] at HTL
          clear hEc
          generalize tlE s k + 2 = E2 at *
          have HTN := hideB2 (fun W => sTakeN_any s (E2 : Int) (z : Int) W HS.out (by omega))
          by_cases h4 : (600 : Int) - (body.size : Int) < (z : Int)
          · obtain rfl : X = .error 413 := by rw [← hx.out]; exact K3.out (by omega)
            clear hx K3 K4 K5 K6 HT HTN
            go_wp2_with (first | (go_at_call 157; refine (HTL.out _).mono ?_; rintro e w2 ⟨rfl, hb2⟩) | (go_at_call 124; refine (HU.out _).mono ?_; rintro e w3 ⟨rfl, rfl⟩) | (go_at_call 207; refine (HH.out _).mono ?_; rintro e w4 ⟨rfl, rfl⟩))
            go_ret2
            exact ⟨rfl, below_then (below_then HBW.out hb2) (below_a1 _ _)⟩
          · have d4 : decide ((600 : Int) - (body.size : Int) < (z : Int)) = false := decide_eq_false h4
            clear K3
            by_cases hz0 : z = 0
            · subst hz0
              have HKE := hideB2 (hx.out.symm.trans (K4.out (by omega) rfl))
              clear K4 K5 K6 hx HTN
              by_cases hT : trE s 21 E2 = some s.size
              · rw [decide_eq_true hT] at HT
                obtain rfl : X = .ok body := by rw [HKE.out]; exact if_pos hT
                clear HKE hT
                go_wp2_with (first | (go_at_call 157; refine (HTL.out _).mono ?_; rintro e w2 ⟨rfl, hb2⟩) | (go_at_call 124; refine (HU.out _).mono ?_; rintro e w3 ⟨rfl, rfl⟩) | (go_at_call 207; refine (HH.out _).mono ?_; rintro e w4 ⟨rfl, rfl⟩) | (go_at_call 208; refine (HT.out _).mono ?_; rintro e w5 ⟨rfl, hb5⟩))
                go_ret2
                exact ⟨rfl, below_then (below_then (below_then HBW.out hb2) (below_a1 _ _)) hb5⟩
              · rw [decide_eq_false hT] at HT
                obtain rfl : X = .error 400 := by rw [HKE.out]; exact if_neg hT
                clear HKE hT
                go_wp2_with (first | (go_at_call 157; refine (HTL.out _).mono ?_; rintro e w2 ⟨rfl, hb2⟩) | (go_at_call 124; refine (HU.out _).mono ?_; rintro e w3 ⟨rfl, rfl⟩) | (go_at_call 207; refine (HH.out _).mono ?_; rintro e w4 ⟨rfl, rfl⟩) | (go_at_call 208; refine (HT.out _).mono ?_; rintro e w5 ⟨rfl, hb5⟩))
                go_ret2
                exact ⟨rfl, below_then (below_then (below_then HBW.out hb2) (below_a1 _ _)) hb5⟩
            · have hz1 : ((z : Int) == 0) = false := beq_eq_false_iff_ne.2 (by omega)
              clear K4 HT
              by_cases h6 : E2 + z ≤ s.size
              · rw [tnV_yes h6] at HTN
                have HT2 := hideB2 (fun W => sTakeN_any s ((E2 + z : Nat) : Int) ((2 : Nat) : Int) W HS.out (by omega))
                by_cases h7 : E2 + z + 2 ≤ s.size
                · rw [tnV_yes (show (E2 + z) + 2 ≤ s.size by omega)] at HT2
                  rw [show ((E2 + z : Nat) : Int) = (E2 : Int) + (z : Int) by omega, show ((2 : Nat) : Int) = 2 from rfl] at HT2
                  cases h8 : eqB (s.extract (E2 + z) (E2 + z + 2)) ⟨#[13, 10]⟩
                  · obtain rfl : X = .error 400 := by rw [← hx.out]; exact K5.out (by omega) hz0 (by unfold datQ; rw [h8, Bool.and_false])
                    rw [eqB_crlf2] at h8
                    clear K5 K6 hx h6 h7
                    generalize s.extract (E2 + z) (E2 + z + 2) = Q at *
                    generalize s.extract E2 (E2 + z) = P at *
                    go_wp2_with fail
                    refine (HTL.out _).mono ?_
                    rintro e w2 ⟨rfl, hb2⟩
                    go_wp2_with fail
                    refine (HU.out _).mono ?_
                    rintro e w3 ⟨rfl, hw3⟩
                    rw [hw3]
                    go_wp2_with fail
                    refine (HH.out _).mono ?_
                    rintro e w4 ⟨rfl, hw4⟩
                    rw [hw4]
                    clear hw3 hw4
                    have D2 := hideB2 ((HB1.out.later hb2).alloc (.cells #[.string s, .int .i64 (E2 : Int)] 183))
                    have hB2 := below_then (below_then HBW.out hb2) (below_a1 _ (.cells #[.string s, .int .i64 (E2 : Int)] 183))
                    go_wp2_with fail
                    refine (HTN.out _).mono ?_
                    rintro e w5 ⟨rfl, hb5⟩
                    have D5 := hideB2 ((D2.out.later hb5).alloc (.cells #[.string s, .int .i64 ((E2 : Int) + (z : Int))] 183))
                    have hB5 := below_then (below_then hB2 hb5) (below_a1 _ (.cells #[.string s, .int .i64 ((E2 : Int) + (z : Int))] 183))
                    go_wp2_with fail
                    refine (HT2.out _).mono ?_
                    rintro e w6 ⟨rfl, hb6⟩
                    have B6 := D5.out.later hb6
                    have hB6 := below_then hB5 hb6
                    obtain ⟨x0, x1⟩ := B6.c2
                    have y0 := B6.free 0
                    have y1 := B6.free 1
                    have hlt6 := B6.lt
                    clear hb2 hB2 hb5 hB5 hb6 D2 D5
                    go_wp2
                    go_ret2
                    exact ⟨rfl, below_then hB6 (below_a1 _ _)⟩
                  · have HNX := hideB2 ((K6.out (by omega) hz0 (by unfold datQ; rw [decide_eq_true h7, h8]; rfl)).symm.trans hx.out)
                    rw [eqB_crlf2] at h8
                    have hps : (s.extract E2 (E2 + z)).size = z := by rw [ByteArray.size_extract]; omega
                    have HAP := hideB2 (size_app2 body (s.extract E2 (E2 + z)))
                    have HN := hn
                    clear K5 K6 hx h6 hn
                    generalize s.extract (E2 + z) (E2 + z + 2) = Q at *
                    generalize s.extract E2 (E2 + z) = P at *
                    have HPS := hideB2 hps
                    have hps2 : P.size ≤ 600 := by omega
                    clear hps
                    go_wp2_with fail
                    refine (HTL.out _).mono ?_
                    rintro e w2 ⟨rfl, hb2⟩
                    go_wp2_with fail
                    refine (HU.out _).mono ?_
                    rintro e w3 ⟨rfl, hw3⟩
                    rw [hw3]
                    go_wp2_with fail
                    refine (HH.out _).mono ?_
                    rintro e w4 ⟨rfl, hw4⟩
                    rw [hw4]
                    clear hw3 hw4
                    have D2 := hideB2 ((HB1.out.later hb2).alloc (.cells #[.string s, .int .i64 (E2 : Int)] 183))
                    have hB2 := below_then (below_then HBW.out hb2) (below_a1 _ (.cells #[.string s, .int .i64 (E2 : Int)] 183))
                    go_wp2_with fail
                    refine (HTN.out _).mono ?_
                    rintro e w5 ⟨rfl, hb5⟩
                    have D5 := hideB2 ((D2.out.later hb5).alloc (.cells #[.string s, .int .i64 ((E2 : Int) + (z : Int))] 183))
                    have hB5 := below_then (below_then hB2 hb5) (below_a1 _ (.cells #[.string s, .int .i64 ((E2 : Int) + (z : Int))] 183))
                    go_wp2_with fail
                    refine (HT2.out _).mono ?_
                    rintro e w6 ⟨rfl, hb6⟩
                    have B6 := D5.out.later hb6
                    have hB6 := below_then hB5 hb6
                    obtain ⟨x0, x1⟩ := B6.c2
                    have y0 := B6.free 0
                    have y1 := B6.free 1
                    have hlt6 := B6.lt
                    clear hb2 hB2 hb5 hB5 hb6 D2 D5
                    go_wp2
                    refine ⟨⟨m, E2 + z + 2, body ++ P, h7, ?_, ?_, rfl, HNX.out, ?_, ?_⟩, ?_⟩
                    · show 601 ≤ m + (body ++ P).size
                      have h1 := HAP.out
                      have h2 := HPS.out
                      have h4 := HN.out
                      omega
                    · have h1 := HAP.out
                      have h2 := HPS.out
                      omega
                    · rw [show ((E2 + z + 2 : Nat) : Int) = (E2 : Int) + (z : Int) + 2 by omega]
                      exact (B6.set2 _ _).alloc _
                    · exact below_alloc2 (below_set2 (g := w.heap.size) hB6 (Nat.le_refl _) _ _) (Nat.le_refl _) _
                    · rw [lenOf2_string, lenOf2_string]
                      have h1 := HAP.out
                      have h2 := HPS.out
                      omega
                · rw [tnV_no (tnOk_no h7)] at HT2
                  rw [show ((E2 + z : Nat) : Int) = (E2 : Int) + (z : Int) by omega, show ((2 : Nat) : Int) = 2 from rfl] at HT2
                  unfold curZ at HT2
                  obtain rfl : X = .error 400 := by rw [← hx.out]; exact K5.out (by omega) hz0 (by unfold datQ; rw [decide_eq_false h7]; rfl)
                  clear K5 K6 hx h6 h7
                  generalize s.extract E2 (E2 + z) = P at *
                  go_wp2_with fail
                  refine (HTL.out _).mono ?_
                  rintro e w2 ⟨rfl, hb2⟩
                  go_wp2_with fail
                  refine (HU.out _).mono ?_
                  rintro e w3 ⟨rfl, hw3⟩
                  rw [hw3]
                  go_wp2_with fail
                  refine (HH.out _).mono ?_
                  rintro e w4 ⟨rfl, hw4⟩
                  rw [hw4]
                  clear hw3 hw4
                  have D2 := hideB2 ((HB1.out.later hb2).alloc (.cells #[.string s, .int .i64 (E2 : Int)] 183))
                  have hB2 := below_then (below_then HBW.out hb2) (below_a1 _ (.cells #[.string s, .int .i64 (E2 : Int)] 183))
                  go_wp2_with fail
                  refine (HTN.out _).mono ?_
                  rintro e w5 ⟨rfl, hb5⟩
                  have D5 := hideB2 ((D2.out.later hb5).alloc (.cells #[.string s, .int .i64 ((E2 : Int) + (z : Int))] 183))
                  have hB5 := below_then (below_then hB2 hb5) (below_a1 _ (.cells #[.string s, .int .i64 ((E2 : Int) + (z : Int))] 183))
                  go_wp2_with fail
                  refine (HT2.out _).mono ?_
                  rintro e w6 ⟨rfl, hb6⟩
                  have B6 := D5.out.later hb6
                  have hB6 := below_then hB5 hb6
                  obtain ⟨x0, x1⟩ := B6.c2
                  have y0 := B6.free 0
                  have y1 := B6.free 1
                  have hlt6 := B6.lt
                  clear hb2 hB2 hb5 hB5 hb6 D2 D5
                  go_wp2
                  go_ret2
                  exact ⟨rfl, below_then hB6 (below_a1 _ _)⟩
              · rw [tnV_no (tnOk_no h6)] at HTN
                obtain rfl : X = .error 400 := by rw [← hx.out]; exact K5.out (by omega) hz0 (by unfold datQ; rw [decide_eq_false (show ¬ E2 + z + 2 ≤ s.size by omega)]; rfl)
                unfold curZ at HTN
                clear K5 K6 hx h6
                go_wp2_with (first | (go_at_call 157; refine (HTL.out _).mono ?_; rintro e w2 ⟨rfl, hb2⟩) | (go_at_call 124; refine (HU.out _).mono ?_; rintro e w3 ⟨rfl, rfl⟩) | (go_at_call 207; refine (HH.out _).mono ?_; rintro e w4 ⟨rfl, rfl⟩) | (go_at_call 209; refine (HTN.out _).mono ?_; rintro e w5 ⟨rfl, hb5⟩))
                go_ret2
                exact ⟨rfl, below_then (below_then (below_then (below_then HBW.out hb2) (below_a1 _ _)) hb5) (below_a1 _ _)⟩
    · obtain ⟨cc, hcc, hv⟩ := tlV_not h1
      rw [hv] at HTL
      unfold curZ at HTL
      obtain rfl : X = .error 400 := by rw [← hx.out]; exact ck_bad1 (lnQ_no h1)
      clear hx h1 hv
      go_wp2_with (go_at_call 157; refine (HTL.out _).mono ?_; rintro e w2 ⟨rfl, hb2⟩)
      go_ret2
      exact ⟨rfl, below_then (below_then HBW.out hb2) (below_a1 _ _)⟩
end Go.Proofs.YthdgeepedofleaaGreatDoor
namespace Go.Proofs.YthdgeepedofleaaGreatDoor
set_option linter.unusedVariables false
set_option linter.unusedSimpArgs false
open Go.RowKit
theorem bod_other {s : ByteArray} {k n : Int} (h0 : ¬ k = 0) (h1 : ¬ k = 1) (h2 : ¬ k = 2) (h3 : ¬ k = 3) : bodX s k n = .error 400 := by
  unfold bodX; rw [if_neg h0, if_neg h1, if_neg h2, if_neg h3]
theorem bod_0 {s : ByteArray} {n : Int} : bodX s 0 n = if s.size = 0 then .ok s else .error 400 := rfl
theorem bod_1 {s : ByteArray} {n : Int} : bodX s 1 n = if 600 < n then .error 413 else if (s.size : Int) = n then .ok s else .error 400 := rfl
theorem bod_2 {s : ByteArray} {n : Int} : bodX s 2 n = ckX s := rfl
theorem bod_3 {s : ByteArray} {n : Int} : bodX s 3 n = if 600 < s.size then .error 413 else .ok s := rfl
theorem empty_iff (s : ByteArray) : s.toList.isEmpty = decide (s.size = 0) := by
  have hl : s.toList.length = s.size := by rw [ByteArray.toList_eq, len_data]
  cases h : s.toList with
  | nil => rw [← hl, h]; rfl
  | cons a r => rw [← hl, h]; rfl
set_option maxHeartbeats 4000000 in
theorem takenBody_any (s : ByteArray) (k n : Int) (w : World) (hs : s.size ≤ maxLen) (X : Except Int ByteArray) (hX : bodX s k n = X) :
    Calls Tryz.prog 179 #[.string s, .int .i64 k, .int .i64 n] w fun e w' => ckPost X e ∧ Below w.heap.size w w' := by
  by_cases h0 : k = 0
  · subst h0
    rw [bod_0] at hX
    have he := empty_iff s
    by_cases hz : s.size = 0
    · rw [if_pos hz] at hX
      subst hX
      rw [decide_eq_true hz] at he
      go_enter Tryz.func179, Tryz.ntmps179
      go_wp2_with (go_at_call 181; refine (refuseIf_any _ _ _).mono ?_; rintro e w9 ⟨rfl, rfl⟩; simp only [refE])
      go_ret
      exact ⟨show ckPost (.ok s) _ from rfl, Below.refl _ _⟩
    · rw [if_neg hz] at hX
      subst hX
      rw [decide_eq_false hz] at he
      go_enter Tryz.func179, Tryz.ntmps179
      go_wp2_with (go_at_call 181; refine (refuseIf_any _ _ _).mono ?_; rintro e w9 ⟨rfl, rfl⟩; simp only [refE])
      exact ⟨rfl, show ckPost (.error 400) _ from rfl, Below.refl _ _⟩
  · by_cases h1 : k = 1
    · subst h1
      rw [bod_1] at hX
      clear h0
      by_cases h6 : 600 < n
      · rw [if_pos h6] at hX
        subst hX
        go_enter Tryz.func179, Tryz.ntmps179
        go_wp2_with (go_at_call 181; refine (refuseIf_any _ _ _).mono ?_; rintro e w9 ⟨rfl, rfl⟩; simp only [refE])
        exact ⟨rfl, show ckPost (.error 413) _ from rfl, Below.refl _ _⟩
      · rw [if_neg h6] at hX
        have d6 : decide (600 < n) = false := decide_eq_false h6
        by_cases h7 : (s.size : Int) = n
        · rw [if_pos h7] at hX
          subst hX
          subst h7
          have hb : ((s.size : Int) != (s.size : Int)) = false := by simp
          go_enter Tryz.func179, Tryz.ntmps179
          go_wp2_with (go_at_call 181; refine (refuseIf_any _ _ _).mono ?_; rintro e w9 ⟨rfl, rfl⟩; simp only [refE])
          go_ret
          exact ⟨show ckPost (.ok s) _ from rfl, Below.refl _ _⟩
        · rw [if_neg h7] at hX
          subst hX
          have hb : ((s.size : Int) != n) = true := by simpa using h7
          go_enter Tryz.func179, Tryz.ntmps179
          go_wp2_with (go_at_call 181; refine (refuseIf_any _ _ _).mono ?_; rintro e w9 ⟨rfl, rfl⟩; simp only [refE])
          exact ⟨rfl, show ckPost (.error 400) _ from rfl, Below.refl _ _⟩
    · by_cases h2 : k = 2
      · subst h2
        rw [bod_2] at hX
        clear h0 h1
        have HT := hideB2 (fun W => takenChunks_any s W hs X hX)
        clear hX
        cases X with
        | ok b =>
          go_enter Tryz.func179, Tryz.ntmps179
          go_wp2_with fail
          refine (HT.out _).mono ?_
          rintro e w2 ⟨he, hb2⟩
          replace he : e = .returned (.string b) := he
          subst he
          go_wp2
          go_ret
          exact ⟨show ckPost (.ok b) _ from rfl, hb2⟩
        | error c =>
          go_enter Tryz.func179, Tryz.ntmps179
          go_wp2_with fail
          refine (HT.out _).mono ?_
          rintro e w2 ⟨he, hb2⟩
          replace he : e = .panicked (gone c) := he
          subst he
          go_wp2
          exact ⟨rfl, show ckPost (.error c) _ from rfl, hb2⟩
      · by_cases h3 : k = 3
        · subst h3
          rw [bod_3] at hX
          clear h0 h1 h2
          by_cases h6 : 600 < s.size
          · rw [if_pos h6] at hX
            subst hX
            have h6' : (600 : Int) < (s.size : Int) := by omega
            go_enter Tryz.func179, Tryz.ntmps179
            go_wp2_with (go_at_call 181; refine (refuseIf_any _ _ _).mono ?_; rintro e w9 ⟨rfl, rfl⟩; simp only [refE])
            exact ⟨rfl, show ckPost (.error 413) _ from rfl, Below.refl _ _⟩
          · rw [if_neg h6] at hX
            subst hX
            have d6 : decide ((600 : Int) < (s.size : Int)) = false := decide_eq_false (by omega)
            go_enter Tryz.func179, Tryz.ntmps179
            go_wp2_with (go_at_call 181; refine (refuseIf_any _ _ _).mono ?_; rintro e w9 ⟨rfl, rfl⟩; simp only [refE])
            go_ret
            exact ⟨show ckPost (.ok s) _ from rfl, Below.refl _ _⟩
        · rw [bod_other h0 h1 h2 h3] at hX
          subst hX
          have g0 : (k == 0) = false := by simpa using h0
          have g1 : (k == 1) = false := by simpa using h1
          have g2 : (k == 2) = false := by simpa using h2
          have g3 : (k == 3) = false := by simpa using h3
          clear h0 h1 h2 h3
          go_enter Tryz.func179, Tryz.ntmps179
          go_wp2
          exact ⟨rfl, show ckPost (.error 400) _ from rfl, Below.refl _ _⟩
set_option maxHeartbeats 4000000 in
theorem l6body_any (s : ByteArray) (k n : Int) (w : World) (hs : s.size ≤ maxLen) :
    Calls Tryz.prog 121 #[.string s, .int .i64 k, .int .i64 n] w fun e w' => e = .returned (.tuple #[.string (exB (bodX s k n)), .int .i64 (exC (bodX s k n))]) ∧ Below w.heap.size w w' := by
  by_cases h0 : k = 0
  · subst h0
    rw [bod_0]
    have he := empty_iff s
    by_cases hz : s.size = 0
    · rw [if_pos hz]
      rw [decide_eq_true hz] at he
      have hs0 : s = ⟨#[]⟩ := by
        cases s with | mk d =>
        have : d.size = 0 := hz
        rw [Array.size_eq_zero_iff] at this
        rw [this]
      simp only [exB, exC]
      go_enter Tryz.func121, Tryz.ntmps121
      go_wp2
      go_ret2
      exact ⟨by rw [hs0]; rfl, Below.refl _ _⟩
    · rw [if_neg hz]
      rw [decide_eq_false hz] at he
      simp only [exB, exC]
      go_enter Tryz.func121, Tryz.ntmps121
      go_wp2
      go_ret2
      exact ⟨rfl, Below.refl _ _⟩
  · by_cases h1 : k = 1
    · subst h1
      rw [bod_1]
      clear h0
      by_cases h6 : 600 < n
      · rw [if_pos h6]
        simp only [exB, exC]
        go_enter Tryz.func121, Tryz.ntmps121
        go_wp2
        go_ret2
        exact ⟨rfl, Below.refl _ _⟩
      · rw [if_neg h6]
        have d6 : decide (600 < n) = false := decide_eq_false h6
        by_cases h7 : (s.size : Int) = n
        · rw [if_pos h7]
          subst h7
          have hb : ((s.size : Int) != (s.size : Int)) = false := by simp
          simp only [exB, exC]
          go_enter Tryz.func121, Tryz.ntmps121
          go_wp2
          go_ret2
          exact ⟨rfl, Below.refl _ _⟩
        · rw [if_neg h7]
          have hb : ((s.size : Int) != n) = true := by simpa using h7
          simp only [exB, exC]
          go_enter Tryz.func121, Tryz.ntmps121
          go_wp2
          go_ret2
          exact ⟨rfl, Below.refl _ _⟩
    · by_cases h2 : k = 2
      · subst h2
        rw [bod_2]
        clear h0 h1
        have HT := hideB2 (fun W => sChunks_any s W hs)
        generalize exB (ckX s) = b at *
        generalize exC (ckX s) = c at *
        go_enter Tryz.func121, Tryz.ntmps121
        go_wp2_with fail
        refine (HT.out _).mono ?_
        rintro e w2 ⟨rfl, hb2⟩
        go_wp2
        go_ret2
        exact ⟨rfl, hb2⟩
      · by_cases h3 : k = 3
        · subst h3
          rw [bod_3]
          clear h0 h1 h2
          by_cases h6 : 600 < s.size
          · rw [if_pos h6]
            have h6' : (600 : Int) < (s.size : Int) := by omega
            simp only [exB, exC]
            go_enter Tryz.func121, Tryz.ntmps121
            go_wp2
            go_ret2
            exact ⟨rfl, Below.refl _ _⟩
          · rw [if_neg h6]
            have d6 : decide ((600 : Int) < (s.size : Int)) = false := decide_eq_false (by omega)
            simp only [exB, exC]
            go_enter Tryz.func121, Tryz.ntmps121
            go_wp2
            go_ret2
            exact ⟨rfl, Below.refl _ _⟩
        · rw [bod_other h0 h1 h2 h3]
          have g0 : (k == 0) = false := by simpa using h0
          have g1 : (k == 1) = false := by simpa using h1
          have g2 : (k == 2) = false := by simpa using h2
          have g3 : (k == 3) = false := by simpa using h3
          clear h0 h1 h2 h3
          simp only [exB, exC]
          go_enter Tryz.func121, Tryz.ntmps121
          go_wp2
          go_ret2
          exact ⟨rfl, Below.refl _ _⟩
end Go.Proofs.YthdgeepedofleaaGreatDoor
namespace Go.Proofs.YthdgeepedofleaaGreatDoor
set_option linter.unusedVariables false
set_option linter.unusedSimpArgs false
open Go.RowKit
theorem eqB_ch {s : ByteArray} : eqB s chB = (s.toList == [99, 104, 117, 110, 107, 101, 100]) := by unfold eqB; rw [ByteArray.toList_eq chB]; rfl
set_option maxHeartbeats 1000000 in
theorem onlyChunked_any (a : Option Addr) (c : Nat) (ws : List ByteArray) (w : World) (hr : RowS w a ws) (hl : ws.length ≤ 4001) (hz : (tAt ws 0).size ≤ maxLen) :
    Calls Tryz.prog 221 #[.slice a ws.length c] w fun e w' => e = .returned (.bool (chkQ ws)) ∧ Below w.heap.size w w' := by
  cases h1 : ((ws.length : Int) == 1)
  · have HQ := hideB2 (show chkQ ws = false by unfold chkQ; rw [h1]; rfl)
    generalize hm : ws.length = m at *
    clear hm
    go_enter Tryz.func221, Tryz.ntmps221
    go_wp2
    go_ret
    exact ⟨ret_bool HQ.out, Below.refl _ _⟩
  · have HQ := hideB2 (show chkQ ws = eqB (foldB (tAt ws 0)) chB by unfold chkQ; rw [h1]; rfl)
    rw [eqB_ch] at HQ
    have h2 : (ws.length : Int) = 1 := by simpa using h1
    have h3 : 0 < ws.length := by omega
    obtain ⟨g, rfl, hc⟩ := hr.at h3
    have p0 : w.cell? ⟨g, 0, none⟩ = some (.string (tAt ws 0)) := hc 0 h3
    have HF := hideB2 (fun W => Fold_any (tAt ws 0) W hz)
    clear hc hr
    generalize tAt ws 0 = x at *
    generalize foldB x = y at *
    generalize hm : ws.length = m at *
    clear hm
    go_enter Tryz.func221, Tryz.ntmps221
    go_wp2_with (go_at_call 184; refine (HF.out _).mono ?_; rintro e w2 ⟨rfl, hb2⟩)
    go_ret
    exact ⟨ret_bool HQ.out, hb2⟩
theorem oneO_no0 {ws : List ByteArray} (h : ((ws.length : Int) == 0) = true) : oneO ws = false ∧ oneN ws = 0 := by
  have h1 : oneO ws = false := by unfold oneO; rw [h]; rfl
  exact ⟨h1, by unfold oneN; rw [h1]; rfl⟩
theorem oneO_no1 {ws : List ByteArray} (h : sameW ws = false) : oneO ws = false ∧ oneN ws = 0 := by
  have h1 : oneO ws = false := by unfold oneO; rw [h]; simp
  exact ⟨h1, by unfold oneN; rw [h1]; rfl⟩
theorem oneO_yes {ws : List ByteArray} (h0 : ((ws.length : Int) == 0) = false) (h : sameW ws = true) : oneO ws = rdecOk (tAt ws 0) ∧ oneN ws = rdecN (tAt ws 0) := by
  have h1 : oneO ws = rdecOk (tAt ws 0) := by unfold oneO; rw [h0, h]; rfl
  refine ⟨h1, ?_⟩
  unfold oneN; rw [h1]
  split
  · rfl
  · rename_i h2
    unfold rdecOk at h2
    unfold rdecN
    cases hr : rdec (tAt ws 0) with
    | none => rfl
    | some u => rw [hr] at h2; simp at h2
set_option maxHeartbeats 2000000 in
theorem onlyLength_any (a : Option Addr) (c : Nat) (ws : List ByteArray) (w : World) (hr : RowS w a ws) (hl : ws.length ≤ 4001) (hz : ∀ j, (tAt ws j).size ≤ maxLen) :
    Calls Tryz.prog 219 #[.slice a ws.length c] w fun e w' => e = .returned (.tuple #[.int .i64 (oneN ws), .bool (oneO ws)]) ∧ w' = w := by
  cases h0 : ((ws.length : Int) == 0)
  · have h3 : 0 < ws.length := by
      have : ¬ (ws.length : Int) = 0 := by simpa using h0
      omega
    obtain ⟨g, rfl, hc⟩ := hr.at h3
    have HC := hideB2 (show ∀ j, j < ws.length → w.cell? ⟨g, j, none⟩ = some (.string (tAt ws j)) from hc)
    have p0 := HC.out 0 h3
    have HY := hideB2 (fun h => oneO_yes h0 h)
    have HNO := hideB2 (fun h => oneO_no1 (ws := ws) h)
    have HS1 := hideB2 (fun h => sameW_yes (ws := ws) h)
    have HS0 := hideB2 (fun k hk h => sameW_no (ws := ws) (k := k) hk h)
    have HD := hideB2 (fun W => ReadDec_any (tAt ws 0) W (hz 0))
    clear hc hr hz
    generalize oneN ws = N at *
    generalize oneO ws = O at *
    generalize hx : tAt ws 0 = x at *
    have HX := hideB2 hx
    clear hx
    generalize hm : ws.length = m at *
    clear hm
    go_enter Tryz.func219, Tryz.ntmps219
    go_wp2
    go_loop [11] (fun i => ∃ k : Nat, k ≤ m ∧ i = .int .i64 k ∧ ∀ j, j < k → tAt ws j = x) (fun i => m - (intOf i).toNat)
    case atStart => exact ⟨0, Nat.zero_le _, rfl, fun j hj => absurd hj (by omega)⟩
    case round =>
      obtain ⟨k, hk, rfl, hall⟩ := hrel
      have HALL := hideB2 hall
      clear hall
      by_cases hlt : k < m
      · have pk := HC.out k hlt
        by_cases he : tAt ws k = x
        · have hbe : (x.toList != x.toList) = false := by simp
          have HE := hideB2 he
          rw [he] at pk
          clear he
          go_wp2
          go_round
          case rel => exact ⟨k + 1, by omega, by go_num, fun j hj => by
            by_cases e : j = k
            · subst e; exact HE.out
            · exact HALL.out j (by omega)⟩
          case measure => simp [intOf]; omega
        · have HF := hideB2 (HNO.out (HS0.out k hlt he))
          generalize tAt ws k = y at *
          have hbe : (y.toList == x.toList) = false := by
            rw [beq_eq_false_iff_ne]
            intro h
            apply he
            rw [ByteArray.toList_eq, ByteArray.toList_eq] at h
            exact bytes_ext h
          obtain ⟨e1, e2⟩ := HF.out
          clear he HF
          subst e1 e2
          go_wp2
          go_ret2
          exact ⟨rfl, rfl⟩
      · obtain rfl : k = m := by omega
        have HF := hideB2 (HY.out (HS1.out (fun j hj => HALL.out j hj)))
        go_wp2_with (go_at_call 225; refine (HD.out _).mono ?_; rintro e w' ⟨rfl, rfl⟩)
        go_ret2
        exact ⟨ret_ib HF.out.2 HF.out.1, rfl⟩
  · obtain ⟨e1, e2⟩ := oneO_no0 h0
    rw [e1, e2]
    clear e1 e2
    generalize hm : ws.length = m at *
    clear hm
    go_enter Tryz.func219, Tryz.ntmps219
    go_wp2
    go_ret2
    exact ⟨rfl, rfl⟩
set_option maxHeartbeats 4000000 in
theorem Framing_any (v : Value) (l : List Fd) (answer bare : Bool) (w : World) (hv : SlF w v l) (hl : l.length ≤ 1048576) (ht : totF l ≤ 1099511627776) :
    Calls Tryz.prog 178 #[v, .bool answer, .bool bare] w fun e w' => e = .returned (.tuple #[.int .i64 (frK l answer bare), .int .i64 (frN l answer bare)]) ∧ Below w.heap.size w w' := by
  have HF := hideB2 (fun W h => FieldsOk_any v l W h hl ht)
  have HG1 := hideB2 (fun W h => Get_any v l teN W h hl ht (by decide))
  have HG2 := hideB2 (fun W h => Get_any v l clN W h hl ht (by decide))
  have HW1 := hideB2 (fun W h => Words_any v l teN W h hl ht (by decide))
  have HW2 := hideB2 (fun W h => Words_any v l clN W h hl ht (by decide))
  have HV := hideB2 hv
  obtain ⟨a, c0, rfl⟩ := hv.form
  clear hv
  generalize l.length = m at *
  cases hq : fieldsQ l
  · obtain ⟨e1, e2⟩ := frK_no (answer := answer) (bare := bare) hq
    rw [e1, e2]
    have H1 := hideB2 hq
    clear hq e1 e2
    go_enter Tryz.func178, Tryz.ntmps178
    go_wp2_with (go_at_call 217; refine (HF.out _ HV.out).mono ?_; rintro e w1 ⟨rfl, hb1⟩; rw [H1.out])
    go_ret2
    exact ⟨rfl, hb1⟩
  · obtain ⟨e1, e2⟩ := frK_yes (answer := answer) (bare := bare) hq
    rw [e1, e2]
    have H1 := hideB2 hq
    clear hq e1 e2
    have WL1 := words_len l teN
    have WL2 := words_len l clN
    have WS1 := hideB2 (words_size l teN)
    have WS2 := hideB2 (words_size l clN)
    change Hid (∀ W, SlF W _ l → Calls _ _ _ W fun e w' => ∃ v', e = .returned v' ∧ BufS W w' v' (wordsL l teN)) at HW1
    change Hid (∀ W, SlF W _ l → Calls _ _ _ W fun e w' => ∃ v', e = .returned v' ∧ BufS W w' v' (wordsL l clN)) at HW2
    change Hid (∀ W, SlF W _ l → Calls _ _ _ W fun e w' => e = .returned (.tuple #[.string (getB l teN), .bool (teQ l)]) ∧ Below W.heap.size W w') at HG1
    change Hid (∀ W, SlF W _ l → Calls _ _ _ W fun e w' => e = .returned (.tuple #[.string (getB l clN), .bool (clQ l)]) ∧ Below W.heap.size W w') at HG2
    generalize wordsL l teN = ws1 at *
    generalize wordsL l clN = ws2 at *
    generalize teQ l = te at *
    generalize clQ l = cl at *
    generalize getB l teN = gb1 at *
    generalize getB l clN = gb2 at *
    have HO := hideB2 (fun a c W h => onlyLength_any a c ws2 W h WL2 WS2.out)
    have HC := hideB2 (fun a c W h => onlyChunked_any a c ws1 W h WL1 (WS1.out 0))
    generalize oneO ws2 = O at *
    generalize oneN ws2 = N at *
    generalize hCQ : chkQ ws1 = C at *
    go_enter Tryz.func178, Tryz.ntmps178
    go_wp2_with fail
    refine (HF.out _ HV.out).mono ?_
    rintro e w1 ⟨rfl, hb1⟩
    rw [H1.out]
    go_wp2_with fail
    refine (HG1.out _ (HV.out.later hb1)).mono ?_
    rintro e w2 ⟨rfl, hb2⟩
    have HB2 := hideB2 (below_then hb1 hb2)
    clear hb1 hb2
    go_wp2_with fail
    refine (HG2.out _ (HV.out.later HB2.out)).mono ?_
    rintro e w3 ⟨rfl, hb3⟩
    have HB3 := hideB2 (below_then HB2.out hb3)
    clear hb3 HB2
    go_wp2_with fail
    refine (HW2.out _ (HV.out.later HB3.out)).mono ?_
    rintro e w4 ⟨v4, rfl, hb4⟩
    obtain ⟨a4, c4, rfl, hr4⟩ := hb4.rows
    have HB4 := hideB2 (below_then HB3.out hb4.below)
    have HR4 := hideB2 hr4
    clear hb4 hr4 HB3
    generalize hm2 : ws2.length = m2 at *
    clear hm2
    go_wp2_with fail
    refine (HO.out _ _ _ HR4.out).mono ?_
    rintro e w5 ⟨rfl, rfl⟩
    clear HO HR4 HG1 HG2 HW2 HF
    cases te
    · cases cl <;> cases O <;> cases bare <;> cases answer
      all_goals
        go_wp2
        go_ret2
        exact ⟨rfl, HB4.out⟩
    · cases cl
      · go_wp2_with fail
        refine (HW1.out _ (HV.out.later HB4.out)).mono ?_
        rintro e w6 ⟨v6, rfl, hb6⟩
        obtain ⟨a6, c6, rfl, hr6⟩ := hb6.rows
        have HB6 := hideB2 (below_then HB4.out hb6.below)
        have HR6 := hideB2 hr6
        clear hb6 hr6 HB4
        generalize hm1 : ws1.length = m1 at *
        clear hm1
        go_wp2_with fail
        refine (HC.out _ _ _ HR6.out).mono ?_
        rintro e w7 ⟨rfl, hb7⟩
        have HB7 := hideB2 (below_then HB6.out hb7)
        clear hb7 HB6 HR6 HC
        cases C <;> cases bare
        all_goals
          go_wp2
          go_ret2
          exact ⟨rfl, HB7.out⟩
      · go_wp2
        go_ret2
        exact ⟨rfl, HB4.out⟩
end Go.Proofs.YthdgeepedofleaaGreatDoor
namespace Go.Proofs.YthdgeepedofleaaGreatDoor
set_option linter.unusedVariables false
set_option linter.unusedSimpArgs false
open Go.RowKit
/-- A store into a block that is none of the row's. -/
theorem SlF.oth {w : World} {v : Value} {l : List Fd} (h : SlF w v l) {g : Nat} (hne : ∀ b, v.ownBlock = some b → b ≠ g) (j : Nat) (x : Value) : SlF (w.setCell ⟨g, j, none⟩ x) v l :=
  h.gb (grown_set (grown_refl w (some g)) j x) (fun b hb e => hne b hb (Option.some.inj e).symm)
/-- What comes of a reader of a message. -/
def msPost (w : World) (X : Except Int Mg) (e : Ending) (w' : World) : Prop :=
  match X with
  | .ok g => ∃ v, e = .returned (mgV g v) ∧ BufF w w' v g.fs
  | .error c => e = .panicked (gone c) ∧ Below w.heap.size w w'
set_option maxRecDepth 100000 in
set_option maxHeartbeats 8000000 in
theorem takenMsg_any (s : ByteArray) (answer head : Bool) (w : World) (hs : s.size ≤ 1048576) (X : Except Int Mg) (hX : msX answer head s = X) (htab : Tab10 w) :
    Calls Tryz.prog 137 #[.string s, .bool answer, .bool head] w fun e w' => msPost w X e w' := by
  have HB := hideB2 (below_a1 w (.cells #[.string ⟨#[]⟩, .string ⟨#[]⟩, .int .i64 0, .string ⟨#[]⟩, .bool false, .slice none 0 0, .string ⟨#[]⟩] 50))
  have HA := hideB2 (Blk.new w #[.string ⟨#[]⟩, .string ⟨#[]⟩, .int .i64 0, .string ⟨#[]⟩, .bool false, .slice none 0 0, .string ⟨#[]⟩] 50)
  cases hh : hdX answer s with
  | error c =>
    obtain rfl : X = .error c := hX.symm.trans (msX_bad hh)
    have HT := hideB2 (fun W => takenHead_any s answer W hs _ hh)
    clear hX hh htab
    go_enter Tryz.func137, Tryz.ntmps137
    go_wp2_with fail
    refine (HT.out _).mono ?_
    rintro e w2 ⟨rfl, hb2⟩
    go_wp2
    exact ⟨rfl, show msPost w (.error c) _ _ from ⟨rfl, below_then HB.out hb2⟩⟩
  | ok y =>
    obtain ⟨⟨a, b, n, r⟩, fs, m⟩ := y
    obtain ⟨hz4, ha20, hb200, hr40, hf20, hms, htot, hfq⟩ := hdX_facts hh
    have HT := hideB2 (fun W => takenHead_any s answer W hs _ hh)
    have HXB := hideB2 (fun c h => (hX.symm.trans (msX_body (head := head) (c := c) hh h)))
    have HXN := hideB2 (fun body h h' => (hX.symm.trans (msX_no (head := head) (body := body) hh h h')))
    have HXY := hideB2 (fun body h h' => (hX.symm.trans (msX_yes (head := head) (body := body) hh h h')))
    simp only [mgR] at HXB HXN HXY
    have HTB := hideB2 htab
    have hnm : ∀ j, j < fs.length → (fdAt fs j).1.size ≤ 40 := fun j hj => by
      rw [fdAt_get hj]; exact (fieldQ_sizes (hfq _ (List.getElem_mem hj))).1
    have HNM := hideB2 hnm
    have hul : (unfrL fs).length ≤ 20 := Nat.le_trans (List.length_filter_le _ _) hf20
    have hut : totF (unfrL fs) ≤ 4600 := by
      have := totF_of (l := unfrL fs) (fun x hx => hfq x (List.mem_filter.1 hx).1)
      omega
    clear hX hh htab hfq hnm
    generalize hBR : bareR answer head n = BR at *
    have HFR := hideB2 (fun W h => Framing_any (.slice none 0 0) fs answer BR W h)
    have hez : (s.extract m s.size).size ≤ 4000 := by rw [ByteArray.size_extract]; omega
    have hmi : (m : Int) ≤ (s.size : Int) := by omega
    go_enter Tryz.func137, Tryz.ntmps137
    go_wp2_with fail
    refine (HT.out _).mono ?_
    rintro e w2 ⟨v, rfl, hbuf2⟩
    obtain ⟨va, vc, rfl⟩ := hbuf2.form
    have hb2 := hbuf2.below
    have hal := below_a1 w2 (.cells #[.string a, .string b, .int .i64 n, .string r, .bool false, .slice va fs.length vc, .string ⟨#[]⟩] 50)
    have M2 := Blk.new w2 #[.string a, .string b, .int .i64 n, .string r, .bool false, .slice va fs.length vc, .string ⟨#[]⟩] 50
    have A2 := (HA.out.later hb2).alloc (.cells #[.string a, .string b, .int .i64 n, .string r, .bool false, .slice va fs.length vc, .string ⟨#[]⟩] 50)
    have hsl := hbuf2.ans.1
    have hown : ∀ g, (Value.slice va fs.length vc).ownBlock = some g → g ≠ w2.heap.size := fun g h => by have := hsl.own_lt h; omega
    have S2 := hsl.later hal
    have hlt2 := (HA.out.later hb2).lt
    have HB2 := hideB2 (below_then (below_then HB.out hb2) hal)
    obtain ⟨m0, m1, m2, m3, m4, m5, m6⟩ := M2.c7
    have mf4 := M2.free 4
    have HM2 := hideB2 M2
    have HA2 := hideB2 A2
    have HS2 := hideB2 S2
    have HOW := hideB2 hown
    clear hbuf2 hb2 hal M2 A2 S2 hsl hown HT HFR HA HB
    go_upto_region 2 with fail
    generalize hW : w2.alloc (.cells #[.string a, .string b, .int .i64 n, .string r, .bool false, .slice va fs.length vc, .string ⟨#[]⟩] 50) = W2 at *
    clear hW
    generalize w2.heap.size = G at *
    go_cut [25] (fun c wc => c = .bool BR ∧ wc = W2.setCell ⟨G, 4, none⟩ (.bool BR))
    case first =>
      cases answer
      · obtain rfl : BR = false := hBR.symm
        go_wp2_with fail
        go_meet
        exact ⟨rfl, rfl⟩
      · cases head
        · obtain rfl : bareSt n = BR := hBR
          go_wp2_with (go_at_call 177; refine (bareStatus_any _ _).mono ?_; rintro e w3 ⟨rfl, rfl⟩)
          go_meet
          exact ⟨rfl, rfl⟩
        · obtain rfl : BR = true := hBR.symm
          go_wp2_with fail
          go_meet
          exact ⟨rfl, rfl⟩
    case rest =>
      obtain ⟨rfl, rfl⟩ := hcut
      have M3 : Blk (W2.setCell ⟨G, 4, none⟩ (.bool BR)) G #[.string a, .string b, .int .i64 n, .string r, .bool BR, .slice va fs.length vc, .string ⟨#[]⟩] 50 := HM2.out.set 4 (.bool BR)
      have A3 := HA2.out.other (show G ≠ w.heap.size by omega) 4 (.bool BR)
      have S3 := HS2.out.oth (g := G) HOW.out 4 (.bool BR)
      have hB3 := HB2.out.setCell (p := ⟨G, 4, none⟩) (show w.heap.size ≤ G by omega) (.bool BR)
      generalize hW : W2.setCell ⟨G, 4, none⟩ (.bool BR) = W3 at *
      clear hW m0 m1 m2 m3 m4 m5 m6 mf4 HM2 HA2 HS2 HB2
      have HFR := hideB2 (fun W h => Framing_any (.slice va fs.length vc) fs answer BR W h (by omega) (by omega))
      have HTK := hideB2 (fun W k n' Y hY => takenBody_any (s.extract m s.size) k n' W (by unfold maxLen; omega) Y hY)
      have HUF := hideB2 (fun W h => unframed_any (.slice va fs.length vc) fs W h (by omega) HNM.out)
      have HSZ := hideB2 (fun k n' body (h : bodX (s.extract m s.size) k n' = .ok body) => bodX_size hez h)
      generalize frK fs answer BR = K at *
      generalize frN fs answer BR = N at *
      obtain ⟨m0, m1, m2, m3, m4, m5, m6⟩ := M3.c7
      go_wp2_with fail
      refine (HFR.out _ S3).mono ?_
      rintro e w4 ⟨rfl, hb4⟩
      have M4 := M3.later hb4
      have A4 := A3.later hb4
      have S4 := S3.later hb4
      have hB4 := below_then hB3 hb4
      clear m0 m1 m2 m3 m4 m5 m6 M3 A3 S3 hB3 hb4 HFR
      generalize hY : bodX (s.extract m s.size) K N = Y at *
      go_wp2_with fail
      refine (HTK.out _ K N Y hY).mono ?_
      rintro e w5 ⟨he, hb5⟩
      have M5 := M4.later hb5
      have A5 := A4.later hb5
      have S5 := S4.later hb5
      have hB5 := below_then hB4 hb5
      clear M4 A4 S4 hB4 hb5 HTK
      cases Y with
      | error c =>
        obtain rfl : X = .error c := HXB.out c rfl
        replace he : e = .panicked (gone c) := he
        subst he
        go_wp2
        exact ⟨rfl, show msPost w (.error c) _ _ from ⟨rfl, hB5⟩⟩
      | ok body =>
        replace he : e = .returned (.string body) := he
        subst he
        have hbz := HSZ.out K N body hY
        have HXN2 := hideB2 (HXN.out body rfl)
        have HXY2 := hideB2 (HXY.out body rfl)
        clear HXB HXN HXY HSZ hY
        obtain ⟨m0, m1, m2, m3, m4, m5, m6⟩ := M5.c7
        have mf6 := M5.free 6
        have M6 : Blk (w5.setCell ⟨G, 6, none⟩ (.string body)) G #[.string a, .string b, .int .i64 n, .string r, .bool BR, .slice va fs.length vc, .string body] 50 := M5.set 6 (.string body)
        have A6 := A5.other (show G ≠ w.heap.size by omega) 6 (.string body)
        have S6 := S5.oth (g := G) HOW.out 6 (.string body)
        have hB6 := hB5.setCell (p := ⟨G, 6, none⟩) (show w.heap.size ≤ G by omega) (.string body)
        clear M5 A5 S5 hB5
        go_wp2_with fail
        generalize hW : w5.setCell ⟨G, 6, none⟩ (.string body) = W6 at *
        clear hW m0 m1 m2 m3 m4 m5 m6 mf6
        refine (HUF.out _ S6).mono ?_
        rintro e w7 ⟨v7, rfl, hbuf7⟩
        obtain ⟨ua, uc, rfl⟩ := hbuf7.form
        have hb7 := hbuf7.below
        have hglt := M6.lt
        have M7 := M6.later hb7
        have A7 := A6.later hb7
        have hB7 := below_then hB6 hb7
        have O7 : OwF W6.heap.size w7 (.slice ua (unfrL fs).length uc) (unfrL fs) := ⟨hbuf7.own, hb7.size⟩
        have hW6 := hB6.size
        obtain ⟨m0, m1, m2, m3, m4, m5, m6⟩ := M7.c7
        have mf5 := M7.free 5
        have M8 : Blk (w7.setCell ⟨G, 5, none⟩ (.slice ua (unfrL fs).length uc)) G #[.string a, .string b, .int .i64 n, .string r, .bool BR, .slice ua (unfrL fs).length uc, .string body] 50 := M7.set 5 _
        have A8 := A7.other (show G ≠ w.heap.size by omega) 5 (.slice ua (unfrL fs).length uc)
        have O8 := O7.set hglt 5 (.slice ua (unfrL fs).length uc)
        have hB8 := hB7.setCell (p := ⟨G, 5, none⟩) (show w.heap.size ≤ G by omega) (.slice ua (unfrL fs).length uc)
        have HMQ := hideB2 (fun W h h' => MsgOk_any a b r body n BR ua (unfrL fs).length uc (unfrL fs) W h rfl (by omega) (by omega) (by omega) (by omega) (by omega) (by omega) h')
        clear M6 A6 S6 hB6 hbuf7 hb7 HUF
        generalize hQ : msgQ ⟨a, b, n, r, BR, unfrL fs, body⟩ = Q at *
        obtain ⟨k0, k1, k2, k3, k4, k5, k6⟩ := M8.c7
        go_wp2_with fail
        generalize hW : w7.setCell ⟨G, 5, none⟩ (.slice ua (unfrL fs).length uc) = W8 at *
        clear hW m0 m1 m2 m3 m4 m5 m6 mf5 k0 k1 k2 k3 k4 k5 k6
        refine (HMQ.out _ O8.sl (tab_later HTB.out hB8)).mono ?_
        rintro e w9 ⟨rfl, hb9⟩
        have M9 := M8.later hb9
        have A9 := A8.later hb9
        have O9 := O8.later hb9
        have hB9 := below_then hB8 hb9
        clear M8 A8 O8 hB8 hb9 HMQ M7 A7 O7 hB7
        cases Q
        · obtain rfl : X = .error 431 := HXN2.out rfl
          go_wp2_with (go_at_call 181; refine (refuseIf_any _ _ _).mono ?_; rintro e w10 ⟨rfl, rfl⟩; simp only [refE])
          exact ⟨rfl, show msPost w (.error 431) _ _ from ⟨rfl, hB9⟩⟩
        · obtain rfl := HXY2.out rfl
          obtain ⟨m0, m1, m2, m3, m4, m5, m6⟩ := M9.c7
          obtain ⟨a0, a1, a2, a3, a4, a5, a6⟩ := A9.c7
          obtain ⟨f0, f1, f2, f3, f4, f5, f6⟩ := A9.f7
          have HA10 := hideB2 (A9.set7 (.string a) (.string b) (.int .i64 n) (.string r) (.bool BR) (.slice ua (unfrL fs).length uc) (.string body))
          have HO10 := hideB2 ((O9.set7 (g := w.heap.size) (by omega) (.string a) (.string b) (.int .i64 n) (.string r) (.bool BR) (.slice ua (unfrL fs).length uc) (.string body)).buf (w0 := w) hW6 (below_set7 hB9 (Nat.le_refl _) (.string a) (.string b) (.int .i64 n) (.string r) (.bool BR) (.slice ua (unfrL fs).length uc) (.string body)))
          clear M9 A9 O9 hB9
          go_wp2_with (go_at_call 181; refine (refuseIf_any _ _ _).mono ?_; rintro e w10 ⟨rfl, rfl⟩; simp only [refE])
          refine bodyPost_ret (results_cellS rfl _ _ _ rfl HA10.out Tryz.underlying50 Tryz.infoMsg) rfl (show msPost w (.ok _) _ _ from ⟨.slice ua (unfrL fs).length uc, rfl, HO10.out⟩)
end Go.Proofs.YthdgeepedofleaaGreatDoor
