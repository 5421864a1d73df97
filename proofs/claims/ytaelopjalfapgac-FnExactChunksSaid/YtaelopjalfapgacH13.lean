/-
  Chapter 6: a body out of its chunks; the program's readers, which give up by a panic.
-/
import Derived.Test.YtaelopjalfapgacMCk
import Derived.Test.YtaelopjalfapgacH10
import Derived.Test.YtaelopjalfapgacW11b
import Derived.Test.YtaelopjalfapgacW6
namespace Go.Proofs.Ytaelopjalfapgac
set_option linter.unusedVariables false
set_option linter.unusedSimpArgs false
open Go.RowKit
set_option maxRecDepth 100000 in
set_option maxHeartbeats 2000000 in
theorem chunkLine_ok (s : ByteArray) (k : Nat) (w : World) (hs : s.size ≤ maxLen) (hk : k ≤ s.size) (h : lnQ s k = true) :
    Calls Try.prog 44 #[.agg #[.string s, .int .i64 (k : Int)]] w fun e w' => e = .returned (.tuple #[.string (lineAt s k), .agg #[.string s, .int .i64 ((tlE s k : Int) + 2)]]) ∧ Below w.heap.size w w' := by
  have hs' := hs
  unfold maxLen at hs'
  have HB := hideB2 (below_a2 w (.cells #[.string s, .int .i64 (k : Int)] 35) (.cells #[.string ⟨#[]⟩, .int .i64 0] 35))
  have A2 := hideB2 (show Blk ((w.alloc (.cells #[.string s, .int .i64 (k : Int)] 35)).alloc (.cells #[.string ⟨#[]⟩, .int .i64 0] 35)) (w.heap.size + 1) #[.string ⟨#[]⟩, .int .i64 0] 35 by
    have := Blk.new (w.alloc (.cells #[.string s, .int .i64 (k : Int)] 35)) #[.string ⟨#[]⟩, .int .i64 0] 35
    simpa using this)
  have HTL := hideB2 (fun W => TakeLine_ok s k W hs hk)
  obtain ⟨h1, h2⟩ := lnQ_iff.1 h
  have hE := tlE_ok hk h1
  have hge := tlE_ge s k
  have hz := lineAt_size hk
  rw [tlV_ok h1] at HTL
  change Hid (∀ W, Calls _ _ _ W fun e w' => e = .returned (.tuple #[.string (lineAt s k), .agg #[.string s, .int .i64 ((tlE s k : Int) + 2)], .int .i64 0]) ∧ Below W.heap.size W w') at HTL
  clear h h1
  generalize tlE s k = E at *
  generalize lineAt s k = L at *
  have z0 : ((0 : Int) != 0) = false := rfl
  have d2 : decide ((300 : Int) < (L.size : Int)) = false := decide_eq_false (by omega)
  clear hz h2 hge
  go_enter Try.func44, Try.ntmps44
  go_wp2_with (first | (go_at_call 52; refine (HTL.out _).mono ?_; rintro e w2 ⟨rfl, hb2⟩) | (go_at_call 35; refine (refuseIf_any _ _ _).mono ?_; rintro e w3 ⟨rfl, rfl⟩; simp only [refE]))
  have A3 := (A2.out.later hb2).alloc (.cells #[.string s, .int .i64 ((E : Int) + 2)] 35)
  have hlt := (A2.out.later hb2).lt
  obtain ⟨p0, p1⟩ := A3.c2
  have f0 := A3.free 0
  have f1 := A3.free 1
  have HA3 := hideB2 A3
  have HB2 := hideB2 (below_then (below_then HB.out hb2) (below_a1 _ (.cells #[.string s, .int .i64 ((E : Int) + 2)] 35)))
  have N3 := Blk.new w2 #[.string s, .int .i64 ((E : Int) + 2)] 35
  obtain ⟨q0, q1⟩ := N3.c2
  clear A3 hb2 N3
  generalize hW : w2.alloc (.cells #[.string s, .int .i64 ((E : Int) + 2)] 35) = W3 at *
  clear hW
  go_region
  go_wp2
  refine bodyPost_ret (results_tmpC rfl _ _ _ rfl (HA3.out.set2 _ _) Try.underlying35 Try.infoCur) rfl ⟨rfl, ?_⟩
  exact (below_set2 (g := w.heap.size + 1) HB2.out (by omega) _ _).drew
set_option maxRecDepth 100000 in
set_option maxHeartbeats 2000000 in
theorem chunkLine_bad (s : ByteArray) (k : Nat) (w : World) (hs : s.size ≤ maxLen) (hk : k ≤ s.size) (h : lnQ s k = false) :
    Calls Try.prog 44 #[.agg #[.string s, .int .i64 (k : Int)]] w fun e w' => e = .panicked (gone 400) ∧ Below w.heap.size w w' := by
  have hs' := hs
  unfold maxLen at hs'
  have HB := hideB2 (below_a2 w (.cells #[.string s, .int .i64 (k : Int)] 35) (.cells #[.string ⟨#[]⟩, .int .i64 0] 35))
  have HTL := hideB2 (fun W => TakeLine_ok s k W hs hk)
  by_cases h1 : tlC s k = 0
  · have hE := tlE_ok hk h1
    have hz := lineAt_size hk
    have h2 : (300 : Int) < ((lineAt s k).size : Int) := by
      unfold lnQ at h
      rw [decide_eq_true h1, Bool.true_and, decide_eq_false_iff_not] at h
      omega
    rw [tlV_ok h1] at HTL
    change Hid (∀ W, Calls _ _ _ W fun e w' => e = .returned (.tuple #[.string (lineAt s k), .agg #[.string s, .int .i64 ((tlE s k : Int) + 2)], .int .i64 0]) ∧ Below W.heap.size W w') at HTL
    clear hz h h1
    generalize tlE s k = E at *
    generalize lineAt s k = L at *
    go_enter Try.func44, Try.ntmps44
    go_wp2_with (first | (go_at_call 52; refine (HTL.out _).mono ?_; rintro e w2 ⟨rfl, hb2⟩) | (go_at_call 35; refine (refuseIf_any _ _ _).mono ?_; rintro e w9 ⟨rfl, rfl⟩; simp only [refE]))
    exact ⟨rfl, rfl, below_then (below_then HB.out hb2) (below_a1 _ _)⟩
  · obtain ⟨c, hc, hv⟩ := tlV_not h1
    rw [hv] at HTL
    clear h h1 hv
    unfold curZ at HTL
    go_enter Try.func44, Try.ntmps44
    go_wp2_with (first | (go_at_call 52; refine (HTL.out _).mono ?_; rintro e w2 ⟨rfl, hb2⟩) | (go_at_call 35; refine (refuseIf_any _ _ _).mono ?_; rintro e w9 ⟨rfl, rfl⟩; simp only [refE]))
    exact ⟨rfl, rfl, below_then (below_then HB.out hb2) (below_a1 _ _)⟩
set_option maxRecDepth 100000 in
set_option maxHeartbeats 2000000 in
theorem takenField_bad (s : ByteArray) (w : World) (hs : s.size ≤ maxLen) (h : readO s = false) :
    Calls Try.prog 47 #[.string s] w fun e w' => e = .panicked (gone 400) ∧ Below w.heap.size w w' := by
  have HB := hideB2 (below_a1 w (.cells #[.string ⟨#[]⟩, .string ⟨#[]⟩] 51))
  have HR := hideB2 (fun W => ReadField_any s W hs)
  rw [h] at HR
  clear h hs
  generalize (readF s).1 = x at *
  generalize (readF s).2 = y at *
  go_enter Try.func47, Try.ntmps47
  go_wp2_with (first | (go_at_call 55; refine (HR.out _).mono ?_; rintro e w2 ⟨rfl, hb2⟩) | (go_at_call 35; refine (refuseIf_any _ _ _).mono ?_; rintro e w9 ⟨rfl, rfl⟩; simp only [refE]))
  exact ⟨rfl, rfl, below_then (below_then HB.out hb2) (below_a1 _ _)⟩
set_option maxRecDepth 100000 in
set_option maxHeartbeats 2000000 in
theorem takenField_ok (s : ByteArray) (w : World) (hs : s.size ≤ maxLen) (h : readO s = true) :
    Calls Try.prog 47 #[.string s] w fun e w' => e = .returned (.agg #[.string (readF s).1, .string (readF s).2]) ∧ Below w.heap.size w w' := by
  have HB := hideB2 (below_a1 w (.cells #[.string ⟨#[]⟩, .string ⟨#[]⟩] 51))
  have A1 := hideB2 (Blk.new w #[.string ⟨#[]⟩, .string ⟨#[]⟩] 51)
  have HR := hideB2 (fun W => ReadField_any s W hs)
  rw [h] at HR
  clear h hs
  generalize (readF s).1 = x at *
  generalize (readF s).2 = y at *
  go_enter Try.func47, Try.ntmps47
  go_wp2_with fail
  refine (HR.out _).mono ?_
  rintro e w2 ⟨rfl, hb2⟩
  have A3 := A1.out.later hb2
  have hlt := A3.lt
  obtain ⟨p0, p1⟩ := A3.c2
  have f0 := A3.free 0
  have f1 := A3.free 1
  have HA3 := hideB2 A3
  have HB2 := hideB2 (below_then HB.out hb2)
  clear A3 hb2
  go_wp2_with (go_at_call 35; refine (refuseIf_any _ _ _).mono ?_; rintro e w9 ⟨rfl, rfl⟩; simp only [refE])
  refine bodyPost_ret (results_cellS rfl _ _ _ rfl ((HA3.out.set2 _ _).alloc _) Try.underlying51 Try.infoField) rfl ⟨rfl, ?_⟩
  exact below_alloc' (below_set2 HB2.out (Nat.le_refl _) _ _) (Nat.le_refl _) _
set_option maxRecDepth 100000 in
set_option maxHeartbeats 2000000 in
theorem chunkSize_bad1 (s : ByteArray) (k : Nat) (w : World) (hs : s.size ≤ maxLen) (hk : k ≤ s.size) (h : lnQ s k = false) :
    Calls Try.prog 34 #[.agg #[.string s, .int .i64 (k : Int)]] w fun e w' => e = .panicked (gone 400) ∧ Below w.heap.size w w' := by
  have HB := hideB2 (below_a2 w (.cells #[.string s, .int .i64 (k : Int)] 35) (.cells #[.string ⟨#[]⟩, .int .i64 0] 35))
  have HL := hideB2 (fun W => chunkLine_bad s k W hs hk h)
  clear h hs hk
  go_enter Try.func34, Try.ntmps34
  go_wp2_with (go_at_call 44; refine (HL.out _).mono ?_; rintro e w2 ⟨rfl, hb2⟩)
  exact ⟨rfl, rfl, below_then HB.out hb2⟩
theorem cutS_any (L : ByteArray) (hL : L.size ≤ maxLen) : ∃ y q, ∀ W, Calls Try.prog 45 #[.string L, .string ⟨#[59]⟩] W fun e w' => e = .returned (.tuple #[.string (uptoS L), .string y, .bool q]) ∧ Below W.heap.size W w' := by
  rcases idxS_cases L with hi | ⟨i, hi, hlt⟩
  · refine ⟨⟨#[]⟩, false, fun W => ?_⟩
    rw [uptoS_none hi]
    exact CutS_none L W hi
  · refine ⟨L.extract (i + 1) L.size, true, fun W => ?_⟩
    rw [uptoS_some hi]
    exact CutS_some L i W hi hlt hL
set_option maxRecDepth 100000 in
set_option maxHeartbeats 2000000 in
theorem chunkSize_bad2 (s : ByteArray) (k : Nat) (w : World) (hs : s.size ≤ maxLen) (hk : k ≤ s.size) (h : lnQ s k = true) (h2 : rhexOk (uptoS (lineAt s k)) = false) :
    Calls Try.prog 34 #[.agg #[.string s, .int .i64 (k : Int)]] w fun e w' => e = .panicked (gone 400) ∧ Below w.heap.size w w' := by
  have HB := hideB2 (below_a2 w (.cells #[.string s, .int .i64 (k : Int)] 35) (.cells #[.string ⟨#[]⟩, .int .i64 0] 35))
  have HL := hideB2 (fun W => chunkLine_ok s k W hs hk h)
  have hz := lineAt_size hk
  have hE := tlE_ok hk (lnQ_iff.1 h).1
  have hL : (lineAt s k).size ≤ maxLen := by unfold maxLen at *; omega
  obtain ⟨y, q, hcut⟩ := cutS_any (lineAt s k) hL
  have HC := hideB2 hcut
  have HX := hideB2 (fun W => ReadHex_any (uptoS (lineAt s k)) W (Nat.le_trans (uptoS_size _) hL))
  rw [h2] at HX
  clear h hcut hz hL h2 hs
  generalize uptoS (lineAt s k) = U at *
  generalize rhexN U = N at *
  generalize lineAt s k = L at *
  generalize tlE s k = E at *
  go_enter Try.func34, Try.ntmps34
  go_wp2_with (first | (go_at_call 44; refine (HL.out _).mono ?_; rintro e w2 ⟨rfl, hb2⟩) | (go_at_call 45; refine (HC.out _).mono ?_; rintro e w3 ⟨rfl, hb3⟩) | (go_at_call 46; refine (HX.out _).mono ?_; rintro e w4 ⟨rfl, rfl⟩) | (go_at_call 35; refine (refuseIf_any _ _ _).mono ?_; rintro e w9 ⟨rfl, rfl⟩; simp only [refE]))
  exact ⟨rfl, rfl, below_then (below_then (below_then HB.out hb2) (below_a1 _ _)) hb3⟩
set_option maxRecDepth 100000 in
set_option maxHeartbeats 2000000 in
theorem chunkSize_ok (s : ByteArray) (k : Nat) (w : World) (hs : s.size ≤ maxLen) (hk : k ≤ s.size) (h : lnQ s k = true) (h2 : rhexOk (uptoS (lineAt s k)) = true) :
    Calls Try.prog 34 #[.agg #[.string s, .int .i64 (k : Int)]] w fun e w' => e = .returned (.tuple #[.int .i64 (rhexN (uptoS (lineAt s k))), .agg #[.string s, .int .i64 ((tlE s k : Int) + 2)]]) ∧ Below w.heap.size w w' := by
  have HB := hideB2 (below_a2 w (.cells #[.string s, .int .i64 (k : Int)] 35) (.cells #[.string ⟨#[]⟩, .int .i64 0] 35))
  have A2 := hideB2 (show Blk ((w.alloc (.cells #[.string s, .int .i64 (k : Int)] 35)).alloc (.cells #[.string ⟨#[]⟩, .int .i64 0] 35)) (w.heap.size + 1) #[.string ⟨#[]⟩, .int .i64 0] 35 by
    have := Blk.new (w.alloc (.cells #[.string s, .int .i64 (k : Int)] 35)) #[.string ⟨#[]⟩, .int .i64 0] 35
    simpa using this)
  have HL := hideB2 (fun W => chunkLine_ok s k W hs hk h)
  have hz := lineAt_size hk
  have hE := tlE_ok hk (lnQ_iff.1 h).1
  have hL : (lineAt s k).size ≤ maxLen := by unfold maxLen at *; omega
  obtain ⟨y, q, hcut⟩ := cutS_any (lineAt s k) hL
  have HC := hideB2 hcut
  have HX := hideB2 (fun W => ReadHex_any (uptoS (lineAt s k)) W (Nat.le_trans (uptoS_size _) hL))
  rw [h2] at HX
  clear h hcut hz hL h2 hs
  generalize uptoS (lineAt s k) = U at *
  generalize rhexN U = N at *
  generalize lineAt s k = L at *
  generalize tlE s k = E at *
  go_enter Try.func34, Try.ntmps34
  go_wp2_with fail
  refine (HL.out _).mono ?_
  rintro e w2 ⟨rfl, hb2⟩
  have A3 := (A2.out.later hb2).alloc (.cells #[.string s, .int .i64 ((E : Int) + 2)] 35)
  have N3 := Blk.new w2 #[.string s, .int .i64 ((E : Int) + 2)] 35
  have hlt := (A2.out.later hb2).lt
  have hB2 := below_then (below_then HB.out hb2) (below_a1 _ (.cells #[.string s, .int .i64 ((E : Int) + 2)] 35))
  clear hb2
  go_wp2_with fail
  generalize hW : w2.alloc (.cells #[.string s, .int .i64 ((E : Int) + 2)] 35) = W3 at *
  clear hW
  generalize w2.heap.size = G at *
  refine (HC.out _).mono ?_
  rintro e w3 ⟨rfl, hb3⟩
  have A4 := A3.later hb3
  have N4 := N3.later hb3
  have HB4 := hideB2 (below_then hB2 hb3)
  clear A3 N3 hB2 hb3
  obtain ⟨p0, p1⟩ := A4.c2
  obtain ⟨q0, q1⟩ := N4.c2
  have f0 := A4.free 0
  have f1 := A4.free 1
  have HA4 := hideB2 A4
  clear A4 N4
  go_wp2_with (first | (go_at_call 46; refine (HX.out _).mono ?_; rintro e w4 ⟨rfl, rfl⟩) | (go_at_call 35; refine (refuseIf_any _ _ _).mono ?_; rintro e w9 ⟨rfl, rfl⟩; simp only [refE]))
  go_region
  go_wp2
  refine bodyPost_ret (results_tmpC rfl _ _ _ rfl (HA4.out.set2 _ _) Try.underlying35 Try.infoCur) rfl ⟨rfl, ?_⟩
  exact (below_set2 (g := w.heap.size + 1) HB4.out (by omega) _ _).drew
end Go.Proofs.Ytaelopjalfapgac
