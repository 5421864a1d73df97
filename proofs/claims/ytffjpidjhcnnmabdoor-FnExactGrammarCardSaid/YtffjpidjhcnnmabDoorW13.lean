/-
  The walks over chapter 1: impl.TakeLine.
-/
import Derived.Test.YtffjpidjhcnnmabDoorW12
namespace Go.Proofs.YtffjpidjhcnnmabDoor
set_option linter.unusedVariables false
set_option linter.unusedSimpArgs false
open Go.RowKit

/-- What is kept of a block of two cells: what they hold, that they may be written, that the block is there. -/
structure Two (w : World) (b : Nat) (x y : Value) : Prop where
  c0 : w.cell? ⟨b, 0, none⟩ = some x
  c1 : w.cell? ⟨b, 1, none⟩ = some y
  f0 : w.frozen? ⟨b, 0, none⟩ = false
  f1 : w.frozen? ⟨b, 1, none⟩ = false
  lt : b < w.heap.size
theorem Two.later {W w1 : World} (hb : Below W.heap.size W w1) {b : Nat} {x y : Value} (h : Two W b x y) : Two w1 b x y :=
  ⟨cell_later hb h.c0, cell_later hb h.c1, (hb.frozen (p := ⟨b, 0, none⟩) h.lt).trans h.f0, (hb.frozen (p := ⟨b, 1, none⟩) h.lt).trans h.f1, Nat.lt_of_lt_of_le h.lt hb.size⟩
theorem Two.alloc {W : World} {b : Nat} {x y : Value} (h : Two W b x y) (o : Obj) : Two (W.alloc o) b x y := h.later ((Below.refl _ W).alloc (Nat.le_refl _) o)
theorem Two.drew {W : World} {b : Nat} {x y : Value} (h : Two W b x y) : Two W.drew b x y := ⟨h.c0, h.c1, h.f0, h.f1, h.lt⟩
theorem Two.new (W : World) (x y : Value) (t : TypeId) : Two (W.alloc (.cells #[x, y] t)) W.heap.size x y :=
  ⟨by simp, by simp, by simp, by simp, by simp⟩

theorem left_at (s : ByteArray) (n : Int) (k : Nat) (w : World) (hn : n = (k : Int)) (hs : s.size ≤ maxLen) (hk : k ≤ s.size) :
    Calls Tryd.prog 7 #[.agg #[.string s, .int .i64 n]] w fun e w' => e = .returned (.int .i64 ((s.size : Int) - n)) ∧ w' = w.alloc (.cells #[.string s, .int .i64 n] 25) := by
  subst hn; exact left_any s k w hs hk
theorem next_at (s : ByteArray) (n : Int) (k : Nat) (w : World) (hn : n = (k : Int)) (hs : s.size ≤ maxLen) (hk : k < s.size) :
    Calls Tryd.prog 35 #[.agg #[.string s, .int .i64 n]] w fun e w' => e = .returned (.int .u8 ((at8 s k).toNat : Int)) ∧ w' = w.alloc (.cells #[.string s, .int .i64 n] 25) := by
  subst hn
  have := next_any s k w hs hk
  rw [at8_eq s k hk] at this
  exact this
theorem behind_at (s : ByteArray) (n m : Int) (k j : Nat) (w : World) (hn : n = (k : Int)) (hm : m = (j : Int)) (hs : s.size ≤ maxLen) (hk : k + j ≤ s.size) :
    Calls Tryd.prog 34 #[.agg #[.string s, .int .i64 n], .int .i64 m] w fun e w' => e = .returned (.agg #[.string s, .int .i64 (n + m)]) ∧ Below w.heap.size w w' := by
  subst hn hm; exact behind_any s k j w hs hk
set_option maxHeartbeats 1000000 in
theorem TakeLine_bad (s : ByteArray) (n : Int) (w : World) (hc : curOk s n = false) :
    Calls Tryd.prog 18 #[.agg #[.string s, .int .i64 n]] w fun e w' => e = .returned (.tuple #[.string ⟨#[]⟩, curZ, .int .i64 2]) ∧ Below w.heap.size w w' := by
  go_enter Tryd.func18, Tryd.ntmps18
  go_wp2_with (go_at_call 32; refine (inside_any s _ _).mono ?_; rintro e w' ⟨rfl, rfl⟩)
  refine bodyPost_ret (v := .tuple #[.string ⟨#[]⟩, curZ, .int .i64 2]) (by simp [results, Tryd.results18, go_sem, curZ]) rfl ⟨rfl, ?_⟩
  exact (by repeat (first | exact Below.refl _ _ | refine Below.drew ?_ | refine Below.alloc ?_ (by simp <;> omega) _ | refine Below.setCell ?_ (by simp <;> omega) _))
set_option maxHeartbeats 2000000 in
theorem TakeLine_ok (s : ByteArray) (k : Nat) (w : World) (hs : s.size ≤ maxLen) (hk : k ≤ s.size) :
    Calls Tryd.prog 18 #[.agg #[.string s, .int .i64 (k : Int)]] w fun e w' => e = .returned (tlV s k) ∧ Below w.heap.size w w' := by
  have hs' := hs
  unfold maxLen at hs'
  have hc : curOk s (k : Int) = true := curOk_iff.2 ⟨by omega, by omega⟩
  have he := eolLen_le s k hk
  have hE : tlE s k = k + eolLen s k := rfl
  go_enter Tryd.func18, Tryd.ntmps18
  go_wp2_with (go_at_call 32; refine (inside_any s _ _).mono ?_; rintro e w' ⟨rfl, rfl⟩)
  have T0 : Two ((((w.alloc (.cells #[.string s, .int .i64 (k : Int)] 25)).alloc (.cells #[.string ⟨#[]⟩, .int .i64 0] 25)).alloc (.cells #[.string s, .int .i64 (k : Int)] 25))) w.heap.size (.string s) (.int .i64 (k : Int)) := ((Two.new w _ _ _).alloc _).alloc _
  have R0 : Two ((((w.alloc (.cells #[.string s, .int .i64 (k : Int)] 25)).alloc (.cells #[.string ⟨#[]⟩, .int .i64 0] 25)).alloc (.cells #[.string s, .int .i64 (k : Int)] 25))) (w.heap.size + 1) (.string ⟨#[]⟩) (.int .i64 0) := by
    have := (Two.new (w.alloc (.cells #[.string s, .int .i64 (k : Int)] 25)) (.string ⟨#[]⟩) (.int .i64 0) 25).alloc (.cells #[.string s, .int .i64 (k : Int)] 25)
    simpa using this
  have G0 : Below w.heap.size w ((((w.alloc (.cells #[.string s, .int .i64 (k : Int)] 25)).alloc (.cells #[.string ⟨#[]⟩, .int .i64 0] 25)).alloc (.cells #[.string s, .int .i64 (k : Int)] 25))) := (by repeat (first | exact Below.refl _ _ | refine Below.drew ?_ | refine Below.alloc ?_ (by simp <;> omega) _ | refine Below.setCell ?_ (by simp <;> omega) _))
  refine (beforeLineEnd_any s k _ hs hk).mono ?_
  rintro e w2 ⟨rfl, hb2⟩
  have T2 := T0.later hb2
  have R2 := R0.later hb2
  have G2 := G0.trans (hb2.mono G0.size)
  clear T0 R0 G0 hb2 hc
  obtain ⟨q0, q1, q2, q3, q4⟩ := T2
  go_wp2_with fail
  refine (behind_at s _ _ k (eolLen s k) _ rfl rfl hs he).mono ?_
  rintro e w3 ⟨rfl, hb3⟩
  have T3 : Two w3 w.heap.size (.string s) (.int .i64 (k : Int)) := Two.later hb3 ⟨q0, q1, q2, q3, q4⟩
  have R3 := R2.later hb3
  have G3 := G2.trans (hb3.mono G2.size)
  clear q0 q1 q2 q3 q4 R2 G2 hb3
  have hgen : ∃ e, eolLen s k = e := ⟨_, rfl⟩
  obtain ⟨e, hge⟩ := hgen
  have D3 := Two.new w3 (.string s) (.int .i64 ((k : Int) + (eolLen s k : Nat))) 25
  have T4 := T3.alloc (.cells #[.string s, .int .i64 ((k : Int) + (eolLen s k : Nat))] 25)
  have R4 := R3.alloc (.cells #[.string s, .int .i64 ((k : Int) + (eolLen s k : Nat))] 25)
  have hbel := G3.alloc G3.size (.cells #[.string s, .int .i64 ((k : Int) + (eolLen s k : Nat))] 25)
  have hne1 : w.heap.size + 1 < w3.heap.size := R3.lt
  rw [hge] at he hE D3 T4 R4 hbel ⊢
  have HE : Hid (tlE s k = k + e) := hE
  have HG : Hid (eolLen s k = e) := hge
  clear T3 R3 G3 hE hge
  obtain ⟨d0, d1, d2, d3, d4⟩ := D3
  go_wp2_with fail
  have D3 : Two _ _ _ _ := ⟨d0, d1, d2, d3, d4⟩
  clear d0 d1 d2 d3 d4
  generalize w3.alloc (.cells #[.string s, .int .i64 ((k : Int) + (e : Int))] 25) = W at *
  have TT := T4
  have RR := R4
  have DD := D3
  have GG := hbel
  have hEE : w.heap.size + 1 < w3.heap.size := hne1
  clear T4 R4 D3 hbel hne1
  generalize w3.heap.size = E at *
  by_cases hend : k + e = s.size
  · have hfin : Hid (tlV s k = .tuple #[.string ⟨#[]⟩, curZ, .int .i64 1]) := tlV_short0 (by rw [HE.out]; exact hend)
    have hz : ((s.size : Int) - ((k : Int) + (e : Int)) == 0) = true := by simp; omega
    clear hend
    refine (left_at s _ (k + e) _ (by omega) hs (by omega)).mono ?_
    rintro e' W' ⟨rfl, hw⟩
    replace TT : Two W' w.heap.size (.string s) (.int .i64 (k : Int)) := hw ▸ TT.alloc _
    replace DD : Two W' E (.string s) (.int .i64 ((k : Int) + (e : Int))) := hw ▸ DD.alloc _
    replace RR : Two W' (w.heap.size + 1) (.string ⟨#[]⟩) (.int .i64 0) := hw ▸ RR.alloc _
    replace GG : Below w.heap.size w W' := hw ▸ (GG.alloc GG.size _)
    clear hw
    obtain ⟨t0, t1, t2, t3, t4⟩ := id TT
    obtain ⟨d0, d1, d2, d3, d4⟩ := id DD
    obtain ⟨r0, r1, r2, r3, r4⟩ := id RR
    go_wp2
    refine bodyPost_ret (v := .tuple #[.string ⟨#[]⟩, curZ, .int .i64 1]) (by simp [results, Tryd.results18, go_sem, curZ, r0, r1]) rfl ⟨by rw [hfin.out], ?_⟩
    exact (GG.setCell (by simp) _).setCell (by simp) _
  · have hlt : k + e < s.size := by omega
    have hz : ((s.size : Int) - ((k : Int) + (e : Int)) == 0) = false := by simp; omega
    clear hend
    refine (left_at s _ (k + e) _ (by omega) hs (by omega)).mono ?_
    rintro e' W' ⟨rfl, hw⟩
    replace TT : Two W' w.heap.size (.string s) (.int .i64 (k : Int)) := hw ▸ TT.alloc _
    replace DD : Two W' E (.string s) (.int .i64 ((k : Int) + (e : Int))) := hw ▸ DD.alloc _
    replace RR : Two W' (w.heap.size + 1) (.string ⟨#[]⟩) (.int .i64 0) := hw ▸ RR.alloc _
    replace GG : Below w.heap.size w W' := hw ▸ (GG.alloc GG.size _)
    clear hw
    obtain ⟨t0, t1, t2, t3, t4⟩ := id TT
    obtain ⟨d0, d1, d2, d3, d4⟩ := id DD
    obtain ⟨r0, r1, r2, r3, r4⟩ := id RR
    go_wp2_with fail
    clear t0 t1 t2 t3 t4 d0 d1 d2 d3 d4 r0 r1 r2 r3 r4
    by_cases h10 : ((at8 s (k + e)).toNat : Int) = 10
    · have g10 : (((at8 s (k + e)).toNat : Int) == 10) = true := by simpa using h10
      have hfin : Hid (tlV s k = .tuple #[.string ⟨#[]⟩, curZ, .int .i64 2]) := tlV_bad (tlC_10 (by rw [HE.out]; exact hlt) (by rw [HE.out]; omega))
      clear h10
      refine (next_at s _ (k + e) _ (by omega) hs (by omega)).mono ?_
      rintro e' W' ⟨rfl, hw⟩
      replace TT : Two W' w.heap.size (.string s) (.int .i64 (k : Int)) := hw ▸ TT.alloc _
      replace DD : Two W' E (.string s) (.int .i64 ((k : Int) + (e : Int))) := hw ▸ DD.alloc _
      replace RR : Two W' (w.heap.size + 1) (.string ⟨#[]⟩) (.int .i64 0) := hw ▸ RR.alloc _
      replace GG : Below w.heap.size w W' := hw ▸ (GG.alloc GG.size _)
      clear hw
      obtain ⟨t0, t1, t2, t3, t4⟩ := id TT
      obtain ⟨d0, d1, d2, d3, d4⟩ := id DD
      obtain ⟨r0, r1, r2, r3, r4⟩ := id RR
      go_wp2
      refine bodyPost_ret (v := .tuple #[.string ⟨#[]⟩, curZ, .int .i64 2]) (by simp [results, Tryd.results18, go_sem, curZ, r0, r1]) rfl ⟨by rw [hfin.out], ?_⟩
      exact (GG.setCell (by simp) _).setCell (by simp) _
    · have g10 : (((at8 s (k + e)).toNat : Int) == 10) = false := by simpa using h10
      refine (next_at s _ (k + e) _ (by omega) hs (by omega)).mono ?_
      rintro e' W' ⟨rfl, hw⟩
      replace TT : Two W' w.heap.size (.string s) (.int .i64 (k : Int)) := hw ▸ TT.alloc _
      replace DD : Two W' E (.string s) (.int .i64 ((k : Int) + (e : Int))) := hw ▸ DD.alloc _
      replace RR : Two W' (w.heap.size + 1) (.string ⟨#[]⟩) (.int .i64 0) := hw ▸ RR.alloc _
      replace GG : Below w.heap.size w W' := hw ▸ (GG.alloc GG.size _)
      clear hw
      obtain ⟨t0, t1, t2, t3, t4⟩ := id TT
      obtain ⟨d0, d1, d2, d3, d4⟩ := id DD
      obtain ⟨r0, r1, r2, r3, r4⟩ := id RR
      go_wp2_with fail
      clear t0 t1 t2 t3 t4 d0 d1 d2 d3 d4 r0 r1 r2 r3 r4
      by_cases hend : k + e + 1 = s.size
      · have hfin : Hid (tlV s k = .tuple #[.string ⟨#[]⟩, curZ, .int .i64 1]) := tlV_short (tlC_13end (by rw [HE.out]; exact hend) (by rw [HE.out]; omega))
        have hz1 : ((s.size : Int) - ((k : Int) + (e : Int)) == 1) = true := by simp; omega
        clear h10 hend
        refine (left_at s _ (k + e) _ (by omega) hs (by omega)).mono ?_
        rintro e' W' ⟨rfl, hw⟩
        replace TT : Two W' w.heap.size (.string s) (.int .i64 (k : Int)) := hw ▸ TT.alloc _
        replace DD : Two W' E (.string s) (.int .i64 ((k : Int) + (e : Int))) := hw ▸ DD.alloc _
        replace RR : Two W' (w.heap.size + 1) (.string ⟨#[]⟩) (.int .i64 0) := hw ▸ RR.alloc _
        replace GG : Below w.heap.size w W' := hw ▸ (GG.alloc GG.size _)
        clear hw
        obtain ⟨t0, t1, t2, t3, t4⟩ := id TT
        obtain ⟨d0, d1, d2, d3, d4⟩ := id DD
        obtain ⟨r0, r1, r2, r3, r4⟩ := id RR
        go_wp2
        refine bodyPost_ret (v := .tuple #[.string ⟨#[]⟩, curZ, .int .i64 1]) (by simp [results, Tryd.results18, go_sem, curZ, r0, r1]) rfl ⟨by rw [hfin.out], ?_⟩
        exact (GG.setCell (by simp) _).setCell (by simp) _
      · have hlt2 : k + e + 1 < s.size := by omega
        have hz1 : ((s.size : Int) - ((k : Int) + (e : Int)) == 1) = false := by simp; omega
        clear hend
        refine (left_at s _ (k + e) _ (by omega) hs (by omega)).mono ?_
        rintro e' W' ⟨rfl, hw⟩
        replace TT : Two W' w.heap.size (.string s) (.int .i64 (k : Int)) := hw ▸ TT.alloc _
        replace DD : Two W' E (.string s) (.int .i64 ((k : Int) + (e : Int))) := hw ▸ DD.alloc _
        replace RR : Two W' (w.heap.size + 1) (.string ⟨#[]⟩) (.int .i64 0) := hw ▸ RR.alloc _
        replace GG : Below w.heap.size w W' := hw ▸ (GG.alloc GG.size _)
        clear hw
        obtain ⟨t0, t1, t2, t3, t4⟩ := id TT
        obtain ⟨d0, d1, d2, d3, d4⟩ := id DD
        obtain ⟨r0, r1, r2, r3, r4⟩ := id RR
        go_wp2_with fail
        clear t0 t1 t2 t3 t4 d0 d1 d2 d3 d4 r0 r1 r2 r3 r4
        refine (behind_at s _ _ (k + e) 1 _ (by omega) rfl hs (by omega)).mono ?_
        rintro e' W' ⟨rfl, hw⟩
        replace TT : Two W' w.heap.size (.string s) (.int .i64 (k : Int)) := TT.later hw
        replace DD : Two W' E (.string s) (.int .i64 ((k : Int) + (e : Int))) := DD.later hw
        replace RR : Two W' (w.heap.size + 1) (.string ⟨#[]⟩) (.int .i64 0) := RR.later hw
        replace GG : Below w.heap.size w W' := GG.trans (hw.mono GG.size)
        clear hw
        obtain ⟨t0, t1, t2, t3, t4⟩ := id TT
        obtain ⟨d0, d1, d2, d3, d4⟩ := id DD
        obtain ⟨r0, r1, r2, r3, r4⟩ := id RR
        go_wp2_with fail
        clear t0 t1 t2 t3 t4 d0 d1 d2 d3 d4 r0 r1 r2 r3 r4
        by_cases hn : ((at8 s (k + e + 1)).toNat : Int) = 10
        · have gn : (((at8 s (k + e + 1)).toNat : Int) != 10) = false := by simpa using hn
          have hfin : Hid (tlV s k = .tuple #[.string (s.extract k (k + e)), .agg #[.string s, .int .i64 ((k : Int) + (e : Int) + 2)], .int .i64 0]) := by
            have := tlV_ok (tlC_ok (s := s) (k := k) (by rw [HE.out]; exact hlt2) (by rw [HE.out]; omega) (by rw [HE.out]; omega))
            rw [HE.out] at this
            rw [show (k : Int) + (e : Int) = ((k + e : Nat) : Int) from by omega]
            exact this
          clear h10 hn
          refine (next_at s _ (k + e + 1) _ (by omega) hs (by omega)).mono ?_
          rintro e' W' ⟨rfl, hw⟩
          replace TT : Two W' w.heap.size (.string s) (.int .i64 (k : Int)) := hw ▸ TT.alloc _
          replace DD : Two W' E (.string s) (.int .i64 ((k : Int) + (e : Int))) := hw ▸ DD.alloc _
          replace RR : Two W' (w.heap.size + 1) (.string ⟨#[]⟩) (.int .i64 0) := hw ▸ RR.alloc _
          replace GG : Below w.heap.size w W' := hw ▸ (GG.alloc GG.size _)
          clear hw
          obtain ⟨t0, t1, t2, t3, t4⟩ := id TT
          obtain ⟨d0, d1, d2, d3, d4⟩ := id DD
          obtain ⟨r0, r1, r2, r3, r4⟩ := id RR
          go_wp2_with fail
          clear hz hz1 g10 gn t2 t3 d2 d3
          have hww : w.heap.size < W'.heap.size := t4
          have he0 : k + e ≤ s.size := by omega
          have he2 : k + e + 2 ≤ s.size := by omega
          have hke : ((k : Int) + (e : Int)) = ((k + e : Nat) : Int) := by omega
          have HKE : Hid (((k : Int) + (e : Int)) = ((k + e : Nat) : Int)) := hke
          clear hke
          go_region_with (first | (go_at_call 36; refine (part_any s k e _ hs he0).mono ?_; rintro e' w' ⟨rfl, rfl⟩) | (go_at_call 34; refine (behind_at s _ _ (k + e) 2 _ HKE.out rfl hs he2).mono ?_; rintro e' w2 ⟨rfl, hb2⟩; obtain ⟨hcc, hff⟩ := bcell hb2; have hzz := hb2.size))
          all_goals go_wp2
          all_goals
            have X : Two w2 (w.heap.size + 1) (.string ⟨#[]⟩) (.int .i64 0) := Two.later hb2 (by first | exact RR.drew | exact (RR.alloc _).drew)
            have x0 := X.c0
            have x1 := X.c1
            refine bodyPost_ret (v := .tuple #[.string (s.extract k (k + e)), .agg #[.string s, .int .i64 ((k : Int) + (e : Int) + 2)], .int .i64 0]) (by simp [results, Tryd.results18, go_sem, x0, x1]) rfl ⟨by rw [hfin.out], ?_⟩
            have Y : Below w.heap.size w w2 := Below.trans (by first | exact GG.drew | exact (GG.alloc GG.size _).drew) (hb2.mono (by have := GG.size; simp <;> omega))
            exact (Y.setCell (by simp) _).setCell (by simp) _
        · have gn : (((at8 s (k + e + 1)).toNat : Int) != 10) = true := by simpa using hn
          have hfin : Hid (tlV s k = .tuple #[.string ⟨#[]⟩, curZ, .int .i64 2]) := tlV_bad (tlC_no (by rw [HE.out]; exact hlt2) (by rw [HE.out]; omega) (by rw [HE.out]; omega))
          clear h10 hn
          refine (next_at s _ (k + e + 1) _ (by omega) hs (by omega)).mono ?_
          rintro e' W' ⟨rfl, hw⟩
          replace TT : Two W' w.heap.size (.string s) (.int .i64 (k : Int)) := hw ▸ TT.alloc _
          replace DD : Two W' E (.string s) (.int .i64 ((k : Int) + (e : Int))) := hw ▸ DD.alloc _
          replace RR : Two W' (w.heap.size + 1) (.string ⟨#[]⟩) (.int .i64 0) := hw ▸ RR.alloc _
          replace GG : Below w.heap.size w W' := hw ▸ (GG.alloc GG.size _)
          clear hw
          obtain ⟨t0, t1, t2, t3, t4⟩ := id TT
          obtain ⟨d0, d1, d2, d3, d4⟩ := id DD
          obtain ⟨r0, r1, r2, r3, r4⟩ := id RR
          go_wp2
          refine bodyPost_ret (v := .tuple #[.string ⟨#[]⟩, curZ, .int .i64 2]) (by simp [results, Tryd.results18, go_sem, curZ, r0, r1]) rfl ⟨by rw [hfin.out], ?_⟩
          exact (GG.setCell (by simp) _).setCell (by simp) _
end Go.Proofs.YtffjpidjhcnnmabDoor
