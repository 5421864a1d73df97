/-
  The walks over chapter 1: impl.TakeLine. · Chapter 6: a reader that gives up; a head's line; a field out of it. The program's side. · Chapter 6: the first line; the program's side. · Chapter 6: an answer's first line, and either; the program's side. · Chapter 6: the first line, of a request or an answer; the program's side. · The walks over chapter 1: impl.TakeN. · Chapter 6: a body out of its chunks; the program's readers, which give up by a panic. · Chapter 6: a head's lines, on lists, and the program's reader of a head.
-/
import Derived.Test.YthdgeepedofleaaGreatDoorJ10
import Derived.Test.YthdgeepedofleaaGreatDoorJ2
import Derived.Test.YthdgeepedofleaaGreatDoorJ8
import Derived.Test.YthdgeepedofleaaGreatDoorJ3
import Derived.Test.YthdgeepedofleaaGreatDoorJ5
import Derived.WalkMore
import Derived.RegionDies
namespace Go.Proofs.YthdgeepedofleaaGreatDoor
set_option linter.unusedVariables false
set_option linter.unusedSimpArgs false
open Go.RowKit

/-- What is kept of a block of two cells: what they hold, that they may be written, that the block is there. -/
structure Two (w : World) (b : Nat) (x y : Value) : Prop where
  c0 : w.cell? ⟨b, 0, none⟩ = some x
  c1 : w.cell? ⟨b, 1, none⟩ = some y
  f0 : w.frozen? ⟨b, 0, none⟩ = false
  f1 : w.frozen? ⟨b, 1, none⟩ = false
  lt : b < w.heap.size
theorem Two.later {W w1 : World} (hb : Below W.heap.size W w1) {b : Nat} {x y : Value} (h : Two W b x y) : Two w1 b x y :=
  ⟨cell_later hb h.c0, cell_later hb h.c1, (hb.frozen (p := ⟨b, 0, none⟩) h.lt).trans h.f0, (hb.frozen (p := ⟨b, 1, none⟩) h.lt).trans h.f1, Nat.lt_of_lt_of_le h.lt hb.size⟩
theorem Two.alloc {W : World} {b : Nat} {x y : Value} (h : Two W b x y) (o : Obj) : Two (W.alloc o) b x y := h.later ((Below.refl _ W).alloc (Nat.le_refl _) o)
theorem Two.drew {W : World} {b : Nat} {x y : Value} (h : Two W b x y) : Two W.drew b x y := ⟨h.c0, h.c1, h.f0, h.f1, h.lt⟩
theorem Two.new (W : World) (x y : Value) (t : TypeId) : Two (W.alloc (.cells #[x, y] t)) W.heap.size x y :=
  ⟨by simp, by simp, by simp, by simp, by simp⟩

theorem left_at (s : ByteArray) (n : Int) (k : Nat) (w : World) (hn : n = (k : Int)) (hs : s.size ≤ maxLen) (hk : k ≤ s.size) :
    Calls Tryz.prog 258 #[.agg #[.string s, .int .i64 n]] w fun e w' => e = .returned (.int .i64 ((s.size : Int) - n)) ∧ w' = w.alloc (.cells #[.string s, .int .i64 n] 183) := by
  subst hn; exact left_any s k w hs hk
theorem next_at (s : ByteArray) (n : Int) (k : Nat) (w : World) (hn : n = (k : Int)) (hs : s.size ≤ maxLen) (hk : k < s.size) :
    Calls Tryz.prog 280 #[.agg #[.string s, .int .i64 n]] w fun e w' => e = .returned (.int .u8 ((at8 s k).toNat : Int)) ∧ w' = w.alloc (.cells #[.string s, .int .i64 n] 183) := by
  subst hn
  have := next_any s k w hs hk
  rw [at8_eq s k hk] at this
  exact this
theorem behind_at (s : ByteArray) (n m : Int) (k j : Nat) (w : World) (hn : n = (k : Int)) (hm : m = (j : Int)) (hs : s.size ≤ maxLen) (hk : k + j ≤ s.size) :
    Calls Tryz.prog 279 #[.agg #[.string s, .int .i64 n], .int .i64 m] w fun e w' => e = .returned (.agg #[.string s, .int .i64 (n + m)]) ∧ Below w.heap.size w w' := by
  subst hn hm; exact behind_any s k j w hs hk
set_option maxHeartbeats 1000000 in
theorem TakeLine_bad (s : ByteArray) (n : Int) (w : World) (hc : curOk s n = false) :
    Calls Tryz.prog 249 #[.agg #[.string s, .int .i64 n]] w fun e w' => e = .returned (.tuple #[.string ⟨#[]⟩, curZ, .int .i64 2]) ∧ Below w.heap.size w w' := by
  go_enter Tryz.func249, Tryz.ntmps249
  go_wp2_with (go_at_call 277; refine (inside_any s _ _).mono ?_; rintro e w' ⟨rfl, rfl⟩)
  refine bodyPost_ret (v := .tuple #[.string ⟨#[]⟩, curZ, .int .i64 2]) (by simp [results, Tryz.results249, go_sem, curZ]) rfl ⟨rfl, ?_⟩
  exact (by repeat (first | exact Below.refl _ _ | refine Below.drew ?_ | refine Below.alloc ?_ (by simp <;> omega) _ | refine Below.setCell ?_ (by simp <;> omega) _))
set_option maxHeartbeats 2000000 in
theorem TakeLine_ok (s : ByteArray) (k : Nat) (w : World) (hs : s.size ≤ maxLen) (hk : k ≤ s.size) :
    Calls Tryz.prog 249 #[.agg #[.string s, .int .i64 (k : Int)]] w fun e w' => e = .returned (tlV s k) ∧ Below w.heap.size w w' := by
  have hs' := hs
  unfold maxLen at hs'
  have hc : curOk s (k : Int) = true := curOk_iff.2 ⟨by omega, by omega⟩
  have he := eolLen_le s k hk
  have hE : tlE s k = k + eolLen s k := rfl
  go_enter Tryz.func249, Tryz.ntmps249
  go_wp2_with (go_at_call 277; refine (inside_any s _ _).mono ?_; rintro e w' ⟨rfl, rfl⟩)
  have T0 : Two ((((w.alloc (.cells #[.string s, .int .i64 (k : Int)] 183)).alloc (.cells #[.string ⟨#[]⟩, .int .i64 0] 183)).alloc (.cells #[.string s, .int .i64 (k : Int)] 183))) w.heap.size (.string s) (.int .i64 (k : Int)) := ((Two.new w _ _ _).alloc _).alloc _
  have R0 : Two ((((w.alloc (.cells #[.string s, .int .i64 (k : Int)] 183)).alloc (.cells #[.string ⟨#[]⟩, .int .i64 0] 183)).alloc (.cells #[.string s, .int .i64 (k : Int)] 183))) (w.heap.size + 1) (.string ⟨#[]⟩) (.int .i64 0) := by
    have := (Two.new (w.alloc (.cells #[.string s, .int .i64 (k : Int)] 183)) (.string ⟨#[]⟩) (.int .i64 0) 183).alloc (.cells #[.string s, .int .i64 (k : Int)] 183)
    simpa using this
  have G0 : Below w.heap.size w ((((w.alloc (.cells #[.string s, .int .i64 (k : Int)] 183)).alloc (.cells #[.string ⟨#[]⟩, .int .i64 0] 183)).alloc (.cells #[.string s, .int .i64 (k : Int)] 183))) := (by repeat (first | exact Below.refl _ _ | refine Below.drew ?_ | refine Below.alloc ?_ (by simp <;> omega) _ | refine Below.setCell ?_ (by simp <;> omega) _))
  refine (beforeLineEnd_any s k _ hs hk).mono ?_
  rintro e w2 ⟨rfl, hb2⟩
  have T2 := T0.later hb2
  have R2 := R0.later hb2
  have G2 := G0.trans (hb2.mono G0.size)
  clear T0 R0 G0 hb2 hc
  obtain ⟨q0, q1, q2, q3, q4⟩ := T2
  go_wp2_with fail
  refine (behind_at s _ _ k (eolLen s k) _ rfl rfl hs he).mono ?_
  rintro e w3 ⟨rfl, hb3⟩
  have T3 : Two w3 w.heap.size (.string s) (.int .i64 (k : Int)) := Two.later hb3 ⟨q0, q1, q2, q3, q4⟩
  have R3 := R2.later hb3
  have G3 := G2.trans (hb3.mono G2.size)
  clear q0 q1 q2 q3 q4 R2 G2 hb3
  have hgen : ∃ e, eolLen s k = e := ⟨_, rfl⟩
  obtain ⟨e, hge⟩ := hgen
  have D3 := Two.new w3 (.string s) (.int .i64 ((k : Int) + (eolLen s k : Nat))) 183
  have T4 := T3.alloc (.cells #[.string s, .int .i64 ((k : Int) + (eolLen s k : Nat))] 183)
  have R4 := R3.alloc (.cells #[.string s, .int .i64 ((k : Int) + (eolLen s k : Nat))] 183)
  have hbel := G3.alloc G3.size (.cells #[.string s, .int .i64 ((k : Int) + (eolLen s k : Nat))] 183)
  have hne1 : w.heap.size + 1 < w3.heap.size := R3.lt
  rw [hge] at he hE D3 T4 R4 hbel ⊢
  have HE : Hid (tlE s k = k + e) := hE
  have HG : Hid (eolLen s k = e) := hge
  clear T3 R3 G3 hE hge
  obtain ⟨d0, d1, d2, d3, d4⟩ := D3
  go_wp2_with fail
  have D3 : Two _ _ _ _ := ⟨d0, d1, d2, d3, d4⟩
  clear d0 d1 d2 d3 d4
  generalize w3.alloc (.cells #[.string s, .int .i64 ((k : Int) + (e : Int))] 183) = W at *
  have TT := T4
  have RR := R4
  have DD := D3
  have GG := hbel
  have hEE : w.heap.size + 1 < w3.heap.size := hne1
  clear T4 R4 D3 hbel hne1
  generalize w3.heap.size = E at *
  by_cases hend : k + e = s.size
  · have hfin : Hid (tlV s k = .tuple #[.string ⟨#[]⟩, curZ, .int .i64 1]) := tlV_short0 (by rw [HE.out]; exact hend)
    have hz : ((s.size : Int) - ((k : Int) + (e : Int)) == 0) = true := by simp; omega
    clear hend
    refine (left_at s _ (k + e) _ (by omega) hs (by omega)).mono ?_
    rintro e' W' ⟨rfl, hw⟩
    replace TT : Two W' w.heap.size (.string s) (.int .i64 (k : Int)) := hw ▸ TT.alloc _
    replace DD : Two W' E (.string s) (.int .i64 ((k : Int) + (e : Int))) := hw ▸ DD.alloc _
    replace RR : Two W' (w.heap.size + 1) (.string ⟨#[]⟩) (.int .i64 0) := hw ▸ RR.alloc _
    replace GG : Below w.heap.size w W' := hw ▸ (GG.alloc GG.size _)
    clear hw
    obtain ⟨t0, t1, t2, t3, t4⟩ := id TT
    obtain ⟨d0, d1, d2, d3, d4⟩ := id DD
    obtain ⟨r0, r1, r2, r3, r4⟩ := id RR
    go_wp2
    refine bodyPost_ret (v := .tuple #[.string ⟨#[]⟩, curZ, .int .i64 1]) (by simp [results, Tryz.results249, go_sem, curZ, r0, r1]) rfl ⟨by rw [hfin.out], ?_⟩
    exact (GG.setCell (by simp) _).setCell (by simp) _
  · have hlt : k + e < s.size := by omega
    have hz : ((s.size : Int) - ((k : Int) + (e : Int)) == 0) = false := by simp; omega
    clear hend
    refine (left_at s _ (k + e) _ (by omega) hs (by omega)).mono ?_
    rintro e' W' ⟨rfl, hw⟩
    replace TT : Two W' w.heap.size (.string s) (.int .i64 (k : Int)) := hw ▸ TT.alloc _
    replace DD : Two W' E (.string s) (.int .i64 ((k : Int) + (e : Int))) := hw ▸ DD.alloc _
    replace RR : Two W' (w.heap.size + 1) (.string ⟨#[]⟩) (.int .i64 0) := hw ▸ RR.alloc _
    replace GG : Below w.heap.size w W' := hw ▸ (GG.alloc GG.size _)
    clear hw
    obtain ⟨t0, t1, t2, t3, t4⟩ := id TT
    obtain ⟨d0, d1, d2, d3, d4⟩ := id DD
    obtain ⟨r0, r1, r2, r3, r4⟩ := id RR
    go_wp2_with fail
    clear t0 t1 t2 t3 t4 d0 d1 d2 d3 d4 r0 r1 r2 r3 r4
    by_cases h10 : ((at8 s (k + e)).toNat : Int) = 10
    · have g10 : (((at8 s (k + e)).toNat : Int) == 10) = true := by simpa using h10
      have hfin : Hid (tlV s k = .tuple #[.string ⟨#[]⟩, curZ, .int .i64 2]) := tlV_bad (tlC_10 (by rw [HE.out]; exact hlt) (by rw [HE.out]; omega))
      clear h10
      refine (next_at s _ (k + e) _ (by omega) hs (by omega)).mono ?_
      rintro e' W' ⟨rfl, hw⟩
      replace TT : Two W' w.heap.size (.string s) (.int .i64 (k : Int)) := hw ▸ TT.alloc _
      replace DD : Two W' E (.string s) (.int .i64 ((k : Int) + (e : Int))) := hw ▸ DD.alloc _
      replace RR : Two W' (w.heap.size + 1) (.string ⟨#[]⟩) (.int .i64 0) := hw ▸ RR.alloc _
      replace GG : Below w.heap.size w W' := hw ▸ (GG.alloc GG.size _)
      clear hw
      obtain ⟨t0, t1, t2, t3, t4⟩ := id TT
      obtain ⟨d0, d1, d2, d3, d4⟩ := id DD
      obtain ⟨r0, r1, r2, r3, r4⟩ := id RR
      go_wp2
      refine bodyPost_ret (v := .tuple #[.string ⟨#[]⟩, curZ, .int .i64 2]) (by simp [results, Tryz.results249, go_sem, curZ, r0, r1]) rfl ⟨by rw [hfin.out], ?_⟩
      exact (GG.setCell (by simp) _).setCell (by simp) _
    · have g10 : (((at8 s (k + e)).toNat : Int) == 10) = false := by simpa using h10
      refine (next_at s _ (k + e) _ (by omega) hs (by omega)).mono ?_
      rintro e' W' ⟨rfl, hw⟩
      replace TT : Two W' w.heap.size (.string s) (.int .i64 (k : Int)) := hw ▸ TT.alloc _
      replace DD : Two W' E (.string s) (.int .i64 ((k : Int) + (e : Int))) := hw ▸ DD.alloc _
      replace RR : Two W' (w.heap.size + 1) (.string ⟨#[]⟩) (.int .i64 0) := hw ▸ RR.alloc _
      replace GG : Below w.heap.size w W' := hw ▸ (GG.alloc GG.size _)
      clear hw
      obtain ⟨t0, t1, t2, t3, t4⟩ := id TT
      obtain ⟨d0, d1, d2, d3, d4⟩ := id DD
      obtain ⟨r0, r1, r2, r3, r4⟩ := id RR
      go_wp2_with fail
      clear t0 t1 t2 t3 t4 d0 d1 d2 d3 d4 r0 r1 r2 r3 r4
      by_cases hend : k + e + 1 = s.size
      · have hfin : Hid (tlV s k = .tuple #[.string ⟨#[]⟩, curZ, .int .i64 1]) := tlV_short (tlC_13end (by rw [HE.out]; exact hend) (by rw [HE.out]; omega))
        have hz1 : ((s.size : Int) - ((k : Int) + (e : Int)) == 1) = true := by simp; omega
        clear h10 hend
        refine (left_at s _ (k + e) _ (by omega) hs (by omega)).mono ?_
        rintro e' W' ⟨rfl, hw⟩
        replace TT : Two W' w.heap.size (.string s) (.int .i64 (k : Int)) := hw ▸ TT.alloc _
        replace DD : Two W' E (.string s) (.int .i64 ((k : Int) + (e : Int))) := hw ▸ DD.alloc _
        replace RR : Two W' (w.heap.size + 1) (.string ⟨#[]⟩) (.int .i64 0) := hw ▸ RR.alloc _
        replace GG : Below w.heap.size w W' := hw ▸ (GG.alloc GG.size _)
        clear hw
        obtain ⟨t0, t1, t2, t3, t4⟩ := id TT
        obtain ⟨d0, d1, d2, d3, d4⟩ := id DD
        obtain ⟨r0, r1, r2, r3, r4⟩ := id RR
        go_wp2
        refine bodyPost_ret (v := .tuple #[.string ⟨#[]⟩, curZ, .int .i64 1]) (by simp [results, Tryz.results249, go_sem, curZ, r0, r1]) rfl ⟨by rw [hfin.out], ?_⟩
        exact (GG.setCell (by simp) _).setCell (by simp) _
      · have hlt2 : k + e + 1 < s.size := by omega
        have hz1 : ((s.size : Int) - ((k : Int) + (e : Int)) == 1) = false := by simp; omega
        clear hend
        refine (left_at s _ (k + e) _ (by omega) hs (by omega)).mono ?_
        rintro e' W' ⟨rfl, hw⟩
        replace TT : Two W' w.heap.size (.string s) (.int .i64 (k : Int)) := hw ▸ TT.alloc _
        replace DD : Two W' E (.string s) (.int .i64 ((k : Int) + (e : Int))) := hw ▸ DD.alloc _
        replace RR : Two W' (w.heap.size + 1) (.string ⟨#[]⟩) (.int .i64 0) := hw ▸ RR.alloc _
        replace GG : Below w.heap.size w W' := hw ▸ (GG.alloc GG.size _)
        clear hw
        obtain ⟨t0, t1, t2, t3, t4⟩ := id TT
        obtain ⟨d0, d1, d2, d3, d4⟩ := id DD
        obtain ⟨r0, r1, r2, r3, r4⟩ := id RR
        go_wp2_with fail
        clear t0 t1 t2 t3 t4 d0 d1 d2 d3 d4 r0 r1 r2 r3 r4
        refine (behind_at s _ _ (k + e) 1 _ (by omega) rfl hs (by omega)).mono ?_
        rintro e' W' ⟨rfl, hw⟩
        replace TT : Two W' w.heap.size (.string s) (.int .i64 (k : Int)) := TT.later hw
        replace DD : Two W' E (.string s) (.int .i64 ((k : Int) + (e : Int))) := DD.later hw
        replace RR : Two W' (w.heap.size + 1) (.string ⟨#[]⟩) (.int .i64 0) := RR.later hw
        replace GG : Below w.heap.size w W' := GG.trans (hw.mono GG.size)
        clear hw
        obtain ⟨t0, t1, t2, t3, t4⟩ := id TT
        obtain ⟨d0, d1, d2, d3, d4⟩ := id DD
        obtain ⟨r0, r1, r2, r3, r4⟩ := id RR
        go_wp2_with fail
        clear t0 t1 t2 t3 t4 d0 d1 d2 d3 d4 r0 r1 r2 r3 r4
        by_cases hn : ((at8 s (k + e + 1)).toNat : Int) = 10
        · have gn : (((at8 s (k + e + 1)).toNat : Int) != 10) = false := by simpa using hn
          have hfin : Hid (tlV s k = .tuple #[.string (s.extract k (k + e)), .agg #[.string s, .int .i64 ((k : Int) + (e : Int) + 2)], .int .i64 0]) := by
            have := tlV_ok (tlC_ok (s := s) (k := k) (by rw [HE.out]; exact hlt2) (by rw [HE.out]; omega) (by rw [HE.out]; omega))
            rw [HE.out] at this
            rw [show (k : Int) + (e : Int) = ((k + e : Nat) : Int) from by omega]
            exact this
          clear h10 hn
          refine (next_at s _ (k + e + 1) _ (by omega) hs (by omega)).mono ?_
          rintro e' W' ⟨rfl, hw⟩
          replace TT : Two W' w.heap.size (.string s) (.int .i64 (k : Int)) := hw ▸ TT.alloc _
          replace DD : Two W' E (.string s) (.int .i64 ((k : Int) + (e : Int))) := hw ▸ DD.alloc _
          replace RR : Two W' (w.heap.size + 1) (.string ⟨#[]⟩) (.int .i64 0) := hw ▸ RR.alloc _
          replace GG : Below w.heap.size w W' := hw ▸ (GG.alloc GG.size _)
          clear hw
          obtain ⟨t0, t1, t2, t3, t4⟩ := id TT
          obtain ⟨d0, d1, d2, d3, d4⟩ := id DD
          obtain ⟨r0, r1, r2, r3, r4⟩ := id RR
          go_wp2_with fail
          clear hz hz1 g10 gn t2 t3 d2 d3
          have hww : w.heap.size < W'.heap.size := t4
          have he0 : k + e ≤ s.size := by omega
          have he2 : k + e + 2 ≤ s.size := by omega
          have hke : ((k : Int) + (e : Int)) = ((k + e : Nat) : Int) := by omega
          have HKE : Hid (((k : Int) + (e : Int)) = ((k + e : Nat) : Int)) := hke
          clear hke
          go_region_with (first | (go_at_call 281; refine (part_any s k e _ hs he0).mono ?_; rintro e' w' ⟨rfl, rfl⟩) | (go_at_call 279; refine (behind_at s _ _ (k + e) 2 _ HKE.out rfl hs he2).mono ?_; rintro e' w2 ⟨rfl, hb2⟩; obtain ⟨hcc, hff⟩ := bcell hb2; have hzz := hb2.size))
          all_goals go_wp2
          all_goals
            have X : Two w2 (w.heap.size + 1) (.string ⟨#[]⟩) (.int .i64 0) := Two.later hb2 (by first | exact RR.drew | exact (RR.alloc _).drew)
            have x0 := X.c0
            have x1 := X.c1
            refine bodyPost_ret (v := .tuple #[.string (s.extract k (k + e)), .agg #[.string s, .int .i64 ((k : Int) + (e : Int) + 2)], .int .i64 0]) (by simp [results, Tryz.results249, go_sem, x0, x1]) rfl ⟨by rw [hfin.out], ?_⟩
            have Y : Below w.heap.size w w2 := Below.trans (by first | exact GG.drew | exact (GG.alloc GG.size _).drew) (hb2.mono (by have := GG.size; simp <;> omega))
            exact (Y.setCell (by simp) _).setCell (by simp) _
        · have gn : (((at8 s (k + e + 1)).toNat : Int) != 10) = true := by simpa using hn
          have hfin : Hid (tlV s k = .tuple #[.string ⟨#[]⟩, curZ, .int .i64 2]) := tlV_bad (tlC_no (by rw [HE.out]; exact hlt2) (by rw [HE.out]; omega) (by rw [HE.out]; omega))
          clear h10 hn
          refine (next_at s _ (k + e + 1) _ (by omega) hs (by omega)).mono ?_
          rintro e' W' ⟨rfl, hw⟩
          replace TT : Two W' w.heap.size (.string s) (.int .i64 (k : Int)) := hw ▸ TT.alloc _
          replace DD : Two W' E (.string s) (.int .i64 ((k : Int) + (e : Int))) := hw ▸ DD.alloc _
          replace RR : Two W' (w.heap.size + 1) (.string ⟨#[]⟩) (.int .i64 0) := hw ▸ RR.alloc _
          replace GG : Below w.heap.size w W' := hw ▸ (GG.alloc GG.size _)
          clear hw
          obtain ⟨t0, t1, t2, t3, t4⟩ := id TT
          obtain ⟨d0, d1, d2, d3, d4⟩ := id DD
          obtain ⟨r0, r1, r2, r3, r4⟩ := id RR
          go_wp2
          refine bodyPost_ret (v := .tuple #[.string ⟨#[]⟩, curZ, .int .i64 2]) (by simp [results, Tryz.results249, go_sem, curZ, r0, r1]) rfl ⟨by rw [hfin.out], ?_⟩
          exact (GG.setCell (by simp) _).setCell (by simp) _
end Go.Proofs.YthdgeepedofleaaGreatDoor
namespace Go.Proofs.YthdgeepedofleaaGreatDoor
set_option linter.unusedVariables false
set_option linter.unusedSimpArgs false
open Go.RowKit
/-- A reader has given up with a code. -/
def gone (c : Int) : List PanicEntry := [{ v := .iface 195 (.int .i64 c), recovered := false }]
set_option maxHeartbeats 400000 in
theorem refuseIf_no (c : Int) (w : World) : Calls Tryz.prog 181 #[.bool false, .int .i64 c] w fun e w' => e = .returned (.tuple #[]) ∧ w' = w := by
  go_enter Tryz.func181, Tryz.ntmps181
  go_wp2
  go_end0
  exact ⟨rfl, rfl⟩
set_option maxHeartbeats 400000 in
theorem refuseIf_yes (c : Int) (w : World) : Calls Tryz.prog 181 #[.bool true, .int .i64 c] w fun e w' => e = .panicked (gone c) ∧ w' = w := by
  go_enter Tryz.func181, Tryz.ntmps181
  go_wp2
  exact ⟨rfl, rfl, rfl⟩
/-- What comes of a refusal, or of none. -/
def refE : Bool → Int → Ending
  | true, c => .panicked (gone c)
  | false, _ => .returned (.tuple #[])
theorem refuseIf_any (b : Bool) (c : Int) (w : World) : Calls Tryz.prog 181 #[.bool b, .int .i64 c] w fun e w' => e = refE b c ∧ w' = w := by
  cases b
  · exact refuseIf_no c w
  · exact refuseIf_yes c w
theorem Tryz.infoCur : (Tryz.prog.info? 183).map (·.size) = some 2 := by kernel_rfl
theorem results_tmpC {fn : Func} {p u : Tmp} {ty : TypeId} (h : fn.results = #[.tmp u, .cell p ty]) (tmps : Array Value) (P : Program) (w : World) {b : Nat} {c : Array Value} {t : TypeId} {fs : Array Field} (hp : tmps.getD p undef = .pointer (some ⟨b, 0, none⟩)) (hB : Blk w b c t)
    (hu : P.underlying ty = some (.struct fs)) (hi : (P.info? ty).map (·.size) = some c.size) : (results fn tmps).run P w = .ok (.tuple #[tmps.getD u undef, .agg c]) w := by
  have hrun := run_loadVar_row (P := P) w b t ty c (0, 0) _ hB hu rfl hi
  have ha : (asAddr (tmps.getD p undef)).run P w = .ok ⟨b, 0, none⟩ w := by rw [hp]; rfl
  have he : (results fn tmps).run P w = ((asAddr (tmps.getD p undef)).run P w).andThen fun a w₁ => ((loadVar ty a).run P w₁).andThen fun v w₂ => .ok (.tuple #[tmps.getD u undef, v]) w₂ := by
    simp only [results, h]
    simp [Sem.run_bind, Result.andThen]
  rw [he, ha]
  show ((loadVar ty ⟨b, 0, none⟩).run P w).andThen _ = _
  rw [hrun]
  rfl
set_option maxRecDepth 100000 in
set_option maxHeartbeats 2000000 in
theorem headLine_bad (s : ByteArray) (k : Nat) (w : World) (hs : s.size ≤ maxLen) (hk : k ≤ s.size) (h : hlC s k ≠ 0) :
    Calls Tryz.prog 214 #[.agg #[.string s, .int .i64 (k : Int)]] w fun e w' => e = .panicked (gone (hlC s k)) ∧ Below w.heap.size w w' := by
  have hs' := hs
  unfold maxLen at hs'
  have HB := hideB2 (below_a2 w (.cells #[.string s, .int .i64 (k : Int)] 183) (.cells #[.string ⟨#[]⟩, .int .i64 0] 183))
  have HTL := hideB2 (fun W => TakeLine_ok s k W hs hk)
  by_cases h1 : tlC s k = 0
  · have hE := tlE_ok hk h1
    have hge := tlE_ge s k
    have hz := lineAt_size hk
    unfold hlC at h
    rw [show hlC s k = (if 300 < tlE s k - k ∨ 1500 < tlE s k + 2 then 431 else 0) by unfold hlC; rw [if_pos h1]]
    rw [if_pos h1] at h
    have HB2 := h
    rw [tlV_ok h1] at HTL
    change Hid (∀ W, Calls _ _ _ W fun e w' => e = .returned (.tuple #[.string (lineAt s k), .agg #[.string s, .int .i64 ((tlE s k : Int) + 2)], .int .i64 0]) ∧ Below W.heap.size W w') at HTL
    generalize tlE s k = E at *
    generalize lineAt s k = L at *
    by_cases h2 : (300 : Int) < (L.size : Int)
    · rw [if_pos (by omega)]
      clear h h1 HB2
      go_enter Tryz.func214, Tryz.ntmps214
      go_wp2_with (first | (go_at_call 249; refine (HTL.out _).mono ?_; rintro e w2 ⟨rfl, hb2⟩) | (go_at_call 181; refine (refuseIf_any _ _ _).mono ?_; rintro e w3 ⟨rfl, rfl⟩; simp only [refE]))
      exact ⟨rfl, rfl, below_then (below_then HB.out hb2) (below_a1 _ _)⟩
    · have h3 : (1500 : Int) < (E : Int) + 2 := by
        by_cases h4 : (1500 : Int) < (E : Int) + 2
        · exact h4
        · exact absurd (if_neg (by omega)) HB2
      rw [if_pos (by omega)]
      clear h h1 HB2
      have d2 : decide ((300 : Int) < (L.size : Int)) = false := decide_eq_false h2
      go_enter Tryz.func214, Tryz.ntmps214
      go_wp2_with (first | (go_at_call 249; refine (HTL.out _).mono ?_; rintro e w2 ⟨rfl, hb2⟩) | (go_at_call 181; refine (refuseIf_any _ _ _).mono ?_; rintro e w3 ⟨rfl, rfl⟩; simp only [refE]))
      exact ⟨rfl, rfl, below_then (below_then HB.out hb2) (below_a1 _ _)⟩
  · rw [hlC_bad h1]
    obtain ⟨c, hc, hv⟩ := tlV_not h1
    rw [hv] at HTL
    clear h h1 hv
    unfold curZ at HTL
    go_enter Tryz.func214, Tryz.ntmps214
    go_wp2_with (first | (go_at_call 249; refine (HTL.out _).mono ?_; rintro e w2 ⟨rfl, hb2⟩) | (go_at_call 181; refine (refuseIf_any _ _ _).mono ?_; rintro e w3 ⟨rfl, rfl⟩; simp only [refE]))
    exact ⟨rfl, rfl, below_then (below_then HB.out hb2) (below_a1 _ _)⟩
set_option maxRecDepth 100000 in
set_option maxHeartbeats 2000000 in
theorem headLine_ok (s : ByteArray) (k : Nat) (w : World) (hs : s.size ≤ maxLen) (hk : k ≤ s.size) (h : hlC s k = 0) :
    Calls Tryz.prog 214 #[.agg #[.string s, .int .i64 (k : Int)]] w fun e w' => e = .returned (.tuple #[.string (lineAt s k), .agg #[.string s, .int .i64 ((tlE s k : Int) + 2)]]) ∧ Below w.heap.size w w' := by
  have hs' := hs
  unfold maxLen at hs'
  have HB := hideB2 (below_a2 w (.cells #[.string s, .int .i64 (k : Int)] 183) (.cells #[.string ⟨#[]⟩, .int .i64 0] 183))
  have A2 := hideB2 (show Blk ((w.alloc (.cells #[.string s, .int .i64 (k : Int)] 183)).alloc (.cells #[.string ⟨#[]⟩, .int .i64 0] 183)) (w.heap.size + 1) #[.string ⟨#[]⟩, .int .i64 0] 183 by
    have := Blk.new (w.alloc (.cells #[.string s, .int .i64 (k : Int)] 183)) #[.string ⟨#[]⟩, .int .i64 0] 183
    simpa using this)
  have HTL := hideB2 (fun W => TakeLine_ok s k W hs hk)
  obtain ⟨h1, h2, h3⟩ := hlC_zero h
  have hE := tlE_ok hk h1
  have hge := tlE_ge s k
  have hz := lineAt_size hk
  rw [tlV_ok h1] at HTL
  change Hid (∀ W, Calls _ _ _ W fun e w' => e = .returned (.tuple #[.string (lineAt s k), .agg #[.string s, .int .i64 ((tlE s k : Int) + 2)], .int .i64 0]) ∧ Below W.heap.size W w') at HTL
  clear h h1
  generalize tlE s k = E at *
  generalize lineAt s k = L at *
  have z0 : ((0 : Int) != 0) = false := rfl
  have d2 : decide ((300 : Int) < (L.size : Int)) = false := decide_eq_false (by omega)
  have d3 : decide ((1500 : Int) < (E : Int) + 2) = false := decide_eq_false (by omega)
  clear hz h2 hge
  go_enter Tryz.func214, Tryz.ntmps214
  go_wp2_with (first | (go_at_call 249; refine (HTL.out _).mono ?_; rintro e w2 ⟨rfl, hb2⟩) | (go_at_call 181; refine (refuseIf_any _ _ _).mono ?_; rintro e w3 ⟨rfl, rfl⟩; simp only [refE]))
  have A3 := (A2.out.later hb2).alloc (.cells #[.string s, .int .i64 ((E : Int) + 2)] 183)
  have hlt := (A2.out.later hb2).lt
  obtain ⟨p0, p1⟩ := A3.c2
  have f0 := A3.free 0
  have f1 := A3.free 1
  have HA3 := hideB2 A3
  have HB2 := hideB2 (below_then (below_then HB.out hb2) (below_a1 _ (.cells #[.string s, .int .i64 ((E : Int) + 2)] 183)))
  have N3 := Blk.new w2 #[.string s, .int .i64 ((E : Int) + 2)] 183
  obtain ⟨q0, q1⟩ := N3.c2
  clear A3 hb2 N3
  generalize hW : w2.alloc (.cells #[.string s, .int .i64 ((E : Int) + 2)] 183) = W3 at *
  clear hW
  go_region
  go_wp2
  refine bodyPost_ret (results_tmpC rfl _ _ _ rfl (HA3.out.set2 _ _) Tryz.underlying183 Tryz.infoCur) rfl ⟨rfl, ?_⟩
  exact (below_set2 (g := w.heap.size + 1) HB2.out (by omega) _ _).drew
end Go.Proofs.YthdgeepedofleaaGreatDoor
namespace Go.Proofs.YthdgeepedofleaaGreatDoor
set_option linter.unusedVariables false
set_option linter.unusedSimpArgs false
open Go.RowKit
theorem eqB_ver {s : ByteArray} : (s.toList == [72, 84, 84, 80, 47, 49, 46, 49]) = decide (s = verB) := by
  have h : eqB s verB = (s.toList == [72, 84, 84, 80, 47, 49, 46, 49]) := by unfold eqB; rw [ByteArray.toList_eq verB]; rfl
  rw [← h]
  by_cases hs : s = verB
  · rw [decide_eq_true hs, hs]; exact eqB_self _
  · rw [decide_eq_false hs]
    cases he : eqB s verB with
    | false => rfl
    | true => exact absurd (eqB_iff.1 he) hs
theorem rqP_not {s : ByteArray} (h : Lib.countB s ⟨#[32]⟩ ≠ 2) : rqP s = none := by
  have hl := prtL_len s
  unfold rqP
  match hx : prtL s with
  | [] => rfl
  | [_] => rfl
  | [_, _] => rfl
  | [_, _, _] => rw [hx] at hl; simp at hl; omega
  | _ :: _ :: _ :: _ :: _ => rfl
theorem prtL_three {s : ByteArray} (h : Lib.countB s ⟨#[32]⟩ = 2) : ∃ p q r, prtL s = [p, q, r] := by
  have hl := prtL_len s
  rw [h] at hl
  match hx : prtL s with
  | [] => rw [hx] at hl; simp at hl
  | [_] => rw [hx] at hl; simp at hl
  | [_, _] => rw [hx] at hl; simp at hl
  | [p, q, r] => exact ⟨p, q, r, rfl⟩
  | _ :: _ :: _ :: _ :: _ => rw [hx] at hl; simp at hl
/-- What comes of a request's first line. -/
def rqPost (X : Option (ByteArray × ByteArray)) (e : Ending) : Prop :=
  match X with
  | some (p, q) => e = .returned (.agg #[.string p, .string q, .int .i64 0, .string ⟨#[]⟩, .bool false, .slice none 0 0, .string ⟨#[]⟩])
  | none => e = .panicked (gone 400)
set_option maxRecDepth 100000 in
set_option maxHeartbeats 4000000 in
theorem requestLine_any (s : ByteArray) (w : World) (hs : s.size ≤ 1048576) (hz : ∀ x ∈ prtL s, x.size ≤ 1048576) (X : Option (ByteArray × ByteArray)) (hX : rqP s = X) :
    Calls Tryz.prog 251 #[.string s] w fun e w' => rqPost X e ∧ Below w.heap.size w w' := by
  have HB := hideB2 (below_a1 w (.cells #[.string ⟨#[]⟩, .string ⟨#[]⟩, .int .i64 0, .string ⟨#[]⟩, .bool false, .slice none 0 0, .string ⟨#[]⟩] 50))
  have A1 := hideB2 (Blk.new w #[.string ⟨#[]⟩, .string ⟨#[]⟩, .int .i64 0, .string ⟨#[]⟩, .bool false, .slice none 0 0, .string ⟨#[]⟩] 50)
  have HSp := hideB2 (fun W => SplitBl_any s W (by omega))
  change Hid (∀ W, Calls _ _ _ W fun e w' => e = .returned (.slice (some ⟨W.heap.size, 0, none⟩) (Lib.countB s ⟨#[32]⟩ + 1) (Lib.countB s ⟨#[32]⟩ + 1)) ∧ w' = W.alloc (.cells ((prtL s).map Value.string).toArray 9)) at HSp
  by_cases h2 : Lib.countB s ⟨#[32]⟩ = 2
  · obtain ⟨p, q, r, hp⟩ := prtL_three h2
    have hX2 : X = if r = verB ∧ reqQ (rqM p q) = true then some (p, q) else none := by rw [← hX]; unfold rqP; rw [hp]
    rw [h2, hp] at HSp
    have zp := hz p (by rw [hp]; simp)
    have zq := hz q (by rw [hp]; simp)
    have HX := hideB2 hX2
    clear hX hX2 h2 hp hz hs
    have hver := eqB_ver (s := r)
    have HRQ := hideB2 (fun W => requestOk_any p q ⟨#[]⟩ ⟨#[]⟩ 0 false none 0 0 [] W (by unfold maxLen; omega) (by unfold maxLen; omega))
    change Hid (∀ W, Calls _ _ _ W fun e w' => e = .returned (.bool (reqQ (rqM p q))) ∧ Below W.heap.size W w') at HRQ
    by_cases hv : r = verB
    · rw [decide_eq_true hv] at hver
      cases hrq : reqQ (rqM p q)
      · obtain rfl : X = none := by rw [HX.out, if_neg (by rw [hrq]; simp)]
        rw [hrq] at HRQ
        clear HX hv hrq
        go_enter Tryz.func251, Tryz.ntmps251
        go_wp2_with (first
          | (go_at_call 181; refine (refuseIf_any _ _ _).mono ?_; rintro e w9 ⟨rfl, rfl⟩; simp only [refE])
          | (go_at_call 227; refine (HSp.out _).mono ?_; rintro e w2 ⟨rfl, hw2⟩; rw [hw2]))
        have B1 : Blk ((w.alloc (.cells #[.string ⟨#[]⟩, .string ⟨#[]⟩, .int .i64 0, .string ⟨#[]⟩, .bool false, .slice none 0 0, .string ⟨#[]⟩] 50)).alloc (.cells #[.string p, .string q, .string r] 9)) (w.heap.size + 1) #[.string p, .string q, .string r] 9 := by
          have := Blk.new (w.alloc (.cells #[.string ⟨#[]⟩, .string ⟨#[]⟩, .int .i64 0, .string ⟨#[]⟩, .bool false, .slice none 0 0, .string ⟨#[]⟩] 50)) #[.string p, .string q, .string r] 9
          simpa using this
        have A2 := A1.out.alloc (.cells #[.string p, .string q, .string r] 9)
        have hB2 := below_then HB.out (below_a1 _ (.cells #[.string p, .string q, .string r] 9))
        generalize hW : (w.alloc (.cells #[.string ⟨#[]⟩, .string ⟨#[]⟩, .int .i64 0, .string ⟨#[]⟩, .bool false, .slice none 0 0, .string ⟨#[]⟩] 50)).alloc (.cells #[.string p, .string q, .string r] 9) = W2 at *
        clear hW
        have c0 : W2.cell? ⟨w.heap.size + 1, 0, none⟩ = some (.string p) := B1.cell 0
        have c1 : W2.cell? ⟨w.heap.size + 1, 1, none⟩ = some (.string q) := B1.cell 1
        have d0 : ∀ o, (W2.alloc o).cell? ⟨w.heap.size + 1, 0, none⟩ = some (.string p) := fun o => (B1.alloc o).cell 0
        have d1 : ∀ o, (W2.alloc o).cell? ⟨w.heap.size + 1, 1, none⟩ = some (.string q) := fun o => (B1.alloc o).cell 1
        have HA2 := hideB2 A2
        have HB2 := hideB2 hB2
        clear A2 hB2 B1
        go_cut [4] (fun c wc => c = .pointer (some ⟨W2.heap.size, 0, none⟩) ∧ Below W2.heap.size W2 wc ∧ Blk wc W2.heap.size #[.string p, .string q, .int .i64 0, .string ⟨#[]⟩, .bool false, .slice none 0 0, .string ⟨#[]⟩] 50)
        case first =>
          go_region
          all_goals
            go_wp2_with fail
            go_meet
            exact ⟨rfl, (below_a1 W2 _).drew, (Blk.new W2 _ _).drew⟩
        case rest =>
          obtain ⟨rfl, hb3, N3⟩ := hcut
          have A3 := HA2.out.later hb3
          have HB3 := hideB2 (below_then HB2.out hb3)
          obtain ⟨x0, x1, x2, x3, x4, x5, x6⟩ := N3.c7
          clear hb3 c0 c1 d0 d1
          go_wp2_with (first
            | (go_at_call 181; refine (refuseIf_any _ _ _).mono ?_; rintro e w9 ⟨rfl, rfl⟩; simp only [refE])
            | (go_at_call 235; refine (HRQ.out _).mono ?_; rintro e w4 ⟨rfl, hb4⟩))
          exact ⟨rfl, show rqPost none _ from rfl, below_then HB3.out hb4⟩
      · obtain rfl : X = some (p, q) := by rw [HX.out, if_pos ⟨hv, hrq⟩]
        rw [hrq] at HRQ
        clear HX hv hrq
        go_enter Tryz.func251, Tryz.ntmps251
        go_wp2_with (first
          | (go_at_call 181; refine (refuseIf_any _ _ _).mono ?_; rintro e w9 ⟨rfl, rfl⟩; simp only [refE])
          | (go_at_call 227; refine (HSp.out _).mono ?_; rintro e w2 ⟨rfl, hw2⟩; rw [hw2]))
        have B1 : Blk ((w.alloc (.cells #[.string ⟨#[]⟩, .string ⟨#[]⟩, .int .i64 0, .string ⟨#[]⟩, .bool false, .slice none 0 0, .string ⟨#[]⟩] 50)).alloc (.cells #[.string p, .string q, .string r] 9)) (w.heap.size + 1) #[.string p, .string q, .string r] 9 := by
          have := Blk.new (w.alloc (.cells #[.string ⟨#[]⟩, .string ⟨#[]⟩, .int .i64 0, .string ⟨#[]⟩, .bool false, .slice none 0 0, .string ⟨#[]⟩] 50)) #[.string p, .string q, .string r] 9
          simpa using this
        have A2 := A1.out.alloc (.cells #[.string p, .string q, .string r] 9)
        have hB2 := below_then HB.out (below_a1 _ (.cells #[.string p, .string q, .string r] 9))
        generalize hW : (w.alloc (.cells #[.string ⟨#[]⟩, .string ⟨#[]⟩, .int .i64 0, .string ⟨#[]⟩, .bool false, .slice none 0 0, .string ⟨#[]⟩] 50)).alloc (.cells #[.string p, .string q, .string r] 9) = W2 at *
        clear hW
        have c0 : W2.cell? ⟨w.heap.size + 1, 0, none⟩ = some (.string p) := B1.cell 0
        have c1 : W2.cell? ⟨w.heap.size + 1, 1, none⟩ = some (.string q) := B1.cell 1
        have d0 : ∀ o, (W2.alloc o).cell? ⟨w.heap.size + 1, 0, none⟩ = some (.string p) := fun o => (B1.alloc o).cell 0
        have d1 : ∀ o, (W2.alloc o).cell? ⟨w.heap.size + 1, 1, none⟩ = some (.string q) := fun o => (B1.alloc o).cell 1
        have HA2 := hideB2 A2
        have HB2 := hideB2 hB2
        clear A2 hB2 B1
        go_cut [4] (fun c wc => c = .pointer (some ⟨W2.heap.size, 0, none⟩) ∧ Below W2.heap.size W2 wc ∧ Blk wc W2.heap.size #[.string p, .string q, .int .i64 0, .string ⟨#[]⟩, .bool false, .slice none 0 0, .string ⟨#[]⟩] 50)
        case first =>
          go_region
          all_goals
            go_wp2_with fail
            go_meet
            exact ⟨rfl, (below_a1 W2 _).drew, (Blk.new W2 _ _).drew⟩
        case rest =>
          obtain ⟨rfl, hb3, N3⟩ := hcut
          have A3 := HA2.out.later hb3
          have HB3 := hideB2 (below_then HB2.out hb3)
          obtain ⟨x0, x1, x2, x3, x4, x5, x6⟩ := N3.c7
          clear hb3 c0 c1 d0 d1
          generalize W2.heap.size = G3 at *
          go_wp2_with fail
          refine (HRQ.out _).mono ?_
          rintro e w4 ⟨rfl, hb4⟩
          have A4 := A3.later hb4
          have N4 := N3.later hb4
          obtain ⟨y0, y1, y2, y3, y4, y5, y6⟩ := N4.c7
          obtain ⟨z0, z1, z2, z3, z4, z5, z6⟩ := A4.c7
          obtain ⟨f0, f1, f2, f3, f4, f5, f6⟩ := A4.f7
          have HA4 := hideB2 A4
          have HB4 := hideB2 (below_then HB3.out hb4)
          clear x0 x1 x2 x3 x4 x5 x6 A3 N3 A4 N4 hb4
          go_wp2_with (go_at_call 181; refine (refuseIf_any _ _ _).mono ?_; rintro e w9 ⟨rfl, rfl⟩; simp only [refE])
          refine bodyPost_ret (results_cellS rfl _ _ _ rfl (HA4.out.set7 _ _ _ _ _ _ _) Tryz.underlying50 Tryz.infoMsg) rfl ⟨show rqPost (some (p, q)) _ from rfl, ?_⟩
          exact below_set7 HB4.out (Nat.le_refl _) _ _ _ _ _ _ _
    · rw [decide_eq_false hv] at hver
      obtain rfl : X = none := by rw [HX.out, if_neg (fun h => hv h.1)]
      clear HX hv HRQ
      go_enter Tryz.func251, Tryz.ntmps251
      go_wp2_with (first
        | (go_at_call 181; refine (refuseIf_any _ _ _).mono ?_; rintro e w9 ⟨rfl, rfl⟩; simp only [refE])
        | (go_at_call 227; refine (HSp.out _).mono ?_; rintro e w2 ⟨rfl, hw2⟩; rw [hw2]))
      exact ⟨rfl, show rqPost none _ from rfl, below_then HB.out (below_a1 _ _)⟩
  · obtain rfl : X = none := by rw [← hX]; exact rqP_not h2
    have hne : ((Lib.countB s ⟨#[32]⟩ : Int) + 1 != 3) = true := by rw [bne_iff_ne]; omega
    clear hX h2 hz
    generalize ((prtL s).map Value.string).toArray = arr at *
    generalize Lib.countB s ⟨#[32]⟩ = cn at *
    go_enter Tryz.func251, Tryz.ntmps251
    go_wp2_with (first
      | (go_at_call 181; refine (refuseIf_any _ _ _).mono ?_; rintro e w9 ⟨rfl, rfl⟩; simp only [refE])
      | (go_at_call 227; refine (HSp.out _).mono ?_; rintro e w2 ⟨rfl, hw2⟩; rw [hw2]))
    exact ⟨rfl, show rqPost none _ from rfl, below_then HB.out (below_a1 _ _)⟩
end Go.Proofs.YthdgeepedofleaaGreatDoor
namespace Go.Proofs.YthdgeepedofleaaGreatDoor
set_option linter.unusedVariables false
set_option linter.unusedSimpArgs false
open Go.RowKit
theorem anP_not {s : ByteArray} (h : (prt3 s).length ≠ 3) : anP s = none := by
  unfold anP
  match hx : prt3 s with
  | [] => rfl
  | [_] => rfl
  | [_, _] => rfl
  | [_, _, _] => rw [hx] at h; simp at h
  | _ :: _ :: _ :: _ :: _ => rfl
theorem prt3_three {s : ByteArray} (h : (prt3 s).length = 3) : ∃ p q r, prt3 s = [p, q, r] ∧ min 3 (s.size + 1) = 3 := by
  have hl := Lib.splitB_length_le ⟨#[32]⟩ 0 (min 3 (s.size + 1) - 1) s
  change (prt3 s).length ≤ _ at hl
  match hx : prt3 s with
  | [] => rw [hx] at h; simp at h
  | [_] => rw [hx] at h; simp at h
  | [_, _] => rw [hx] at h; simp at h
  | [p, q, r] => exact ⟨p, q, r, rfl, by omega⟩
  | _ :: _ :: _ :: _ :: _ => rw [hx] at h; simp at h
def anPost (X : Option (Int × ByteArray)) (e : Ending) : Prop :=
  match X with
  | some (n, r) => e = .returned (.agg #[.string ⟨#[]⟩, .string ⟨#[]⟩, .int .i64 n, .string r, .bool false, .slice none 0 0, .string ⟨#[]⟩])
  | none => e = .panicked (gone 400)
set_option maxRecDepth 100000 in
set_option maxHeartbeats 4000000 in
theorem answerLine_any (s : ByteArray) (w : World) (hs : s.size ≤ 1048576) (hz : ∀ x ∈ prt3 s, x.size ≤ 1048576) (X : Option (Int × ByteArray)) (hX : anP s = X) :
    Calls Tryz.prog 250 #[.string s] w fun e w' => anPost X e ∧ Below w.heap.size w w' := by
  have HB := hideB2 (below_a1 w (.cells #[.string ⟨#[]⟩, .string ⟨#[]⟩, .int .i64 0, .string ⟨#[]⟩, .bool false, .slice none 0 0, .string ⟨#[]⟩] 50))
  have A1 := hideB2 (Blk.new w #[.string ⟨#[]⟩, .string ⟨#[]⟩, .int .i64 0, .string ⟨#[]⟩, .bool false, .slice none 0 0, .string ⟨#[]⟩] 50)
  have HSp := hideB2 (fun W => SplitNBl_any s W (by omega))
  change Hid (∀ W, Calls _ _ _ W fun e w' => e = .returned (.slice (some ⟨W.heap.size, 0, none⟩) (prt3 s).length (min 3 (s.size + 1))) ∧ w' = W.alloc (.cells (Lib.cellsOf (prt3 s) (min 3 (s.size + 1))) 9)) at HSp
  by_cases h2 : (prt3 s).length = 3
  · obtain ⟨p, q, r, hp, hm⟩ := prt3_three h2
    have hX2 : X = if p = verB ∧ rdecOk q = true ∧ ansQ (anM (rdecN q) r) = true then some (rdecN q, r) else none := by rw [← hX]; unfold anP; rw [hp]
    rw [hp, hm] at HSp
    change Hid (∀ W, Calls _ _ _ W fun e w' => e = .returned (.slice (some ⟨W.heap.size, 0, none⟩) 3 3) ∧ w' = W.alloc (.cells #[.string p, .string q, .string r] 9)) at HSp
    have zq := hz q (by rw [hp]; simp)
    have zr := hz r (by rw [hp]; simp)
    have HX := hideB2 hX2
    clear hX hX2 h2 hp hz hs hm
    have hver := eqB_ver (s := p)
    have HD := hideB2 (fun W => ReadDec_any q W (by unfold maxLen; omega))
    have HAQ := hideB2 (fun W => answerOk_any ⟨#[]⟩ ⟨#[]⟩ r ⟨#[]⟩ (rdecN q) false none 0 0 [] W (by unfold maxLen; omega))
    change Hid (∀ W, Calls _ _ _ W fun e w' => e = .returned (.bool (ansQ (anM (rdecN q) r))) ∧ Below W.heap.size W w') at HAQ
    have B1 := hideB2 (show Blk ((w.alloc (.cells #[.string ⟨#[]⟩, .string ⟨#[]⟩, .int .i64 0, .string ⟨#[]⟩, .bool false, .slice none 0 0, .string ⟨#[]⟩] 50)).alloc (.cells #[.string p, .string q, .string r] 9)) (w.heap.size + 1) #[.string p, .string q, .string r] 9 by
      have := Blk.new (w.alloc (.cells #[.string ⟨#[]⟩, .string ⟨#[]⟩, .int .i64 0, .string ⟨#[]⟩, .bool false, .slice none 0 0, .string ⟨#[]⟩] 50)) #[.string p, .string q, .string r] 9
      simpa using this)
    have A2 := hideB2 (A1.out.alloc (.cells #[.string p, .string q, .string r] 9))
    have HB2 := hideB2 (below_then HB.out (below_a1 _ (.cells #[.string p, .string q, .string r] 9)))
    by_cases hv : p = verB
    · rw [decide_eq_true hv] at hver
      cases hok : rdecOk q
      · obtain rfl : X = none := by rw [HX.out, if_neg (by rw [hok]; simp)]
        rw [hok] at HD
        clear HX hv hok HAQ
        generalize rdecN q = n at *
        go_enter Tryz.func250, Tryz.ntmps250
        go_wp2_with (first
          | (go_at_call 181; refine (refuseIf_any _ _ _).mono ?_; rintro e w9 ⟨rfl, rfl⟩; simp only [refE])
          | (go_at_call 282; refine (HSp.out _).mono ?_; rintro e w2 ⟨rfl, hw2⟩; rw [hw2])
          | (go_at_call 225; refine (HD.out _).mono ?_; rintro e w3 ⟨rfl, hw3⟩; rw [hw3]))
        exact ⟨rfl, show anPost none _ from rfl, below_then HB2.out (below_a1 _ _)⟩
      · rw [hok] at HD
        cases han : ansQ (anM (rdecN q) r)
        · obtain rfl : X = none := by rw [HX.out, if_neg (by rw [han]; simp)]
          rw [han] at HAQ
          clear HX hv hok han
          generalize rdecN q = n at *
          go_enter Tryz.func250, Tryz.ntmps250
          go_wp2_with (first
            | (go_at_call 181; refine (refuseIf_any _ _ _).mono ?_; rintro e w9 ⟨rfl, rfl⟩; simp only [refE])
            | (go_at_call 282; refine (HSp.out _).mono ?_; rintro e w2 ⟨rfl, hw2⟩; rw [hw2])
            | (go_at_call 225; refine (HD.out _).mono ?_; rintro e w3 ⟨rfl, hw3⟩; rw [hw3])
            | (go_at_call 236; refine (HAQ.out _).mono ?_; rintro e w4 ⟨rfl, hb4⟩))
          exact ⟨rfl, show anPost none _ from rfl, below_then (below_then HB2.out (below_a1 _ _)) hb4⟩
        · obtain rfl : X = some (rdecN q, r) := by rw [HX.out, if_pos ⟨hv, hok, han⟩]
          rw [han] at HAQ
          clear HX hv hok han
          generalize rdecN q = n at *
          go_enter Tryz.func250, Tryz.ntmps250
          go_wp2_with (first
            | (go_at_call 181; refine (refuseIf_any _ _ _).mono ?_; rintro e w9 ⟨rfl, rfl⟩; simp only [refE])
            | (go_at_call 282; refine (HSp.out _).mono ?_; rintro e w2 ⟨rfl, hw2⟩; rw [hw2])
            | (go_at_call 225; refine (HD.out _).mono ?_; rintro e w3 ⟨rfl, hw3⟩; rw [hw3])
            | (go_at_call 236; refine (HAQ.out _).mono ?_; rintro e w4 ⟨rfl, hb4⟩; have A4 := (A2.out.alloc (.cells #[.string ⟨#[]⟩, .string ⟨#[]⟩, .int .i64 n, .string r, .bool false, .slice none 0 0, .string ⟨#[]⟩] 50)).later hb4; have N4 := (Blk.new ((w.alloc (.cells #[.string ⟨#[]⟩, .string ⟨#[]⟩, .int .i64 0, .string ⟨#[]⟩, .bool false, .slice none 0 0, .string ⟨#[]⟩] 50)).alloc (.cells #[.string p, .string q, .string r] 9)) #[.string ⟨#[]⟩, .string ⟨#[]⟩, .int .i64 n, .string r, .bool false, .slice none 0 0, .string ⟨#[]⟩] 50).later hb4; obtain ⟨y0, y1, y2, y3, y4, y5, y6⟩ := N4.c7; simp at y0 y1 y2 y3 y4 y5 y6; obtain ⟨z0, z1, z2, z3, z4, z5, z6⟩ := A4.c7; obtain ⟨f0, f1, f2, f3, f4, f5, f6⟩ := A4.f7))
          refine bodyPost_ret (results_cellS rfl _ _ _ rfl (A4.set7 _ _ _ _ _ _ _) Tryz.underlying50 Tryz.infoMsg) rfl ⟨show anPost (some (n, r)) _ from rfl, ?_⟩
          exact below_set7 (below_then (below_then HB2.out (below_a1 _ _)) hb4) (Nat.le_refl _) _ _ _ _ _ _ _
    · rw [decide_eq_false hv] at hver
      obtain rfl : X = none := by rw [HX.out, if_neg (fun h => hv h.1)]
      clear HX hv HAQ HD
      go_enter Tryz.func250, Tryz.ntmps250
      go_wp2_with (first
        | (go_at_call 181; refine (refuseIf_any _ _ _).mono ?_; rintro e w9 ⟨rfl, rfl⟩; simp only [refE])
        | (go_at_call 282; refine (HSp.out _).mono ?_; rintro e w2 ⟨rfl, hw2⟩; rw [hw2]))
      exact ⟨rfl, show anPost none _ from rfl, HB2.out⟩
  · obtain rfl : X = none := by rw [← hX]; exact anP_not h2
    have hne : (((prt3 s).length : Int) != 3) = true := by rw [bne_iff_ne]; omega
    clear hX h2 hz
    generalize Lib.cellsOf (prt3 s) (min 3 (s.size + 1)) = arr at *
    generalize (prt3 s).length = cn at *
    generalize min 3 (s.size + 1) = mn at *
    go_enter Tryz.func250, Tryz.ntmps250
    go_wp2_with (first
      | (go_at_call 181; refine (refuseIf_any _ _ _).mono ?_; rintro e w9 ⟨rfl, rfl⟩; simp only [refE])
      | (go_at_call 282; refine (HSp.out _).mono ?_; rintro e w2 ⟨rfl, hw2⟩; rw [hw2]))
    exact ⟨rfl, show anPost none _ from rfl, below_then HB.out (below_a1 _ _)⟩
end Go.Proofs.YthdgeepedofleaaGreatDoor
namespace Go.Proofs.YthdgeepedofleaaGreatDoor
set_option linter.unusedVariables false
set_option linter.unusedSimpArgs false
open Go.RowKit
def flPost (X : Option Fl) (e : Ending) : Prop :=
  match X with
  | some (a, b, n, r) => e = .returned (.agg #[.string a, .string b, .int .i64 n, .string r, .bool false, .slice none 0 0, .string ⟨#[]⟩])
  | none => e = .panicked (gone 400)
theorem split_small (sep : ByteArray) (m : Nat) : ∀ (k : Nat) (s : ByteArray), s.size ≤ m → ∀ x ∈ Lib.splitB sep 0 k s, x.size ≤ m
  | 0, s, hs, x, hx => by
    rw [Lib.splitB_zero] at hx
    simp at hx; subst hx; exact hs
  | k + 1, s, hs, x, hx => by
    unfold Lib.splitB at hx
    split at hx
    · simp at hx; subst hx; exact hs
    · rcases List.mem_cons.1 hx with rfl | hx
      · rw [ByteArray.size_extract]; omega
      · exact split_small sep m k _ (by rw [ByteArray.size_extract]; omega) x hx
set_option maxRecDepth 100000 in
set_option maxHeartbeats 4000000 in
theorem firstLine_any (s : ByteArray) (answer : Bool) (w : World) (hs : s.size ≤ 1048576) (X : Option Fl) (hX : flX answer s = X) :
    Calls Tryz.prog 215 #[.string s, .bool answer] w fun e w' => flPost X e ∧ Below w.heap.size w w' := by
  have HB := hideB2 (below_a1 w (.cells #[.string ⟨#[]⟩, .string ⟨#[]⟩, .int .i64 0, .string ⟨#[]⟩, .bool false, .slice none 0 0, .string ⟨#[]⟩] 50))
  have A1 := hideB2 (Blk.new w #[.string ⟨#[]⟩, .string ⟨#[]⟩, .int .i64 0, .string ⟨#[]⟩, .bool false, .slice none 0 0, .string ⟨#[]⟩] 50)
  cases answer
  · have HR := hideB2 (fun W => requestLine_any s W hs (split_small _ _ _ s hs) _ (rq_same s))
    have hX2 : X = (rqO s).map fun x => (x.1, x.2, 0, ⟨#[]⟩) := hX.symm
    clear hX hs
    generalize rqO s = Y at *
    cases Y with
    | none =>
      obtain rfl : X = none := hX2
      go_enter Tryz.func215, Tryz.ntmps215
      go_wp2_with (go_at_call 251; refine (HR.out _).mono ?_; rintro e w2 ⟨he, hb2⟩; replace he : e = .panicked (gone 400) := he; subst he)
      exact ⟨rfl, show flPost none _ from rfl, below_then HB.out hb2⟩
    | some y =>
      obtain ⟨a, b⟩ := y
      obtain rfl : X = some (a, b, 0, ⟨#[]⟩) := hX2
      go_enter Tryz.func215, Tryz.ntmps215
      go_wp2_with fail
      refine (HR.out _).mono ?_
      rintro e w2 ⟨he, hb2⟩
      replace he : e = .returned (.agg #[.string a, .string b, .int .i64 0, .string ⟨#[]⟩, .bool false, .slice none 0 0, .string ⟨#[]⟩]) := he
      subst he
      have A2 := A1.out.later hb2
      obtain ⟨z0, z1, z2, z3, z4, z5, z6⟩ := A2.c7
      obtain ⟨f0, f1, f2, f3, f4, f5, f6⟩ := A2.f7
      go_wp2
      refine bodyPost_ret (results_cellS rfl _ _ _ rfl (A2.set7 _ _ _ _ _ _ _) Tryz.underlying50 Tryz.infoMsg) rfl ⟨show flPost (some (a, b, 0, ⟨#[]⟩)) _ from rfl, ?_⟩
      exact below_set7 (below_then HB.out hb2) (Nat.le_refl _) _ _ _ _ _ _ _
  · have HR := hideB2 (fun W => answerLine_any s W hs (split_small _ _ _ s hs) _ (an_same s))
    have hX2 : X = (anO s).map fun x => (⟨#[]⟩, ⟨#[]⟩, x.1, x.2) := hX.symm
    clear hX hs
    generalize anO s = Y at *
    cases Y with
    | none =>
      obtain rfl : X = none := hX2
      go_enter Tryz.func215, Tryz.ntmps215
      go_wp2_with (go_at_call 250; refine (HR.out _).mono ?_; rintro e w2 ⟨he, hb2⟩; replace he : e = .panicked (gone 400) := he; subst he)
      exact ⟨rfl, show flPost none _ from rfl, below_then HB.out hb2⟩
    | some y =>
      obtain ⟨n, r⟩ := y
      obtain rfl : X = some (⟨#[]⟩, ⟨#[]⟩, n, r) := hX2
      go_enter Tryz.func215, Tryz.ntmps215
      go_wp2_with fail
      refine (HR.out _).mono ?_
      rintro e w2 ⟨he, hb2⟩
      replace he : e = .returned (.agg #[.string ⟨#[]⟩, .string ⟨#[]⟩, .int .i64 n, .string r, .bool false, .slice none 0 0, .string ⟨#[]⟩]) := he
      subst he
      have A2 := A1.out.later hb2
      obtain ⟨z0, z1, z2, z3, z4, z5, z6⟩ := A2.c7
      obtain ⟨f0, f1, f2, f3, f4, f5, f6⟩ := A2.f7
      go_wp2
      refine bodyPost_ret (results_cellS rfl _ _ _ rfl (A2.set7 _ _ _ _ _ _ _) Tryz.underlying50 Tryz.infoMsg) rfl ⟨show flPost (some (⟨#[]⟩, ⟨#[]⟩, n, r)) _ from rfl, ?_⟩
      exact below_set7 (below_then HB.out hb2) (Nat.le_refl _) _ _ _ _ _ _ _
end Go.Proofs.YthdgeepedofleaaGreatDoor
namespace Go.Proofs.YthdgeepedofleaaGreatDoor
set_option linter.unusedVariables false
set_option linter.unusedSimpArgs false
open Go.RowKit

set_option maxHeartbeats 1000000 in
theorem TakeN_any (s : ByteArray) (n m : Int) (w : World) (hs : s.size ≤ maxLen) (hm : m ≤ 9223372036854775807) :
    Calls Tryz.prog 288 #[.agg #[.string s, .int .i64 n], .int .i64 m] w fun e w' => e = .returned (tnV s n m) ∧ Below w.heap.size w w' := by
  have hs' := hs
  unfold maxLen at hs'
  cases hc : curOk s n
  · rw [tnV_no (by simp [tnOk, hc])]
    go_enter Tryz.func288, Tryz.ntmps288
    go_wp2_with (go_at_call 277; refine (inside_any s _ _).mono ?_; rintro e w' ⟨rfl, rfl⟩)
    refine bodyPost_ret (v := .tuple #[.string ⟨#[]⟩, curZ, .bool false]) (by simp [results, Tryz.results288, go_sem, curZ]) rfl ⟨rfl, ?_⟩
    exact (by repeat (first | exact Below.refl _ _ | refine Below.drew ?_ | refine Below.alloc ?_ (by simp <;> omega) _ | refine Below.setCell ?_ (by simp <;> omega) _))
  · obtain ⟨h0, h1⟩ := curOk_iff.1 hc
    obtain ⟨k, rfl⟩ := Int.eq_ofNat_of_zero_le h0
    have hk : k ≤ s.size := by omega
    by_cases hm0 : m < 0
    · rw [tnV_no (by simp [tnOk]; omega)]
      go_enter Tryz.func288, Tryz.ntmps288
      go_wp2_with (first | (go_at_call 277; refine (inside_any s _ _).mono ?_; rintro e w' ⟨rfl, rfl⟩) | (go_at_call 258; refine (left_any s k _ hs hk).mono ?_; rintro e w' ⟨rfl, rfl⟩))
      refine bodyPost_ret (v := .tuple #[.string ⟨#[]⟩, curZ, .bool false]) (by simp [results, Tryz.results288, go_sem, curZ]) rfl ⟨rfl, ?_⟩
      exact (by repeat (first | exact Below.refl _ _ | refine Below.drew ?_ | refine Below.alloc ?_ (by simp <;> omega) _ | refine Below.setCell ?_ (by simp <;> omega) _))
    · obtain ⟨j, rfl⟩ := Int.eq_ofNat_of_zero_le (show 0 ≤ m by omega)
      by_cases hbig : (s.size : Int) - (k : Int) < (j : Int)
      · rw [tnV_no (by simp [tnOk]; omega)]
        go_enter Tryz.func288, Tryz.ntmps288
        go_wp2_with (first | (go_at_call 277; refine (inside_any s _ _).mono ?_; rintro e w' ⟨rfl, rfl⟩) | (go_at_call 258; refine (left_any s k _ hs hk).mono ?_; rintro e w' ⟨rfl, rfl⟩))
        refine bodyPost_ret (v := .tuple #[.string ⟨#[]⟩, curZ, .bool false]) (by simp [results, Tryz.results288, go_sem, curZ]) rfl ⟨rfl, ?_⟩
        exact (by repeat (first | exact Below.refl _ _ | refine Below.drew ?_ | refine Below.alloc ?_ (by simp <;> omega) _ | refine Below.setCell ?_ (by simp <;> omega) _))
      · rw [tnV_yes (by omega)]
        have hkj2 : k + j ≤ s.size := by omega
        go_enter Tryz.func288, Tryz.ntmps288
        go_wp2_with (first | (go_at_call 277; refine (inside_any s _ _).mono ?_; rintro e w' ⟨rfl, rfl⟩) | (go_at_call 258; refine (left_any s k _ hs hk).mono ?_; rintro e w' ⟨rfl, rfl⟩))
        go_region_with (first | (go_at_call 281; refine (part_any s k j _ hs hkj2).mono ?_; rintro e w' ⟨rfl, rfl⟩) | (go_at_call 279; refine (behind_any s k j _ hs hkj2).mono ?_; rintro e w2 ⟨rfl, hb2⟩; obtain ⟨hcc, hff⟩ := bcell hb2; have hzz := hb2.size))
        all_goals go_wp2
        all_goals
          refine bodyPost_ret (v := .tuple #[.string (s.extract k (k + j)), .agg #[.string s, .int .i64 ((k : Int) + j)], .bool true]) (by simp [results, Tryz.results288, go_sem, hcc]) rfl ⟨rfl, ?_⟩
        all_goals exact (by repeat (first | exact Below.refl _ _ | refine Below.drew ?_ | refine Below.alloc ?_ (by simp <;> omega) _ | refine Below.setCell ?_ (by simp <;> omega) _ | refine Below.trans ?_ (Below.mono hb2 (by simp <;> omega))))
end Go.Proofs.YthdgeepedofleaaGreatDoor
namespace Go.Proofs.YthdgeepedofleaaGreatDoor
set_option linter.unusedVariables false
set_option linter.unusedSimpArgs false
open Go.RowKit
set_option maxRecDepth 100000 in
set_option maxHeartbeats 2000000 in
theorem chunkLine_ok (s : ByteArray) (k : Nat) (w : World) (hs : s.size ≤ maxLen) (hk : k ≤ s.size) (h : lnQ s k = true) :
    Calls Tryz.prog 286 #[.agg #[.string s, .int .i64 (k : Int)]] w fun e w' => e = .returned (.tuple #[.string (lineAt s k), .agg #[.string s, .int .i64 ((tlE s k : Int) + 2)]]) ∧ Below w.heap.size w w' := by
  have hs' := hs
  unfold maxLen at hs'
  have HB := hideB2 (below_a2 w (.cells #[.string s, .int .i64 (k : Int)] 183) (.cells #[.string ⟨#[]⟩, .int .i64 0] 183))
  have A2 := hideB2 (show Blk ((w.alloc (.cells #[.string s, .int .i64 (k : Int)] 183)).alloc (.cells #[.string ⟨#[]⟩, .int .i64 0] 183)) (w.heap.size + 1) #[.string ⟨#[]⟩, .int .i64 0] 183 by
    have := Blk.new (w.alloc (.cells #[.string s, .int .i64 (k : Int)] 183)) #[.string ⟨#[]⟩, .int .i64 0] 183
    simpa using this)
  have HTL := hideB2 (fun W => TakeLine_ok s k W hs hk)
  obtain ⟨h1, h2⟩ := lnQ_iff.1 h
  have hE := tlE_ok hk h1
  have hge := tlE_ge s k
  have hz := lineAt_size hk
  rw [tlV_ok h1] at HTL
  change Hid (∀ W, Calls _ _ _ W fun e w' => e = .returned (.tuple #[.string (lineAt s k), .agg #[.string s, .int .i64 ((tlE s k : Int) + 2)], .int .i64 0]) ∧ Below W.heap.size W w') at HTL
  clear h h1
  generalize tlE s k = E at *
  generalize lineAt s k = L at *
  have z0 : ((0 : Int) != 0) = false := rfl
  have d2 : decide ((300 : Int) < (L.size : Int)) = false := decide_eq_false (by omega)
  clear hz h2 hge
  go_enter Tryz.func286, Tryz.ntmps286
  go_wp2_with (first | (go_at_call 249; refine (HTL.out _).mono ?_; rintro e w2 ⟨rfl, hb2⟩) | (go_at_call 181; refine (refuseIf_any _ _ _).mono ?_; rintro e w3 ⟨rfl, rfl⟩; simp only [refE]))
  have A3 := (A2.out.later hb2).alloc (.cells #[.string s, .int .i64 ((E : Int) + 2)] 183)
  have hlt := (A2.out.later hb2).lt
  obtain ⟨p0, p1⟩ := A3.c2
  have f0 := A3.free 0
  have f1 := A3.free 1
  have HA3 := hideB2 A3
  have HB2 := hideB2 (below_then (below_then HB.out hb2) (below_a1 _ (.cells #[.string s, .int .i64 ((E : Int) + 2)] 183)))
  have N3 := Blk.new w2 #[.string s, .int .i64 ((E : Int) + 2)] 183
  obtain ⟨q0, q1⟩ := N3.c2
  clear A3 hb2 N3
  generalize hW : w2.alloc (.cells #[.string s, .int .i64 ((E : Int) + 2)] 183) = W3 at *
  clear hW
  go_region
  go_wp2
  refine bodyPost_ret (results_tmpC rfl _ _ _ rfl (HA3.out.set2 _ _) Tryz.underlying183 Tryz.infoCur) rfl ⟨rfl, ?_⟩
  exact (below_set2 (g := w.heap.size + 1) HB2.out (by omega) _ _).drew
set_option maxRecDepth 100000 in
set_option maxHeartbeats 2000000 in
theorem chunkLine_bad (s : ByteArray) (k : Nat) (w : World) (hs : s.size ≤ maxLen) (hk : k ≤ s.size) (h : lnQ s k = false) :
    Calls Tryz.prog 286 #[.agg #[.string s, .int .i64 (k : Int)]] w fun e w' => e = .panicked (gone 400) ∧ Below w.heap.size w w' := by
  have hs' := hs
  unfold maxLen at hs'
  have HB := hideB2 (below_a2 w (.cells #[.string s, .int .i64 (k : Int)] 183) (.cells #[.string ⟨#[]⟩, .int .i64 0] 183))
  have HTL := hideB2 (fun W => TakeLine_ok s k W hs hk)
  by_cases h1 : tlC s k = 0
  · have hE := tlE_ok hk h1
    have hz := lineAt_size hk
    have h2 : (300 : Int) < ((lineAt s k).size : Int) := by
      unfold lnQ at h
      rw [decide_eq_true h1, Bool.true_and, decide_eq_false_iff_not] at h
      omega
    rw [tlV_ok h1] at HTL
    change Hid (∀ W, Calls _ _ _ W fun e w' => e = .returned (.tuple #[.string (lineAt s k), .agg #[.string s, .int .i64 ((tlE s k : Int) + 2)], .int .i64 0]) ∧ Below W.heap.size W w') at HTL
    clear hz h h1
    generalize tlE s k = E at *
    generalize lineAt s k = L at *
    go_enter Tryz.func286, Tryz.ntmps286
    go_wp2_with (first | (go_at_call 249; refine (HTL.out _).mono ?_; rintro e w2 ⟨rfl, hb2⟩) | (go_at_call 181; refine (refuseIf_any _ _ _).mono ?_; rintro e w9 ⟨rfl, rfl⟩; simp only [refE]))
    exact ⟨rfl, rfl, below_then (below_then HB.out hb2) (below_a1 _ _)⟩
  · obtain ⟨c, hc, hv⟩ := tlV_not h1
    rw [hv] at HTL
    clear h h1 hv
    unfold curZ at HTL
    go_enter Tryz.func286, Tryz.ntmps286
    go_wp2_with (first | (go_at_call 249; refine (HTL.out _).mono ?_; rintro e w2 ⟨rfl, hb2⟩) | (go_at_call 181; refine (refuseIf_any _ _ _).mono ?_; rintro e w9 ⟨rfl, rfl⟩; simp only [refE]))
    exact ⟨rfl, rfl, below_then (below_then HB.out hb2) (below_a1 _ _)⟩
set_option maxRecDepth 100000 in
set_option maxHeartbeats 2000000 in
theorem takenField_bad (s : ByteArray) (w : World) (hs : s.size ≤ maxLen) (h : readO s = false) :
    Calls Tryz.prog 216 #[.string s] w fun e w' => e = .panicked (gone 400) ∧ Below w.heap.size w w' := by
  have HB := hideB2 (below_a1 w (.cells #[.string ⟨#[]⟩, .string ⟨#[]⟩] 88))
  have HR := hideB2 (fun W => ReadField_any s W hs)
  rw [h] at HR
  clear h hs
  generalize (readF s).1 = x at *
  generalize (readF s).2 = y at *
  go_enter Tryz.func216, Tryz.ntmps216
  go_wp2_with (first | (go_at_call 252; refine (HR.out _).mono ?_; rintro e w2 ⟨rfl, hb2⟩) | (go_at_call 181; refine (refuseIf_any _ _ _).mono ?_; rintro e w9 ⟨rfl, rfl⟩; simp only [refE]))
  exact ⟨rfl, rfl, below_then (below_then HB.out hb2) (below_a1 _ _)⟩
set_option maxRecDepth 100000 in
set_option maxHeartbeats 2000000 in
theorem takenField_ok (s : ByteArray) (w : World) (hs : s.size ≤ maxLen) (h : readO s = true) :
    Calls Tryz.prog 216 #[.string s] w fun e w' => e = .returned (.agg #[.string (readF s).1, .string (readF s).2]) ∧ Below w.heap.size w w' := by
  have HB := hideB2 (below_a1 w (.cells #[.string ⟨#[]⟩, .string ⟨#[]⟩] 88))
  have A1 := hideB2 (Blk.new w #[.string ⟨#[]⟩, .string ⟨#[]⟩] 88)
  have HR := hideB2 (fun W => ReadField_any s W hs)
  rw [h] at HR
  clear h hs
  generalize (readF s).1 = x at *
  generalize (readF s).2 = y at *
  go_enter Tryz.func216, Tryz.ntmps216
  go_wp2_with fail
  refine (HR.out _).mono ?_
  rintro e w2 ⟨rfl, hb2⟩
  have A3 := A1.out.later hb2
  have hlt := A3.lt
  obtain ⟨p0, p1⟩ := A3.c2
  have f0 := A3.free 0
  have f1 := A3.free 1
  have HA3 := hideB2 A3
  have HB2 := hideB2 (below_then HB.out hb2)
  clear A3 hb2
  go_wp2_with (go_at_call 181; refine (refuseIf_any _ _ _).mono ?_; rintro e w9 ⟨rfl, rfl⟩; simp only [refE])
  refine bodyPost_ret (results_cellS rfl _ _ _ rfl ((HA3.out.set2 _ _).alloc _) Tryz.underlying88 Tryz.infoField) rfl ⟨rfl, ?_⟩
  exact below_alloc' (below_set2 HB2.out (Nat.le_refl _) _ _) (Nat.le_refl _) _
set_option maxRecDepth 100000 in
set_option maxHeartbeats 2000000 in
theorem chunkSize_bad1 (s : ByteArray) (k : Nat) (w : World) (hs : s.size ≤ maxLen) (hk : k ≤ s.size) (h : lnQ s k = false) :
    Calls Tryz.prog 256 #[.agg #[.string s, .int .i64 (k : Int)]] w fun e w' => e = .panicked (gone 400) ∧ Below w.heap.size w w' := by
  have HB := hideB2 (below_a2 w (.cells #[.string s, .int .i64 (k : Int)] 183) (.cells #[.string ⟨#[]⟩, .int .i64 0] 183))
  have HL := hideB2 (fun W => chunkLine_bad s k W hs hk h)
  clear h hs hk
  go_enter Tryz.func256, Tryz.ntmps256
  go_wp2_with (go_at_call 286; refine (HL.out _).mono ?_; rintro e w2 ⟨rfl, hb2⟩)
  exact ⟨rfl, rfl, below_then HB.out hb2⟩
theorem cutS_any (L : ByteArray) (hL : L.size ≤ maxLen) : ∃ y q, ∀ W, Calls Tryz.prog 224 #[.string L, .string ⟨#[59]⟩] W fun e w' => e = .returned (.tuple #[.string (uptoS L), .string y, .bool q]) ∧ Below W.heap.size W w' := by
  rcases idxSc_cases L with hi | ⟨i, hi, hlt⟩
  · refine ⟨⟨#[]⟩, false, fun W => ?_⟩
    rw [uptoS_none hi]
    exact CutS_none L W hi
  · refine ⟨L.extract (i + 1) L.size, true, fun W => ?_⟩
    rw [uptoS_some hi]
    exact CutS_some L i W hi hlt hL
set_option maxRecDepth 100000 in
set_option maxHeartbeats 2000000 in
theorem chunkSize_bad2 (s : ByteArray) (k : Nat) (w : World) (hs : s.size ≤ maxLen) (hk : k ≤ s.size) (h : lnQ s k = true) (h2 : rhexOk (uptoS (lineAt s k)) = false) :
    Calls Tryz.prog 256 #[.agg #[.string s, .int .i64 (k : Int)]] w fun e w' => e = .panicked (gone 400) ∧ Below w.heap.size w w' := by
  have HB := hideB2 (below_a2 w (.cells #[.string s, .int .i64 (k : Int)] 183) (.cells #[.string ⟨#[]⟩, .int .i64 0] 183))
  have HL := hideB2 (fun W => chunkLine_ok s k W hs hk h)
  have hz := lineAt_size hk
  have hE := tlE_ok hk (lnQ_iff.1 h).1
  have hL : (lineAt s k).size ≤ maxLen := by unfold maxLen at *; omega
  obtain ⟨y, q, hcut⟩ := cutS_any (lineAt s k) hL
  have HC := hideB2 hcut
  have HX := hideB2 (fun W => ReadHex_any (uptoS (lineAt s k)) W (Nat.le_trans (uptoS_size _) hL))
  rw [h2] at HX
  clear h hcut hz hL h2 hs
  generalize uptoS (lineAt s k) = U at *
  generalize rhexN U = N at *
  generalize lineAt s k = L at *
  generalize tlE s k = E at *
  go_enter Tryz.func256, Tryz.ntmps256
  go_wp2_with (first | (go_at_call 286; refine (HL.out _).mono ?_; rintro e w2 ⟨rfl, hb2⟩) | (go_at_call 224; refine (HC.out _).mono ?_; rintro e w3 ⟨rfl, hb3⟩) | (go_at_call 287; refine (HX.out _).mono ?_; rintro e w4 ⟨rfl, rfl⟩) | (go_at_call 181; refine (refuseIf_any _ _ _).mono ?_; rintro e w9 ⟨rfl, rfl⟩; simp only [refE]))
  exact ⟨rfl, rfl, below_then (below_then (below_then HB.out hb2) (below_a1 _ _)) hb3⟩
set_option maxRecDepth 100000 in
set_option maxHeartbeats 2000000 in
theorem chunkSize_ok (s : ByteArray) (k : Nat) (w : World) (hs : s.size ≤ maxLen) (hk : k ≤ s.size) (h : lnQ s k = true) (h2 : rhexOk (uptoS (lineAt s k)) = true) :
    Calls Tryz.prog 256 #[.agg #[.string s, .int .i64 (k : Int)]] w fun e w' => e = .returned (.tuple #[.int .i64 (rhexN (uptoS (lineAt s k))), .agg #[.string s, .int .i64 ((tlE s k : Int) + 2)]]) ∧ Below w.heap.size w w' := by
  have HB := hideB2 (below_a2 w (.cells #[.string s, .int .i64 (k : Int)] 183) (.cells #[.string ⟨#[]⟩, .int .i64 0] 183))
  have A2 := hideB2 (show Blk ((w.alloc (.cells #[.string s, .int .i64 (k : Int)] 183)).alloc (.cells #[.string ⟨#[]⟩, .int .i64 0] 183)) (w.heap.size + 1) #[.string ⟨#[]⟩, .int .i64 0] 183 by
    have := Blk.new (w.alloc (.cells #[.string s, .int .i64 (k : Int)] 183)) #[.string ⟨#[]⟩, .int .i64 0] 183
    simpa using this)
  have HL := hideB2 (fun W => chunkLine_ok s k W hs hk h)
  have hz := lineAt_size hk
  have hE := tlE_ok hk (lnQ_iff.1 h).1
  have hL : (lineAt s k).size ≤ maxLen := by unfold maxLen at *; omega
  obtain ⟨y, q, hcut⟩ := cutS_any (lineAt s k) hL
  have HC := hideB2 hcut
  have HX := hideB2 (fun W => ReadHex_any (uptoS (lineAt s k)) W (Nat.le_trans (uptoS_size _) hL))
  rw [h2] at HX
  clear h hcut hz hL h2 hs
  generalize uptoS (lineAt s k) = U at *
  generalize rhexN U = N at *
  generalize lineAt s k = L at *
  generalize tlE s k = E at *
  go_enter Tryz.func256, Tryz.ntmps256
  go_wp2_with fail
  refine (HL.out _).mono ?_
  rintro e w2 ⟨rfl, hb2⟩
  have A3 := (A2.out.later hb2).alloc (.cells #[.string s, .int .i64 ((E : Int) + 2)] 183)
  have N3 := Blk.new w2 #[.string s, .int .i64 ((E : Int) + 2)] 183
  have hlt := (A2.out.later hb2).lt
  have hB2 := below_then (below_then HB.out hb2) (below_a1 _ (.cells #[.string s, .int .i64 ((E : Int) + 2)] 183))
  clear hb2
  go_wp2_with fail
  generalize hW : w2.alloc (.cells #[.string s, .int .i64 ((E : Int) + 2)] 183) = W3 at *
  clear hW
  generalize w2.heap.size = G at *
  refine (HC.out _).mono ?_
  rintro e w3 ⟨rfl, hb3⟩
  have A4 := A3.later hb3
  have N4 := N3.later hb3
  have HB4 := hideB2 (below_then hB2 hb3)
  clear A3 N3 hB2 hb3
  obtain ⟨p0, p1⟩ := A4.c2
  obtain ⟨q0, q1⟩ := N4.c2
  have f0 := A4.free 0
  have f1 := A4.free 1
  have HA4 := hideB2 A4
  clear A4 N4
  go_wp2_with (first | (go_at_call 287; refine (HX.out _).mono ?_; rintro e w4 ⟨rfl, rfl⟩) | (go_at_call 181; refine (refuseIf_any _ _ _).mono ?_; rintro e w9 ⟨rfl, rfl⟩; simp only [refE]))
  go_region
  go_wp2
  refine bodyPost_ret (results_tmpC rfl _ _ _ rfl (HA4.out.set2 _ _) Tryz.underlying183 Tryz.infoCur) rfl ⟨rfl, ?_⟩
  exact (below_set2 (g := w.heap.size + 1) HB4.out (by omega) _ _).drew
end Go.Proofs.YthdgeepedofleaaGreatDoor
namespace Go.Proofs.YthdgeepedofleaaGreatDoor
set_option linter.unusedVariables false
set_option linter.unusedSimpArgs false
open Go.RowKit
def hdPost (w : World) (X : Except Int (Fl × List Fd × Nat)) (e : Ending) (w' : World) : Prop :=
  match X with
  | .ok ((a, b, n, r), fs, m) => ∃ v, e = .returned (.tuple #[.agg #[.string a, .string b, .int .i64 n, .string r, .bool false, v, .string ⟨#[]⟩], .int .i64 (m : Int)]) ∧ BufF w w' v fs
  | .error c => e = .panicked (gone c) ∧ Below w.heap.size w w'
/-- How many fields a message holds that lies at g. -/
def fldLen (g : Nat) (w : World) : Nat :=
  match w.cell? ⟨g, 5, none⟩ with
  | some (.slice _ n _) => n
  | _ => 0
set_option maxRecDepth 100000 in
set_option maxHeartbeats 16000000 in
theorem takenHead_any (s : ByteArray) (answer : Bool) (w : World) (hs : s.size ≤ 1048576) (X : Except Int (Fl × List Fd × Nat)) (hX : hdX answer s = X) :
    Calls Tryz.prog 176 #[.string s, .bool answer] w fun e w' => hdPost w X e w' := by
  have HB := hideB2 (below_a1 w (.cells #[.string ⟨#[]⟩, .string ⟨#[]⟩, .int .i64 0, .string ⟨#[]⟩, .bool false, .slice none 0 0, .string ⟨#[]⟩] 50))
  have A1 := hideB2 (Blk.new w #[.string ⟨#[]⟩, .string ⟨#[]⟩, .int .i64 0, .string ⟨#[]⟩, .bool false, .slice none 0 0, .string ⟨#[]⟩] 50)
  have hsm : s.size ≤ maxLen := by unfold maxLen; omega
  by_cases h1 : (4000 : Int) < (s.size : Int)
  · obtain rfl : X = .error 413 := by rw [← hX]; unfold hdX; rw [if_pos (by omega)]
    clear hX
    go_enter Tryz.func176, Tryz.ntmps176
    go_wp2
    go_step3
    go_wp2_with (go_at_call 181; refine (refuseIf_any _ _ _).mono ?_; rintro e w9 ⟨rfl, rfl⟩; simp only [refE])
    exact ⟨rfl, show hdPost w (.error 413) _ _ from ⟨rfl, HB.out⟩⟩
  · have d1 : decide ((4000 : Int) < (s.size : Int)) = false := decide_eq_false h1
    by_cases h2 : hlC s 0 = 0
    · have HL := hideB2 (fun W => headLine_ok s 0 W hsm (Nat.zero_le _) h2)
      have hE := tlE_ok (Nat.zero_le _) (hlC_zero h2).1
      have hz := lineAt_size (s := s) (k := 0) (Nat.zero_le _)
      have hZN := fun h => hdZ_none (answer := answer) (s := s) h
      have hZB := fun (x : Fl) c h h2 => hdZ_bad (answer := answer) (s := s) (x := x) (c := c) h h2
      have hZO := fun (x : Fl) fs m h h2 => hdZ_ok (answer := answer) (s := s) (x := x) (fs := fs) (n := m) h h2
      rw [hdX_go (by omega) h2] at hX
      have HFL := hideB2 (fun W => firstLine_any (lineAt s 0) answer W (by omega) _ rfl)
      have HS := hideB2 hsm
      clear h2 hz hs hsm
      rw [show ((0 : Nat) : Int) = 0 from rfl] at HL
      cases hFX : flX answer (lineAt s 0) with
      | none =>
        rw [hFX] at HFL
        obtain rfl : X = .error 400 := by rw [← hX]; exact hZN hFX
        clear hX hZN hZB hZO hFX
        generalize lineAt s 0 = L at *
        generalize tlE s 0 = E at *
        go_enter Tryz.func176, Tryz.ntmps176
        go_wp2
        go_step3
        go_wp2_with (first
          | (go_at_call 181; refine (refuseIf_any _ _ _).mono ?_; rintro e w9 ⟨rfl, rfl⟩; simp only [refE])
          | (go_at_call 214; refine (HL.out _).mono ?_; rintro e w2 ⟨rfl, hb2⟩)
          | (go_at_call 215; refine (HFL.out _).mono ?_; rintro e w3 ⟨he, hb3⟩; replace he : e = .panicked (gone 400) := he; subst he))
        exact ⟨rfl, show hdPost w (.error 400) _ _ from ⟨rfl, below_then (below_then (below_then HB.out hb2) (below_a1 _ _)) hb3⟩⟩
      | some h =>
        obtain ⟨a, b, n, r⟩ := h
        rw [hFX] at HFL
        generalize hY : lnR s 21 (tlE s 0 + 2) [] = Y at *
        have HY := hideB2 hY
        have HXB := hideB2 (fun c (h : Y = .error c) => (hX.symm.trans (hZB _ c hFX h) : X = .error c))
        have HXO := hideB2 (fun fs m (h : Y = .ok (fs, m)) => (hX.symm.trans (hZO _ fs m hFX h) : X = .ok ((a, b, n, r), fs, m)))
        clear hY hX hZN hZB hZO hFX
        generalize lineAt s 0 = L at *
        have HE := hideB2 hE
        have hcast : (tlE s 0 : Int) + 2 = ((tlE s 0 + 2 : Nat) : Int) := by omega
        rw [hcast] at HL
        clear hcast hE
        generalize tlE s 0 + 2 = K0 at *
        go_enter Tryz.func176, Tryz.ntmps176
        go_wp2
        go_step3
        go_wp2_with (first
          | (go_at_call 181; refine (refuseIf_any _ _ _).mono ?_; rintro e w9 ⟨rfl, rfl⟩; simp only [refE])
          | (go_at_call 214; refine (HL.out _).mono ?_; rintro e w2 ⟨rfl, hb2⟩)
          | (go_at_call 215; refine (HFL.out _).mono ?_; rintro e w3 ⟨he, hb3⟩; replace he : e = .returned (.agg #[.string a, .string b, .int .i64 n, .string r, .bool false, .slice none 0 0, .string ⟨#[]⟩]) := he; subst he))
        have C2 := Blk.new w2 #[.string s, .int .i64 (K0 : Int)] 183
        have M3 := Blk.new w3 #[.string a, .string b, .int .i64 n, .string r, .bool false, .slice none 0 0, .string ⟨#[]⟩] 50
        have hm3 := below_a1 w3 (.cells #[.string a, .string b, .int .i64 n, .string r, .bool false, .slice none 0 0, .string ⟨#[]⟩] 50)
        have hc2 := below_a1 w2 (.cells #[.string s, .int .i64 (K0 : Int)] 183)
        have A3 := (((A1.out.later hb2).later hc2).later hb3).later hm3
        have C3 := (C2.later hb3).later hm3
        have hB3 := below_then (below_then (below_then (below_then HB.out hb2) hc2) hb3) hm3
        have hlt2 := (A1.out.later hb2).lt
        have hlt3 := (C2.later hb3).lt
        have hlt4 := M3.lt
        go_step3
        go_wp2
        generalize hW : w3.alloc (.cells #[.string a, .string b, .int .i64 n, .string r, .bool false, .slice none 0 0, .string ⟨#[]⟩] 50) = W3 at *
        clear hW hm3 hc2 hb2 hb3 C2
        generalize w2.heap.size = G1 at *
        generalize w3.heap.size = G2 at *
        have HA3 := hideB2 A3
        have HC3 := hideB2 C3
        have HM3 := hideB2 M3
        have HB3 := hideB2 hB3
        clear A3 C3 M3 hB3
        generalize hGB : W3.heap.size = GB at *
        have HGB := hideB2 hGB
        clear hGB
        go_loopw [6] (fun _ wr => ∃ (k : Nat) (acc : List Fd) (v : Value), k ≤ s.size ∧ acc.length ≤ 20 ∧ Hid (lnR s (21 - acc.length) k acc = Y) ∧ Blk wr w.heap.size #[.string ⟨#[]⟩, .string ⟨#[]⟩, .int .i64 0, .string ⟨#[]⟩, .bool false, .slice none 0 0, .string ⟨#[]⟩] 50 ∧ Blk wr G1 #[.string s, .int .i64 (k : Int)] 183 ∧ Blk wr G2 #[.string a, .string b, .int .i64 n, .string r, .bool false, v, .string ⟨#[]⟩] 50 ∧ OwF GB wr v acc ∧ Below w.heap.size w wr) (fun _ wr => 21 - fldLen G2 wr)
        case atStart => exact ⟨K0, [], .slice none 0 0, HE.out, Nat.zero_le _, HY.out, HA3.out, HC3.out, HM3.out, OwF.start (by rw [HGB.out]; exact Nat.le_refl _), HB3.out⟩
        case round =>
          obtain ⟨k, acc, v, hk, hacc, hy, ha, hc, hm, hown, hbw⟩ := hrel
          clear HA3 HC3 HM3 HB3
          obtain ⟨va, vc, rfl⟩ := hown.form
          obtain ⟨c0, c1⟩ := hc.c2
          have HA := hideB2 ha
          have HCc := hideB2 hc
          have HM := hideB2 hm
          have HMR := HM
          have HOw := hideB2 hown
          have HBw := hideB2 hbw
          have HN21 := hideB2 (show 21 - acc.length = (20 - acc.length) + 1 by omega)
          clear ha hc hm hown hbw
          by_cases h0 : hlC s k = 0
          · have HL2 := hideB2 (fun W => headLine_ok s k W HS.out hk h0)
            have hE2 := tlE_ok hk (hlC_zero h0).1
            have hn := lenE_nil2 hk
            by_cases he : tlE s k = k
            · obtain rfl : Y = .ok (acc, k + 2) := by rw [← hy.out, HN21.out]; exact lnR_end h0 he
              obtain rfl : X = .ok ((a, b, n, r), acc, k + 2) := HXO.out _ _ rfl
              rw [decide_eq_true he] at hn
              rw [he] at HL2
              clear hy HY HXB HXO h0 he hE2
              generalize lineAt s k = L2 at *
              go_wp2_with fail
              refine (HL2.out _).mono ?_
              rintro e w4 ⟨rfl, hb4⟩
              have C4 := HCc.out.later hb4
              have M4 := HM.out.later hb4
              have A4 := HA.out.later hb4
              obtain ⟨x0, x1⟩ := C4.c2
              have y0 := C4.free 0
              have y1 := C4.free 1
              have M5 := M4.oth2 (g := G1) (by omega) (.string s) (.int .i64 ((k : Int) + 2))
              have A5 := A4.oth2 (g := G1) (by omega) (.string s) (.int .i64 ((k : Int) + 2))
              have C5 := C4.set2 (.string s) (.int .i64 ((k : Int) + 2))
              have O5 := ((HOw.out.later hb4).set (g := G1) (by omega) 0 (.string s)).set (g := G1) (by omega) 1 (.int .i64 ((k : Int) + 2))
              have hbw5 := below_set2 (g := G1) (below_then HBw.out hb4) (by omega) (.string s) (.int .i64 ((k : Int) + 2))
              go_wp2
              generalize hW5 : (w4.setCell ⟨G1, 0, none⟩ (.string s)).setCell ⟨G1, 1, none⟩ (.int .i64 ((k : Int) + 2)) = W5 at *
              clear hW5 x0 x1 y0 y1 C4 M4 A4 hb4 c0 c1
              obtain ⟨x0, x1⟩ := C5.c2
              obtain ⟨m0, m1, m2, m3, m4, m5, m6⟩ := M5.c7
              obtain ⟨a0, a1, a2, a3, a4, a5, a6⟩ := A5.c7
              obtain ⟨f0, f1, f2, f3, f4, f5, f6⟩ := A5.f7
              have HA5 := hideB2 A5
              have HO5 := hideB2 O5
              have HBW5 := hideB2 hbw5
              clear A5 C5 M5 O5 hbw5
              clear HB A1 d1 HFL HL HE HGB HA HCc HM HOw HBw HN21 HL2 hn x0
              have hG0 : w.heap.size < GB := by omega
              go_big_region
              go_wp2
              rw [Exit.noGoto_ret]
              have hA7 := (HA5.out.set7 (.string a) (.string b) (.int .i64 n) (.string r) (.bool false) (.slice va acc.length vc) (.string ⟨#[]⟩)).drew
              have hO7 := ((HO5.out.set7 hG0 (.string a) (.string b) (.int .i64 n) (.string r) (.bool false) (.slice va acc.length vc) (.string ⟨#[]⟩)).drew).buf (w0 := w) (Nat.le_of_lt hG0) (below_set7 HBW5.out (Nat.le_refl _) (.string a) (.string b) (.int .i64 n) (.string r) (.bool false) (.slice va acc.length vc) (.string ⟨#[]⟩)).drew
              generalize World.drew _ = W7 at *
              refine bodyPost_ret (results_cellT rfl _ _ _ rfl hA7 Tryz.underlying50 Tryz.infoMsg) rfl (show hdPost w (.ok ((a, b, n, r), acc, k + 2)) _ _ from ⟨.slice va acc.length vc, ?_, hO7⟩)
              rw [show ((k + 2 : Nat) : Int) = (k : Int) + 2 by omega]
              rfl
            · have hcast2 : (tlE s k : Int) + 2 = ((tlE s k + 2 : Nat) : Int) := by omega
              rw [hcast2] at HL2
              rw [decide_eq_false he] at hn
              have HFN := hideB2 (fun h2 => lnR_full (n := 20 - acc.length) (acc := acc) h0 he h2)
              have HFB := hideB2 (fun h2 h3 => lnR_no (n := 20 - acc.length) (acc := acc) h0 he h2 h3)
              have HFO := hideB2 (fun h2 h3 => lnR_next (n := 20 - acc.length) (acc := acc) h0 he h2 h3)
              have hz2 := lineAt_size (s := s) (k := k) hk
              have HZ2 : Hid ((lineAt s k).size ≤ maxLen) := by
                have := HS.out
                show (lineAt s k).size ≤ maxLen
                omega
              clear hcast2 h0 he hz2
              generalize tlE s k + 2 = K2 at *
              generalize lineAt s k = L2 at *
              by_cases hful : acc.length = 20
              · obtain rfl : Y = .error 431 := by rw [← hy.out, HN21.out]; exact HFN.out hful
                obtain rfl : X = .error 431 := HXB.out _ rfl
                clear hy HY HXB HXO HFN HFB HFO
                have hfull : ((acc.length : Int) == 20) = true := by rw [hful]; rfl
                go_wp2_with fail
                refine (HL2.out _).mono ?_
                rintro e w4 ⟨rfl, hb4⟩
                have C4 := HCc.out.later hb4
                have M4 := HM.out.later hb4
                obtain ⟨x0, x1⟩ := C4.c2
                have y0 := C4.free 0
                have y1 := C4.free 1
                obtain ⟨m0, m1, m2, m3, m4, m5, m6⟩ := (M4.oth2 (g := G1) (by omega) (.string s) (.int .i64 (K2 : Int))).c7
                have HBW5 := hideB2 (below_set2 (g := G1) (below_then HBw.out hb4) (by omega) (.string s) (.int .i64 (K2 : Int)))
                clear C4 M4 hb4 c0 c1
                go_wp2
                exact ⟨rfl, show hdPost w (.error 431) _ _ from ⟨rfl, HBW5.out⟩⟩
              · have hfull : ((acc.length : Int) == 20) = false := by simp; omega
                cases hro : readO L2
                · obtain rfl : Y = .error 400 := by rw [← hy.out, HN21.out]; exact HFB.out hful hro
                  obtain rfl : X = .error 400 := HXB.out _ rfl
                  have HTF := hideB2 (fun W => takenField_bad L2 W HZ2.out hro)
                  clear hy HY HXB HXO HFN HFB HFO hro
                  go_wp2_with fail
                  refine (HL2.out _).mono ?_
                  rintro e w4 ⟨rfl, hb4⟩
                  have C4 := HCc.out.later hb4
                  have M4 := HM.out.later hb4
                  obtain ⟨x0, x1⟩ := C4.c2
                  have y0 := C4.free 0
                  have y1 := C4.free 1
                  have M5 := M4.oth2 (g := G1) (by omega) (.string s) (.int .i64 (K2 : Int))
                  obtain ⟨m0, m1, m2, m3, m4, m5, m6⟩ := M5.c7
                  have hbw5 := below_set2 (g := G1) (below_then HBw.out hb4) (by omega) (.string s) (.int .i64 (K2 : Int))
                  go_wp2
                  generalize hW5 : (w4.setCell ⟨G1, 0, none⟩ (.string s)).setCell ⟨G1, 1, none⟩ (.int .i64 (K2 : Int)) = W5 at *
                  have HBW5 := hideB2 hbw5
                  clear hW5 x0 x1 y0 y1 C4 M4 M5 hb4 c0 c1 hbw5
                  clear HB A1 d1 HFL HL HE HGB HA HCc HM HOw HBw HN21 HL2 hn hfull
                  go_region_dies
                  all_goals
                    go_at_call 216
                    refine (HTF.out _).mono ?_
                    rintro e w6 ⟨rfl, hb6⟩
                    exact ⟨rfl, show hdPost w (.error 400) _ _ from ⟨rfl, below_then (below_then HBW5.out (Below.refl _ W5).drew) hb6⟩⟩
                · have HY3 : Hid (lnR s (20 - acc.length) K2 (acc ++ [readF L2]) = Y) := by
                    show lnR s (20 - acc.length) K2 (acc ++ [readF L2]) = Y
                    rw [← hy.out, HN21.out]; exact (HFO.out hful hro).symm
                  have HTF := hideB2 (fun W => takenField_ok L2 W HZ2.out hro)
                  clear hy HFN HFB HFO hro
                  generalize readF L2 = f at *
                  obtain ⟨d, t⟩ := f
                  simp only at HTF
                  go_wp2_with fail
                  refine (HL2.out _).mono ?_
                  rintro e w4 ⟨rfl, hb4⟩
                  have C4 := HCc.out.later hb4
                  have M4 := HM.out.later hb4
                  have A4 := HA.out.later hb4
                  obtain ⟨x0, x1⟩ := C4.c2
                  have y0 := C4.free 0
                  have y1 := C4.free 1
                  have M5 := M4.oth2 (g := G1) (by omega) (.string s) (.int .i64 (K2 : Int))
                  have A5 := A4.oth2 (g := G1) (by omega) (.string s) (.int .i64 (K2 : Int))
                  have C5 := C4.set2 (.string s) (.int .i64 (K2 : Int))
                  have O5 := ((HOw.out.later hb4).set (g := G1) (by omega) 0 (.string s)).set (g := G1) (by omega) 1 (.int .i64 (K2 : Int))
                  have hbw5 := below_set2 (g := G1) (below_then HBw.out hb4) (by omega) (.string s) (.int .i64 (K2 : Int))
                  obtain ⟨m0, m1, m2, m3, m4, m5, m6⟩ := M5.c7
                  go_wp2
                  generalize hW5 : (w4.setCell ⟨G1, 0, none⟩ (.string s)).setCell ⟨G1, 1, none⟩ (.int .i64 (K2 : Int)) = W5 at *
                  have HM5 := hideB2 M5
                  have HA5 := hideB2 A5
                  have HC5 := hideB2 C5
                  have HO5 := hideB2 O5
                  have HBW5 := hideB2 hbw5
                  have hG2 : G2 < GB := by omega
                  clear hW5 x0 x1 y0 y1 C4 M4 A4 M5 A5 C5 O5 hb4 c0 c1 hbw5
                  clear HB A1 d1 HFL HL HE HGB HA HCc HM HOw HBw HN21 HL2 hn hfull
                  go_region_law (first
                    | (refine step_fapp2 rfl (.tmp 37) (.tmp 40) rfl GB (.slice va acc.length vc) acc rfl (HO6.out.alloc _) _ d t rfl (Blk.new _ _ _) hacc ?_; intro v7 W7 hbuf7 hbl7; obtain ⟨va7, vc7, rfl⟩ := hbuf7.form; have hm7 := hbl7.block G2 hG2; have hcell7 : W7.cell? ⟨G2, 5, none⟩ = some (.slice va acc.length vc) := ((show Blk W7 G2 _ _ from hm7.trans (HM6.out.alloc _)).c7).2.2.2.2.2.1; have hfree7 : W7.frozen? ⟨G2, 5, none⟩ = false := (show Blk W7 G2 _ _ from hm7.trans (HM6.out.alloc _)).free 5)
                    | (go_simp; go_at_call 216; refine (HTF.out _).mono ?_; rintro e w6 ⟨rfl, hb6⟩; have HO6 := hideB2 (HO5.out.drew.later hb6); have HM6 := hideB2 (HM5.out.drew.later hb6); have hu5 : w6.cell? ⟨G2, 5, none⟩ = some (.slice va acc.length vc) := HM6.out.c7.2.2.2.2.2.1; have hlt6 : G2 < w6.heap.size := HM6.out.lt; simp only []))
                  all_goals
                    go_wp2_with fail
                    have hm9 : Blk (W7.setCell ⟨G2, 5, none⟩ (.slice va7 (acc.length + 1) vc7)) G2 #[.string a, .string b, .int .i64 n, .string r, .bool false, .slice va7 (acc.length + 1) vc7, .string ⟨#[]⟩] 50 := (show Blk W7 G2 #[.string a, .string b, .int .i64 n, .string r, .bool false, .slice va acc.length vc, .string ⟨#[]⟩] 50 from hm7.trans (HM6.out.alloc _)).set 5 _
                    have ha6 := (HA5.out.drew.later hb6).alloc (.cells #[.string d, .string t] 88)
                    have hc6 := (HC5.out.drew.later hb6).alloc (.cells #[.string d, .string t] 88)
                    have ha7 : Blk W7 w.heap.size #[.string ⟨#[]⟩, .string ⟨#[]⟩, .int .i64 0, .string ⟨#[]⟩, .bool false, .slice none 0 0, .string ⟨#[]⟩] 50 := (hbl7.block w.heap.size (by omega)).trans ha6
                    have hc7 : Blk W7 G1 #[.string s, .int .i64 (K2 : Int)] 183 := (hbl7.block G1 (by omega)).trans hc6
                    have hw6 := below_then (below_then HBW5.out (Below.refl _ W5).drew) hb6
                    have hw7 : Below w.heap.size w W7 := (hw6.alloc hw6.size (.cells #[.string d, .string t] 88)).trans (hbl7.mono (by omega))
                    rw [List.length_append, List.length_singleton] at hbuf7
                    refine ⟨⟨K2, acc ++ [(d, t)], .slice va7 (acc.length + 1) vc7, hE2, by rw [List.length_append, List.length_singleton]; omega, ?_, ha7.other (by omega) 5 _, hc7.other (by omega) 5 _, hm9, hbuf7.set hG2 5 _, hw7.setCell (p := ⟨G2, 5, none⟩) (show w.heap.size ≤ G2 by omega) _⟩, ?_⟩
                    · rw [List.length_append, List.length_singleton, show 21 - (acc.length + 1) = 20 - acc.length by omega]; exact HY3
                    · have e9 : fldLen G2 (W7.setCell ⟨G2, 5, none⟩ (.slice va7 (acc.length + 1) vc7)) = acc.length + 1 := by unfold fldLen; rw [hm9.c7.2.2.2.2.2.1]
                      have e5 : fldLen G2 wr = acc.length := by unfold fldLen; rw [HMR.out.c7.2.2.2.2.2.1]
                      rw [e9, e5]; omega
          · have HL2 := hideB2 (fun W => headLine_bad s k W HS.out hk h0)
            obtain rfl : Y = .error (hlC s k) := by rw [← hy.out, HN21.out]; exact lnR_bad h0
            obtain rfl : X = .error (hlC s k) := HXB.out _ rfl
            clear hy HY HXB HXO h0
            go_wp2_with (go_at_call 214; refine (HL2.out _).mono ?_; rintro e w4 ⟨rfl, hb4⟩)
            exact ⟨rfl, show hdPost w (.error (hlC s k)) _ _ from ⟨rfl, below_then HBw.out hb4⟩⟩
    · obtain rfl : X = .error (hlC s 0) := by rw [← hX]; unfold hdX; rw [if_neg (by omega), if_pos h2]
      have HL := hideB2 (fun W => headLine_bad s 0 W hsm (Nat.zero_le _) h2)
      rw [show ((0 : Nat) : Int) = 0 from rfl] at HL
      clear hX h2 hs hsm
      generalize hlC s 0 = c at *
      go_enter Tryz.func176, Tryz.ntmps176
      go_wp2
      go_step3
      go_wp2_with (first
        | (go_at_call 181; refine (refuseIf_any _ _ _).mono ?_; rintro e w9 ⟨rfl, rfl⟩; simp only [refE])
        | (go_at_call 214; refine (HL.out _).mono ?_; rintro e w2 ⟨rfl, hb2⟩))
      exact ⟨rfl, show hdPost w (.error c) _ _ from ⟨rfl, below_then HB.out hb2⟩⟩
end Go.Proofs.YthdgeepedofleaaGreatDoor
