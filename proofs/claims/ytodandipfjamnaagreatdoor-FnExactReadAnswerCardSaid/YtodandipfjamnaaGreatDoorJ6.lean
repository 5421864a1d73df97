/-
  The walks over chapter 1: impl.TakeLine. · Chapter 6: a reader that gives up; a head's line; a field out of it. The program's side. · Chapter 6: the first line; the program's side. · Chapter 6: an answer's first line, and either; the program's side. · Chapter 6: the first line, of a request or an answer; the program's side. · The walks over chapter 1: impl.TakeN. · The walks over chapter 1: ReadHex. · Chapter 6: a body out of its chunks; the program's readers, which give up by a panic.
-/
import Derived.Test.YtodandipfjamnaaGreatDoorJ5
import Derived.Test.YtodandipfjamnaaGreatDoorJ2
import Derived.Test.YtodandipfjamnaaGreatDoorJ3
import Derived.Test.YtodandipfjamnaaGreatDoorJ1
namespace Go.Proofs.YtodandipfjamnaaGreatDoor
set_option linter.unusedVariables false
set_option linter.unusedSimpArgs false
open Go.RowKit

/-- What is kept of a block of two cells: what they hold, that they may be written, that the block is there. -/
structure Two (w : World) (b : Nat) (x y : Value) : Prop where
  c0 : w.cell? ⟨b, 0, none⟩ = some x
  c1 : w.cell? ⟨b, 1, none⟩ = some y
  f0 : w.frozen? ⟨b, 0, none⟩ = false
  f1 : w.frozen? ⟨b, 1, none⟩ = false
  lt : b < w.heap.size
theorem Two.later {W w1 : World} (hb : Below W.heap.size W w1) {b : Nat} {x y : Value} (h : Two W b x y) : Two w1 b x y :=
  ⟨cell_later hb h.c0, cell_later hb h.c1, (hb.frozen (p := ⟨b, 0, none⟩) h.lt).trans h.f0, (hb.frozen (p := ⟨b, 1, none⟩) h.lt).trans h.f1, Nat.lt_of_lt_of_le h.lt hb.size⟩
theorem Two.alloc {W : World} {b : Nat} {x y : Value} (h : Two W b x y) (o : Obj) : Two (W.alloc o) b x y := h.later ((Below.refl _ W).alloc (Nat.le_refl _) o)
theorem Two.drew {W : World} {b : Nat} {x y : Value} (h : Two W b x y) : Two W.drew b x y := ⟨h.c0, h.c1, h.f0, h.f1, h.lt⟩
theorem Two.new (W : World) (x y : Value) (t : TypeId) : Two (W.alloc (.cells #[x, y] t)) W.heap.size x y :=
  ⟨by simp, by simp, by simp, by simp, by simp⟩

theorem left_at (s : ByteArray) (n : Int) (k : Nat) (w : World) (hn : n = (k : Int)) (hs : s.size ≤ maxLen) (hk : k ≤ s.size) :
    Calls Tryz.prog 128 #[.agg #[.string s, .int .i64 n]] w fun e w' => e = .returned (.int .i64 ((s.size : Int) - n)) ∧ w' = w.alloc (.cells #[.string s, .int .i64 n] 88) := by
  subst hn; exact left_any s k w hs hk
theorem next_at (s : ByteArray) (n : Int) (k : Nat) (w : World) (hn : n = (k : Int)) (hs : s.size ≤ maxLen) (hk : k < s.size) :
    Calls Tryz.prog 157 #[.agg #[.string s, .int .i64 n]] w fun e w' => e = .returned (.int .u8 ((at8 s k).toNat : Int)) ∧ w' = w.alloc (.cells #[.string s, .int .i64 n] 88) := by
  subst hn
  have := next_any s k w hs hk
  rw [at8_eq s k hk] at this
  exact this
theorem behind_at (s : ByteArray) (n m : Int) (k j : Nat) (w : World) (hn : n = (k : Int)) (hm : m = (j : Int)) (hs : s.size ≤ maxLen) (hk : k + j ≤ s.size) :
    Calls Tryz.prog 156 #[.agg #[.string s, .int .i64 n], .int .i64 m] w fun e w' => e = .returned (.agg #[.string s, .int .i64 (n + m)]) ∧ Below w.heap.size w w' := by
  subst hn hm; exact behind_any s k j w hs hk
set_option maxHeartbeats 1000000 in
theorem TakeLine_bad (s : ByteArray) (n : Int) (w : World) (hc : curOk s n = false) :
    Calls Tryz.prog 117 #[.agg #[.string s, .int .i64 n]] w fun e w' => e = .returned (.tuple #[.string ⟨#[]⟩, curZ, .int .i64 2]) ∧ Below w.heap.size w w' := by
  go_enter Tryz.func117, Tryz.ntmps117
  go_wp2_with (go_at_call 154; refine (inside_any s _ _).mono ?_; rintro e w' ⟨rfl, rfl⟩)
  refine bodyPost_ret (v := .tuple #[.string ⟨#[]⟩, curZ, .int .i64 2]) (by simp [results, Tryz.results117, go_sem, curZ]) rfl ⟨rfl, ?_⟩
  exact (by repeat (first | exact Below.refl _ _ | refine Below.drew ?_ | refine Below.alloc ?_ (by simp <;> omega) _ | refine Below.setCell ?_ (by simp <;> omega) _))
set_option maxHeartbeats 2000000 in
theorem TakeLine_ok (s : ByteArray) (k : Nat) (w : World) (hs : s.size ≤ maxLen) (hk : k ≤ s.size) :
    Calls Tryz.prog 117 #[.agg #[.string s, .int .i64 (k : Int)]] w fun e w' => e = .returned (tlV s k) ∧ Below w.heap.size w w' := by
  have hs' := hs
  unfold maxLen at hs'
  have hc : curOk s (k : Int) = true := curOk_iff.2 ⟨by omega, by omega⟩
  have he := eolLen_le s k hk
  have hE : tlE s k = k + eolLen s k := rfl
  go_enter Tryz.func117, Tryz.ntmps117
  go_wp2_with (go_at_call 154; refine (inside_any s _ _).mono ?_; rintro e w' ⟨rfl, rfl⟩)
  have T0 : Two ((((w.alloc (.cells #[.string s, .int .i64 (k : Int)] 88)).alloc (.cells #[.string ⟨#[]⟩, .int .i64 0] 88)).alloc (.cells #[.string s, .int .i64 (k : Int)] 88))) w.heap.size (.string s) (.int .i64 (k : Int)) := ((Two.new w _ _ _).alloc _).alloc _
  have R0 : Two ((((w.alloc (.cells #[.string s, .int .i64 (k : Int)] 88)).alloc (.cells #[.string ⟨#[]⟩, .int .i64 0] 88)).alloc (.cells #[.string s, .int .i64 (k : Int)] 88))) (w.heap.size + 1) (.string ⟨#[]⟩) (.int .i64 0) := by
    have := (Two.new (w.alloc (.cells #[.string s, .int .i64 (k : Int)] 88)) (.string ⟨#[]⟩) (.int .i64 0) 88).alloc (.cells #[.string s, .int .i64 (k : Int)] 88)
    simpa using this
  have G0 : Below w.heap.size w ((((w.alloc (.cells #[.string s, .int .i64 (k : Int)] 88)).alloc (.cells #[.string ⟨#[]⟩, .int .i64 0] 88)).alloc (.cells #[.string s, .int .i64 (k : Int)] 88))) := (by repeat (first | exact Below.refl _ _ | refine Below.drew ?_ | refine Below.alloc ?_ (by simp <;> omega) _ | refine Below.setCell ?_ (by simp <;> omega) _))
  refine (beforeLineEnd_any s k _ hs hk).mono ?_
  rintro e w2 ⟨rfl, hb2⟩
  have T2 := T0.later hb2
  have R2 := R0.later hb2
  have G2 := G0.trans (hb2.mono G0.size)
  clear T0 R0 G0 hb2 hc
  obtain ⟨q0, q1, q2, q3, q4⟩ := T2
  go_wp2_with fail
  refine (behind_at s _ _ k (eolLen s k) _ rfl rfl hs he).mono ?_
  rintro e w3 ⟨rfl, hb3⟩
  have T3 : Two w3 w.heap.size (.string s) (.int .i64 (k : Int)) := Two.later hb3 ⟨q0, q1, q2, q3, q4⟩
  have R3 := R2.later hb3
  have G3 := G2.trans (hb3.mono G2.size)
  clear q0 q1 q2 q3 q4 R2 G2 hb3
  have hgen : ∃ e, eolLen s k = e := ⟨_, rfl⟩
  obtain ⟨e, hge⟩ := hgen
  have D3 := Two.new w3 (.string s) (.int .i64 ((k : Int) + (eolLen s k : Nat))) 88
  have T4 := T3.alloc (.cells #[.string s, .int .i64 ((k : Int) + (eolLen s k : Nat))] 88)
  have R4 := R3.alloc (.cells #[.string s, .int .i64 ((k : Int) + (eolLen s k : Nat))] 88)
  have hbel := G3.alloc G3.size (.cells #[.string s, .int .i64 ((k : Int) + (eolLen s k : Nat))] 88)
  have hne1 : w.heap.size + 1 < w3.heap.size := R3.lt
  rw [hge] at he hE D3 T4 R4 hbel ⊢
  have HE : Hid (tlE s k = k + e) := hE
  have HG : Hid (eolLen s k = e) := hge
  clear T3 R3 G3 hE hge
  obtain ⟨d0, d1, d2, d3, d4⟩ := D3
  go_wp2_with fail
  have D3 : Two _ _ _ _ := ⟨d0, d1, d2, d3, d4⟩
  clear d0 d1 d2 d3 d4
  generalize w3.alloc (.cells #[.string s, .int .i64 ((k : Int) + (e : Int))] 88) = W at *
  have TT := T4
  have RR := R4
  have DD := D3
  have GG := hbel
  have hEE : w.heap.size + 1 < w3.heap.size := hne1
  clear T4 R4 D3 hbel hne1
  generalize w3.heap.size = E at *
  by_cases hend : k + e = s.size
  · have hfin : Hid (tlV s k = .tuple #[.string ⟨#[]⟩, curZ, .int .i64 1]) := tlV_short0 (by rw [HE.out]; exact hend)
    have hz : ((s.size : Int) - ((k : Int) + (e : Int)) == 0) = true := by simp; omega
    clear hend
    refine (left_at s _ (k + e) _ (by omega) hs (by omega)).mono ?_
    rintro e' W' ⟨rfl, hw⟩
    replace TT : Two W' w.heap.size (.string s) (.int .i64 (k : Int)) := hw ▸ TT.alloc _
    replace DD : Two W' E (.string s) (.int .i64 ((k : Int) + (e : Int))) := hw ▸ DD.alloc _
    replace RR : Two W' (w.heap.size + 1) (.string ⟨#[]⟩) (.int .i64 0) := hw ▸ RR.alloc _
    replace GG : Below w.heap.size w W' := hw ▸ (GG.alloc GG.size _)
    clear hw
    obtain ⟨t0, t1, t2, t3, t4⟩ := id TT
    obtain ⟨d0, d1, d2, d3, d4⟩ := id DD
    obtain ⟨r0, r1, r2, r3, r4⟩ := id RR
    go_wp2
    refine bodyPost_ret (v := .tuple #[.string ⟨#[]⟩, curZ, .int .i64 1]) (by simp [results, Tryz.results117, go_sem, curZ, r0, r1]) rfl ⟨by rw [hfin.out], ?_⟩
    exact (GG.setCell (by simp) _).setCell (by simp) _
  · have hlt : k + e < s.size := by omega
    have hz : ((s.size : Int) - ((k : Int) + (e : Int)) == 0) = false := by simp; omega
    clear hend
    refine (left_at s _ (k + e) _ (by omega) hs (by omega)).mono ?_
    rintro e' W' ⟨rfl, hw⟩
    replace TT : Two W' w.heap.size (.string s) (.int .i64 (k : Int)) := hw ▸ TT.alloc _
    replace DD : Two W' E (.string s) (.int .i64 ((k : Int) + (e : Int))) := hw ▸ DD.alloc _
    replace RR : Two W' (w.heap.size + 1) (.string ⟨#[]⟩) (.int .i64 0) := hw ▸ RR.alloc _
    replace GG : Below w.heap.size w W' := hw ▸ (GG.alloc GG.size _)
    clear hw
    obtain ⟨t0, t1, t2, t3, t4⟩ := id TT
    obtain ⟨d0, d1, d2, d3, d4⟩ := id DD
    obtain ⟨r0, r1, r2, r3, r4⟩ := id RR
    go_wp2_with fail
    clear t0 t1 t2 t3 t4 d0 d1 d2 d3 d4 r0 r1 r2 r3 r4
    by_cases h10 : ((at8 s (k + e)).toNat : Int) = 10
    · have g10 : (((at8 s (k + e)).toNat : Int) == 10) = true := by simpa using h10
      have hfin : Hid (tlV s k = .tuple #[.string ⟨#[]⟩, curZ, .int .i64 2]) := tlV_bad (tlC_10 (by rw [HE.out]; exact hlt) (by rw [HE.out]; omega))
      clear h10
      refine (next_at s _ (k + e) _ (by omega) hs (by omega)).mono ?_
      rintro e' W' ⟨rfl, hw⟩
      replace TT : Two W' w.heap.size (.string s) (.int .i64 (k : Int)) := hw ▸ TT.alloc _
      replace DD : Two W' E (.string s) (.int .i64 ((k : Int) + (e : Int))) := hw ▸ DD.alloc _
      replace RR : Two W' (w.heap.size + 1) (.string ⟨#[]⟩) (.int .i64 0) := hw ▸ RR.alloc _
      replace GG : Below w.heap.size w W' := hw ▸ (GG.alloc GG.size _)
      clear hw
      obtain ⟨t0, t1, t2, t3, t4⟩ := id TT
      obtain ⟨d0, d1, d2, d3, d4⟩ := id DD
      obtain ⟨r0, r1, r2, r3, r4⟩ := id RR
      go_wp2
      refine bodyPost_ret (v := .tuple #[.string ⟨#[]⟩, curZ, .int .i64 2]) (by simp [results, Tryz.results117, go_sem, curZ, r0, r1]) rfl ⟨by rw [hfin.out], ?_⟩
      exact (GG.setCell (by simp) _).setCell (by simp) _
    · have g10 : (((at8 s (k + e)).toNat : Int) == 10) = false := by simpa using h10
      refine (next_at s _ (k + e) _ (by omega) hs (by omega)).mono ?_
      rintro e' W' ⟨rfl, hw⟩
      replace TT : Two W' w.heap.size (.string s) (.int .i64 (k : Int)) := hw ▸ TT.alloc _
      replace DD : Two W' E (.string s) (.int .i64 ((k : Int) + (e : Int))) := hw ▸ DD.alloc _
      replace RR : Two W' (w.heap.size + 1) (.string ⟨#[]⟩) (.int .i64 0) := hw ▸ RR.alloc _
      replace GG : Below w.heap.size w W' := hw ▸ (GG.alloc GG.size _)
      clear hw
      obtain ⟨t0, t1, t2, t3, t4⟩ := id TT
      obtain ⟨d0, d1, d2, d3, d4⟩ := id DD
      obtain ⟨r0, r1, r2, r3, r4⟩ := id RR
      go_wp2_with fail
      clear t0 t1 t2 t3 t4 d0 d1 d2 d3 d4 r0 r1 r2 r3 r4
      by_cases hend : k + e + 1 = s.size
      · have hfin : Hid (tlV s k = .tuple #[.string ⟨#[]⟩, curZ, .int .i64 1]) := tlV_short (tlC_13end (by rw [HE.out]; exact hend) (by rw [HE.out]; omega))
        have hz1 : ((s.size : Int) - ((k : Int) + (e : Int)) == 1) = true := by simp; omega
        clear h10 hend
        refine (left_at s _ (k + e) _ (by omega) hs (by omega)).mono ?_
        rintro e' W' ⟨rfl, hw⟩
        replace TT : Two W' w.heap.size (.string s) (.int .i64 (k : Int)) := hw ▸ TT.alloc _
        replace DD : Two W' E (.string s) (.int .i64 ((k : Int) + (e : Int))) := hw ▸ DD.alloc _
        replace RR : Two W' (w.heap.size + 1) (.string ⟨#[]⟩) (.int .i64 0) := hw ▸ RR.alloc _
        replace GG : Below w.heap.size w W' := hw ▸ (GG.alloc GG.size _)
        clear hw
        obtain ⟨t0, t1, t2, t3, t4⟩ := id TT
        obtain ⟨d0, d1, d2, d3, d4⟩ := id DD
        obtain ⟨r0, r1, r2, r3, r4⟩ := id RR
        go_wp2
        refine bodyPost_ret (v := .tuple #[.string ⟨#[]⟩, curZ, .int .i64 1]) (by simp [results, Tryz.results117, go_sem, curZ, r0, r1]) rfl ⟨by rw [hfin.out], ?_⟩
        exact (GG.setCell (by simp) _).setCell (by simp) _
      · have hlt2 : k + e + 1 < s.size := by omega
        have hz1 : ((s.size : Int) - ((k : Int) + (e : Int)) == 1) = false := by simp; omega
        clear hend
        refine (left_at s _ (k + e) _ (by omega) hs (by omega)).mono ?_
        rintro e' W' ⟨rfl, hw⟩
        replace TT : Two W' w.heap.size (.string s) (.int .i64 (k : Int)) := hw ▸ TT.alloc _
        replace DD : Two W' E (.string s) (.int .i64 ((k : Int) + (e : Int))) := hw ▸ DD.alloc _
        replace RR : Two W' (w.heap.size + 1) (.string ⟨#[]⟩) (.int .i64 0) := hw ▸ RR.alloc _
        replace GG : Below w.heap.size w W' := hw ▸ (GG.alloc GG.size _)
        clear hw
        obtain ⟨t0, t1, t2, t3, t4⟩ := id TT
        obtain ⟨d0, d1, d2, d3, d4⟩ := id DD
        obtain ⟨r0, r1, r2, r3, r4⟩ := id RR
        go_wp2_with fail
        clear t0 t1 t2 t3 t4 d0 d1 d2 d3 d4 r0 r1 r2 r3 r4
        refine (behind_at s _ _ (k + e) 1 _ (by omega) rfl hs (by omega)).mono ?_
        rintro e' W' ⟨rfl, hw⟩
        replace TT : Two W' w.heap.size (.string s) (.int .i64 (k : Int)) := TT.later hw
        replace DD : Two W' E (.string s) (.int .i64 ((k : Int) + (e : Int))) := DD.later hw
        replace RR : Two W' (w.heap.size + 1) (.string ⟨#[]⟩) (.int .i64 0) := RR.later hw
        replace GG : Below w.heap.size w W' := GG.trans (hw.mono GG.size)
        clear hw
        obtain ⟨t0, t1, t2, t3, t4⟩ := id TT
        obtain ⟨d0, d1, d2, d3, d4⟩ := id DD
        obtain ⟨r0, r1, r2, r3, r4⟩ := id RR
        go_wp2_with fail
        clear t0 t1 t2 t3 t4 d0 d1 d2 d3 d4 r0 r1 r2 r3 r4
        by_cases hn : ((at8 s (k + e + 1)).toNat : Int) = 10
        · have gn : (((at8 s (k + e + 1)).toNat : Int) != 10) = false := by simpa using hn
          have hfin : Hid (tlV s k = .tuple #[.string (s.extract k (k + e)), .agg #[.string s, .int .i64 ((k : Int) + (e : Int) + 2)], .int .i64 0]) := by
            have := tlV_ok (tlC_ok (s := s) (k := k) (by rw [HE.out]; exact hlt2) (by rw [HE.out]; omega) (by rw [HE.out]; omega))
            rw [HE.out] at this
            rw [show (k : Int) + (e : Int) = ((k + e : Nat) : Int) from by omega]
            exact this
          clear h10 hn
          refine (next_at s _ (k + e + 1) _ (by omega) hs (by omega)).mono ?_
          rintro e' W' ⟨rfl, hw⟩
          replace TT : Two W' w.heap.size (.string s) (.int .i64 (k : Int)) := hw ▸ TT.alloc _
          replace DD : Two W' E (.string s) (.int .i64 ((k : Int) + (e : Int))) := hw ▸ DD.alloc _
          replace RR : Two W' (w.heap.size + 1) (.string ⟨#[]⟩) (.int .i64 0) := hw ▸ RR.alloc _
          replace GG : Below w.heap.size w W' := hw ▸ (GG.alloc GG.size _)
          clear hw
          obtain ⟨t0, t1, t2, t3, t4⟩ := id TT
          obtain ⟨d0, d1, d2, d3, d4⟩ := id DD
          obtain ⟨r0, r1, r2, r3, r4⟩ := id RR
          go_wp2_with fail
          clear hz hz1 g10 gn t2 t3 d2 d3
          have hww : w.heap.size < W'.heap.size := t4
          have he0 : k + e ≤ s.size := by omega
          have he2 : k + e + 2 ≤ s.size := by omega
          have hke : ((k : Int) + (e : Int)) = ((k + e : Nat) : Int) := by omega
          have HKE : Hid (((k : Int) + (e : Int)) = ((k + e : Nat) : Int)) := hke
          clear hke
          go_region_with (first | (go_at_call 158; refine (part_any s k e _ hs he0).mono ?_; rintro e' w' ⟨rfl, rfl⟩) | (go_at_call 156; refine (behind_at s _ _ (k + e) 2 _ HKE.out rfl hs he2).mono ?_; rintro e' w2 ⟨rfl, hb2⟩; obtain ⟨hcc, hff⟩ := bcell hb2; have hzz := hb2.size))
          all_goals go_wp2
          all_goals
            have X : Two w2 (w.heap.size + 1) (.string ⟨#[]⟩) (.int .i64 0) := Two.later hb2 (by first | exact RR.drew | exact (RR.alloc _).drew)
            have x0 := X.c0
            have x1 := X.c1
            refine bodyPost_ret (v := .tuple #[.string (s.extract k (k + e)), .agg #[.string s, .int .i64 ((k : Int) + (e : Int) + 2)], .int .i64 0]) (by simp [results, Tryz.results117, go_sem, x0, x1]) rfl ⟨by rw [hfin.out], ?_⟩
            have Y : Below w.heap.size w w2 := Below.trans (by first | exact GG.drew | exact (GG.alloc GG.size _).drew) (hb2.mono (by have := GG.size; simp <;> omega))
            exact (Y.setCell (by simp) _).setCell (by simp) _
        · have gn : (((at8 s (k + e + 1)).toNat : Int) != 10) = true := by simpa using hn
          have hfin : Hid (tlV s k = .tuple #[.string ⟨#[]⟩, curZ, .int .i64 2]) := tlV_bad (tlC_no (by rw [HE.out]; exact hlt2) (by rw [HE.out]; omega) (by rw [HE.out]; omega))
          clear h10 hn
          refine (next_at s _ (k + e + 1) _ (by omega) hs (by omega)).mono ?_
          rintro e' W' ⟨rfl, hw⟩
          replace TT : Two W' w.heap.size (.string s) (.int .i64 (k : Int)) := hw ▸ TT.alloc _
          replace DD : Two W' E (.string s) (.int .i64 ((k : Int) + (e : Int))) := hw ▸ DD.alloc _
          replace RR : Two W' (w.heap.size + 1) (.string ⟨#[]⟩) (.int .i64 0) := hw ▸ RR.alloc _
          replace GG : Below w.heap.size w W' := hw ▸ (GG.alloc GG.size _)
          clear hw
          obtain ⟨t0, t1, t2, t3, t4⟩ := id TT
          obtain ⟨d0, d1, d2, d3, d4⟩ := id DD
          obtain ⟨r0, r1, r2, r3, r4⟩ := id RR
          go_wp2
          refine bodyPost_ret (v := .tuple #[.string ⟨#[]⟩, curZ, .int .i64 2]) (by simp [results, Tryz.results117, go_sem, curZ, r0, r1]) rfl ⟨by rw [hfin.out], ?_⟩
          exact (GG.setCell (by simp) _).setCell (by simp) _
end Go.Proofs.YtodandipfjamnaaGreatDoor
namespace Go.Proofs.YtodandipfjamnaaGreatDoor
set_option linter.unusedVariables false
set_option linter.unusedSimpArgs false
open Go.RowKit
/-- A reader has given up with a code. -/
def gone (c : Int) : List PanicEntry := [{ v := .iface 69 (.int .i64 c), recovered := false }]
set_option maxHeartbeats 400000 in
theorem refuseIf_no (c : Int) (w : World) : Calls Tryz.prog 54 #[.bool false, .int .i64 c] w fun e w' => e = .returned (.tuple #[]) ∧ w' = w := by
  go_enter Tryz.func54, Tryz.ntmps54
  go_wp2
  go_end0
  exact ⟨rfl, rfl⟩
set_option maxHeartbeats 400000 in
theorem refuseIf_yes (c : Int) (w : World) : Calls Tryz.prog 54 #[.bool true, .int .i64 c] w fun e w' => e = .panicked (gone c) ∧ w' = w := by
  go_enter Tryz.func54, Tryz.ntmps54
  go_wp2
  exact ⟨rfl, rfl, rfl⟩
/-- What comes of a refusal, or of none. -/
def refE : Bool → Int → Ending
  | true, c => .panicked (gone c)
  | false, _ => .returned (.tuple #[])
theorem refuseIf_any (b : Bool) (c : Int) (w : World) : Calls Tryz.prog 54 #[.bool b, .int .i64 c] w fun e w' => e = refE b c ∧ w' = w := by
  cases b
  · exact refuseIf_no c w
  · exact refuseIf_yes c w
theorem Tryz.infoCur : (Tryz.prog.info? 88).map (·.size) = some 2 := by kernel_rfl
theorem results_tmpC {fn : Func} {p u : Tmp} {ty : TypeId} (h : fn.results = #[.tmp u, .cell p ty]) (tmps : Array Value) (P : Program) (w : World) {b : Nat} {c : Array Value} {t : TypeId} {fs : Array Field} (hp : tmps.getD p undef = .pointer (some ⟨b, 0, none⟩)) (hB : Blk w b c t)
    (hu : P.underlying ty = some (.struct fs)) (hi : (P.info? ty).map (·.size) = some c.size) : (results fn tmps).run P w = .ok (.tuple #[tmps.getD u undef, .agg c]) w := by
  have hrun := run_loadVar_row (P := P) w b t ty c (0, 0) _ hB hu rfl hi
  have ha : (asAddr (tmps.getD p undef)).run P w = .ok ⟨b, 0, none⟩ w := by rw [hp]; rfl
  have he : (results fn tmps).run P w = ((asAddr (tmps.getD p undef)).run P w).andThen fun a w₁ => ((loadVar ty a).run P w₁).andThen fun v w₂ => .ok (.tuple #[tmps.getD u undef, v]) w₂ := by
    simp only [results, h]
    simp [Sem.run_bind, Result.andThen]
  rw [he, ha]
  show ((loadVar ty ⟨b, 0, none⟩).run P w).andThen _ = _
  rw [hrun]
  rfl
set_option maxRecDepth 100000 in
set_option maxHeartbeats 2000000 in
theorem headLine_bad (s : ByteArray) (k : Nat) (w : World) (hs : s.size ≤ maxLen) (hk : k ≤ s.size) (h : hlC s k ≠ 0) :
    Calls Tryz.prog 81 #[.agg #[.string s, .int .i64 (k : Int)]] w fun e w' => e = .panicked (gone (hlC s k)) ∧ Below w.heap.size w w' := by
  have hs' := hs
  unfold maxLen at hs'
  have HB := hideB2 (below_a2 w (.cells #[.string s, .int .i64 (k : Int)] 88) (.cells #[.string ⟨#[]⟩, .int .i64 0] 88))
  have HTL := hideB2 (fun W => TakeLine_ok s k W hs hk)
  by_cases h1 : tlC s k = 0
  · have hE := tlE_ok hk h1
    have hge := tlE_ge s k
    have hz := lineAt_size hk
    unfold hlC at h
    rw [show hlC s k = (if 300 < tlE s k - k ∨ 1500 < tlE s k + 2 then 431 else 0) by unfold hlC; rw [if_pos h1]]
    rw [if_pos h1] at h
    have HB2 := h
    rw [tlV_ok h1] at HTL
    change Hid (∀ W, Calls _ _ _ W fun e w' => e = .returned (.tuple #[.string (lineAt s k), .agg #[.string s, .int .i64 ((tlE s k : Int) + 2)], .int .i64 0]) ∧ Below W.heap.size W w') at HTL
    generalize tlE s k = E at *
    generalize lineAt s k = L at *
    by_cases h2 : (300 : Int) < (L.size : Int)
    · rw [if_pos (by omega)]
      clear h h1 HB2
      go_enter Tryz.func81, Tryz.ntmps81
      go_wp2_with (first | (go_at_call 117; refine (HTL.out _).mono ?_; rintro e w2 ⟨rfl, hb2⟩) | (go_at_call 54; refine (refuseIf_any _ _ _).mono ?_; rintro e w3 ⟨rfl, rfl⟩; simp only [refE]))
      exact ⟨rfl, rfl, below_then (below_then HB.out hb2) (below_a1 _ _)⟩
    · have h3 : (1500 : Int) < (E : Int) + 2 := by
        by_cases h4 : (1500 : Int) < (E : Int) + 2
        · exact h4
        · exact absurd (if_neg (by omega)) HB2
      rw [if_pos (by omega)]
      clear h h1 HB2
      have d2 : decide ((300 : Int) < (L.size : Int)) = false := decide_eq_false h2
      go_enter Tryz.func81, Tryz.ntmps81
      go_wp2_with (first | (go_at_call 117; refine (HTL.out _).mono ?_; rintro e w2 ⟨rfl, hb2⟩) | (go_at_call 54; refine (refuseIf_any _ _ _).mono ?_; rintro e w3 ⟨rfl, rfl⟩; simp only [refE]))
      exact ⟨rfl, rfl, below_then (below_then HB.out hb2) (below_a1 _ _)⟩
  · rw [hlC_bad h1]
    obtain ⟨c, hc, hv⟩ := tlV_not h1
    rw [hv] at HTL
    clear h h1 hv
    unfold curZ at HTL
    go_enter Tryz.func81, Tryz.ntmps81
    go_wp2_with (first | (go_at_call 117; refine (HTL.out _).mono ?_; rintro e w2 ⟨rfl, hb2⟩) | (go_at_call 54; refine (refuseIf_any _ _ _).mono ?_; rintro e w3 ⟨rfl, rfl⟩; simp only [refE]))
    exact ⟨rfl, rfl, below_then (below_then HB.out hb2) (below_a1 _ _)⟩
set_option maxRecDepth 100000 in
set_option maxHeartbeats 2000000 in
theorem headLine_ok (s : ByteArray) (k : Nat) (w : World) (hs : s.size ≤ maxLen) (hk : k ≤ s.size) (h : hlC s k = 0) :
    Calls Tryz.prog 81 #[.agg #[.string s, .int .i64 (k : Int)]] w fun e w' => e = .returned (.tuple #[.string (lineAt s k), .agg #[.string s, .int .i64 ((tlE s k : Int) + 2)]]) ∧ Below w.heap.size w w' := by
  have hs' := hs
  unfold maxLen at hs'
  have HB := hideB2 (below_a2 w (.cells #[.string s, .int .i64 (k : Int)] 88) (.cells #[.string ⟨#[]⟩, .int .i64 0] 88))
  have A2 := hideB2 (show Blk ((w.alloc (.cells #[.string s, .int .i64 (k : Int)] 88)).alloc (.cells #[.string ⟨#[]⟩, .int .i64 0] 88)) (w.heap.size + 1) #[.string ⟨#[]⟩, .int .i64 0] 88 by
    have := Blk.new (w.alloc (.cells #[.string s, .int .i64 (k : Int)] 88)) #[.string ⟨#[]⟩, .int .i64 0] 88
    simpa using this)
  have HTL := hideB2 (fun W => TakeLine_ok s k W hs hk)
  obtain ⟨h1, h2, h3⟩ := hlC_zero h
  have hE := tlE_ok hk h1
  have hge := tlE_ge s k
  have hz := lineAt_size hk
  rw [tlV_ok h1] at HTL
  change Hid (∀ W, Calls _ _ _ W fun e w' => e = .returned (.tuple #[.string (lineAt s k), .agg #[.string s, .int .i64 ((tlE s k : Int) + 2)], .int .i64 0]) ∧ Below W.heap.size W w') at HTL
  clear h h1
  generalize tlE s k = E at *
  generalize lineAt s k = L at *
  have z0 : ((0 : Int) != 0) = false := rfl
  have d2 : decide ((300 : Int) < (L.size : Int)) = false := decide_eq_false (by omega)
  have d3 : decide ((1500 : Int) < (E : Int) + 2) = false := decide_eq_false (by omega)
  clear hz h2 hge
  go_enter Tryz.func81, Tryz.ntmps81
  go_wp2_with (first | (go_at_call 117; refine (HTL.out _).mono ?_; rintro e w2 ⟨rfl, hb2⟩) | (go_at_call 54; refine (refuseIf_any _ _ _).mono ?_; rintro e w3 ⟨rfl, rfl⟩; simp only [refE]))
  have A3 := (A2.out.later hb2).alloc (.cells #[.string s, .int .i64 ((E : Int) + 2)] 88)
  have hlt := (A2.out.later hb2).lt
  obtain ⟨p0, p1⟩ := A3.c2
  have f0 := A3.free 0
  have f1 := A3.free 1
  have HA3 := hideB2 A3
  have HB2 := hideB2 (below_then (below_then HB.out hb2) (below_a1 _ (.cells #[.string s, .int .i64 ((E : Int) + 2)] 88)))
  have N3 := Blk.new w2 #[.string s, .int .i64 ((E : Int) + 2)] 88
  obtain ⟨q0, q1⟩ := N3.c2
  clear A3 hb2 N3
  generalize hW : w2.alloc (.cells #[.string s, .int .i64 ((E : Int) + 2)] 88) = W3 at *
  clear hW
  go_region
  go_wp2
  refine bodyPost_ret (results_tmpC rfl _ _ _ rfl (HA3.out.set2 _ _) Tryz.underlying88 Tryz.infoCur) rfl ⟨rfl, ?_⟩
  exact (below_set2 (g := w.heap.size + 1) HB2.out (by omega) _ _).drew
end Go.Proofs.YtodandipfjamnaaGreatDoor
namespace Go.Proofs.YtodandipfjamnaaGreatDoor
set_option linter.unusedVariables false
set_option linter.unusedSimpArgs false
open Go.RowKit
theorem eqB_ver {s : ByteArray} : (s.toList == [72, 84, 84, 80, 47, 49, 46, 49]) = decide (s = verB) := by
  have h : eqB s verB = (s.toList == [72, 84, 84, 80, 47, 49, 46, 49]) := by unfold eqB; rw [ByteArray.toList_eq verB]; rfl
  rw [← h]
  by_cases hs : s = verB
  · rw [decide_eq_true hs, hs]; exact eqB_self _
  · rw [decide_eq_false hs]
    cases he : eqB s verB with
    | false => rfl
    | true => exact absurd (eqB_iff.1 he) hs
theorem rqP_not {s : ByteArray} (h : Lib.countB s ⟨#[32]⟩ ≠ 2) : rqP s = none := by
  have hl := prtL_len s
  unfold rqP
  match hx : prtL s with
  | [] => rfl
  | [_] => rfl
  | [_, _] => rfl
  | [_, _, _] => rw [hx] at hl; simp at hl; omega
  | _ :: _ :: _ :: _ :: _ => rfl
theorem prtL_three {s : ByteArray} (h : Lib.countB s ⟨#[32]⟩ = 2) : ∃ p q r, prtL s = [p, q, r] := by
  have hl := prtL_len s
  rw [h] at hl
  match hx : prtL s with
  | [] => rw [hx] at hl; simp at hl
  | [_] => rw [hx] at hl; simp at hl
  | [_, _] => rw [hx] at hl; simp at hl
  | [p, q, r] => exact ⟨p, q, r, rfl⟩
  | _ :: _ :: _ :: _ :: _ => rw [hx] at hl; simp at hl
/-- What comes of a request's first line. -/
def rqPost (X : Option (ByteArray × ByteArray)) (e : Ending) : Prop :=
  match X with
  | some (p, q) => e = .returned (.agg #[.string p, .string q, .int .i64 0, .string ⟨#[]⟩, .bool false, .slice none 0 0, .string ⟨#[]⟩])
  | none => e = .panicked (gone 400)
set_option maxRecDepth 100000 in
set_option maxHeartbeats 4000000 in
theorem requestLine_any (s : ByteArray) (w : World) (hs : s.size ≤ 1048576) (hz : ∀ x ∈ prtL s, x.size ≤ 1048576) (X : Option (ByteArray × ByteArray)) (hX : rqP s = X) :
    Calls Tryz.prog 119 #[.string s] w fun e w' => rqPost X e ∧ Below w.heap.size w w' := by
  have HB := hideB2 (below_a1 w (.cells #[.string ⟨#[]⟩, .string ⟨#[]⟩, .int .i64 0, .string ⟨#[]⟩, .bool false, .slice none 0 0, .string ⟨#[]⟩] 24))
  have A1 := hideB2 (Blk.new w #[.string ⟨#[]⟩, .string ⟨#[]⟩, .int .i64 0, .string ⟨#[]⟩, .bool false, .slice none 0 0, .string ⟨#[]⟩] 24)
  have HSp := hideB2 (fun W => SplitBl_any s W (by omega))
  change Hid (∀ W, Calls _ _ _ W fun e w' => e = .returned (.slice (some ⟨W.heap.size, 0, none⟩) (Lib.countB s ⟨#[32]⟩ + 1) (Lib.countB s ⟨#[32]⟩ + 1)) ∧ w' = W.alloc (.cells ((prtL s).map Value.string).toArray 9)) at HSp
  by_cases h2 : Lib.countB s ⟨#[32]⟩ = 2
  · obtain ⟨p, q, r, hp⟩ := prtL_three h2
    have hX2 : X = if r = verB ∧ reqQ (rqM p q) = true then some (p, q) else none := by rw [← hX]; unfold rqP; rw [hp]
    rw [h2, hp] at HSp
    have zp := hz p (by rw [hp]; simp)
    have zq := hz q (by rw [hp]; simp)
    have HX := hideB2 hX2
    clear hX hX2 h2 hp hz hs
    have hver := eqB_ver (s := r)
    have HRQ := hideB2 (fun W => requestOk_any p q ⟨#[]⟩ ⟨#[]⟩ 0 false none 0 0 [] W (by unfold maxLen; omega) (by unfold maxLen; omega))
    change Hid (∀ W, Calls _ _ _ W fun e w' => e = .returned (.bool (reqQ (rqM p q))) ∧ Below W.heap.size W w') at HRQ
    by_cases hv : r = verB
    · rw [decide_eq_true hv] at hver
      cases hrq : reqQ (rqM p q)
      · obtain rfl : X = none := by rw [HX.out, if_neg (by rw [hrq]; simp)]
        rw [hrq] at HRQ
        clear HX hv hrq
        go_enter Tryz.func119, Tryz.ntmps119
        go_wp2_with (first
          | (go_at_call 54; refine (refuseIf_any _ _ _).mono ?_; rintro e w9 ⟨rfl, rfl⟩; simp only [refE])
          | (go_at_call 160; refine (HSp.out _).mono ?_; rintro e w2 ⟨rfl, hw2⟩; rw [hw2]))
        have B1 : Blk ((w.alloc (.cells #[.string ⟨#[]⟩, .string ⟨#[]⟩, .int .i64 0, .string ⟨#[]⟩, .bool false, .slice none 0 0, .string ⟨#[]⟩] 24)).alloc (.cells #[.string p, .string q, .string r] 9)) (w.heap.size + 1) #[.string p, .string q, .string r] 9 := by
          have := Blk.new (w.alloc (.cells #[.string ⟨#[]⟩, .string ⟨#[]⟩, .int .i64 0, .string ⟨#[]⟩, .bool false, .slice none 0 0, .string ⟨#[]⟩] 24)) #[.string p, .string q, .string r] 9
          simpa using this
        have A2 := A1.out.alloc (.cells #[.string p, .string q, .string r] 9)
        have hB2 := below_then HB.out (below_a1 _ (.cells #[.string p, .string q, .string r] 9))
        generalize hW : (w.alloc (.cells #[.string ⟨#[]⟩, .string ⟨#[]⟩, .int .i64 0, .string ⟨#[]⟩, .bool false, .slice none 0 0, .string ⟨#[]⟩] 24)).alloc (.cells #[.string p, .string q, .string r] 9) = W2 at *
        clear hW
        have c0 : W2.cell? ⟨w.heap.size + 1, 0, none⟩ = some (.string p) := B1.cell 0
        have c1 : W2.cell? ⟨w.heap.size + 1, 1, none⟩ = some (.string q) := B1.cell 1
        have d0 : ∀ o, (W2.alloc o).cell? ⟨w.heap.size + 1, 0, none⟩ = some (.string p) := fun o => (B1.alloc o).cell 0
        have d1 : ∀ o, (W2.alloc o).cell? ⟨w.heap.size + 1, 1, none⟩ = some (.string q) := fun o => (B1.alloc o).cell 1
        have HA2 := hideB2 A2
        have HB2 := hideB2 hB2
        clear A2 hB2 B1
        go_cut [4] (fun c wc => c = .pointer (some ⟨W2.heap.size, 0, none⟩) ∧ Below W2.heap.size W2 wc ∧ Blk wc W2.heap.size #[.string p, .string q, .int .i64 0, .string ⟨#[]⟩, .bool false, .slice none 0 0, .string ⟨#[]⟩] 24)
        case first =>
          go_region
          all_goals
            go_wp2_with fail
            go_meet
            exact ⟨rfl, (below_a1 W2 _).drew, (Blk.new W2 _ _).drew⟩
        case rest =>
          obtain ⟨rfl, hb3, N3⟩ := hcut
          have A3 := HA2.out.later hb3
          have HB3 := hideB2 (below_then HB2.out hb3)
          obtain ⟨x0, x1, x2, x3, x4, x5, x6⟩ := N3.c7
          clear hb3 c0 c1 d0 d1
          go_wp2_with (first
            | (go_at_call 54; refine (refuseIf_any _ _ _).mono ?_; rintro e w9 ⟨rfl, rfl⟩; simp only [refE])
            | (go_at_call 131; refine (HRQ.out _).mono ?_; rintro e w4 ⟨rfl, hb4⟩))
          exact ⟨rfl, show rqPost none _ from rfl, below_then HB3.out hb4⟩
      · obtain rfl : X = some (p, q) := by rw [HX.out, if_pos ⟨hv, hrq⟩]
        rw [hrq] at HRQ
        clear HX hv hrq
        go_enter Tryz.func119, Tryz.ntmps119
        go_wp2_with (first
          | (go_at_call 54; refine (refuseIf_any _ _ _).mono ?_; rintro e w9 ⟨rfl, rfl⟩; simp only [refE])
          | (go_at_call 160; refine (HSp.out _).mono ?_; rintro e w2 ⟨rfl, hw2⟩; rw [hw2]))
        have B1 : Blk ((w.alloc (.cells #[.string ⟨#[]⟩, .string ⟨#[]⟩, .int .i64 0, .string ⟨#[]⟩, .bool false, .slice none 0 0, .string ⟨#[]⟩] 24)).alloc (.cells #[.string p, .string q, .string r] 9)) (w.heap.size + 1) #[.string p, .string q, .string r] 9 := by
          have := Blk.new (w.alloc (.cells #[.string ⟨#[]⟩, .string ⟨#[]⟩, .int .i64 0, .string ⟨#[]⟩, .bool false, .slice none 0 0, .string ⟨#[]⟩] 24)) #[.string p, .string q, .string r] 9
          simpa using this
        have A2 := A1.out.alloc (.cells #[.string p, .string q, .string r] 9)
        have hB2 := below_then HB.out (below_a1 _ (.cells #[.string p, .string q, .string r] 9))
        generalize hW : (w.alloc (.cells #[.string ⟨#[]⟩, .string ⟨#[]⟩, .int .i64 0, .string ⟨#[]⟩, .bool false, .slice none 0 0, .string ⟨#[]⟩] 24)).alloc (.cells #[.string p, .string q, .string r] 9) = W2 at *
        clear hW
        have c0 : W2.cell? ⟨w.heap.size + 1, 0, none⟩ = some (.string p) := B1.cell 0
        have c1 : W2.cell? ⟨w.heap.size + 1, 1, none⟩ = some (.string q) := B1.cell 1
        have d0 : ∀ o, (W2.alloc o).cell? ⟨w.heap.size + 1, 0, none⟩ = some (.string p) := fun o => (B1.alloc o).cell 0
        have d1 : ∀ o, (W2.alloc o).cell? ⟨w.heap.size + 1, 1, none⟩ = some (.string q) := fun o => (B1.alloc o).cell 1
        have HA2 := hideB2 A2
        have HB2 := hideB2 hB2
        clear A2 hB2 B1
        go_cut [4] (fun c wc => c = .pointer (some ⟨W2.heap.size, 0, none⟩) ∧ Below W2.heap.size W2 wc ∧ Blk wc W2.heap.size #[.string p, .string q, .int .i64 0, .string ⟨#[]⟩, .bool false, .slice none 0 0, .string ⟨#[]⟩] 24)
        case first =>
          go_region
          all_goals
            go_wp2_with fail
            go_meet
            exact ⟨rfl, (below_a1 W2 _).drew, (Blk.new W2 _ _).drew⟩
        case rest =>
          obtain ⟨rfl, hb3, N3⟩ := hcut
          have A3 := HA2.out.later hb3
          have HB3 := hideB2 (below_then HB2.out hb3)
          obtain ⟨x0, x1, x2, x3, x4, x5, x6⟩ := N3.c7
          clear hb3 c0 c1 d0 d1
          generalize W2.heap.size = G3 at *
          go_wp2_with fail
          refine (HRQ.out _).mono ?_
          rintro e w4 ⟨rfl, hb4⟩
          have A4 := A3.later hb4
          have N4 := N3.later hb4
          obtain ⟨y0, y1, y2, y3, y4, y5, y6⟩ := N4.c7
          obtain ⟨z0, z1, z2, z3, z4, z5, z6⟩ := A4.c7
          obtain ⟨f0, f1, f2, f3, f4, f5, f6⟩ := A4.f7
          have HA4 := hideB2 A4
          have HB4 := hideB2 (below_then HB3.out hb4)
          clear x0 x1 x2 x3 x4 x5 x6 A3 N3 A4 N4 hb4
          go_wp2_with (go_at_call 54; refine (refuseIf_any _ _ _).mono ?_; rintro e w9 ⟨rfl, rfl⟩; simp only [refE])
          refine bodyPost_ret (results_cellS rfl _ _ _ rfl (HA4.out.set7 _ _ _ _ _ _ _) Tryz.underlying24 Tryz.infoMsg) rfl ⟨show rqPost (some (p, q)) _ from rfl, ?_⟩
          exact below_set7 HB4.out (Nat.le_refl _) _ _ _ _ _ _ _
    · rw [decide_eq_false hv] at hver
      obtain rfl : X = none := by rw [HX.out, if_neg (fun h => hv h.1)]
      clear HX hv HRQ
      go_enter Tryz.func119, Tryz.ntmps119
      go_wp2_with (first
        | (go_at_call 54; refine (refuseIf_any _ _ _).mono ?_; rintro e w9 ⟨rfl, rfl⟩; simp only [refE])
        | (go_at_call 160; refine (HSp.out _).mono ?_; rintro e w2 ⟨rfl, hw2⟩; rw [hw2]))
      exact ⟨rfl, show rqPost none _ from rfl, below_then HB.out (below_a1 _ _)⟩
  · obtain rfl : X = none := by rw [← hX]; exact rqP_not h2
    have hne : ((Lib.countB s ⟨#[32]⟩ : Int) + 1 != 3) = true := by rw [bne_iff_ne]; omega
    clear hX h2 hz
    generalize ((prtL s).map Value.string).toArray = arr at *
    generalize Lib.countB s ⟨#[32]⟩ = cn at *
    go_enter Tryz.func119, Tryz.ntmps119
    go_wp2_with (first
      | (go_at_call 54; refine (refuseIf_any _ _ _).mono ?_; rintro e w9 ⟨rfl, rfl⟩; simp only [refE])
      | (go_at_call 160; refine (HSp.out _).mono ?_; rintro e w2 ⟨rfl, hw2⟩; rw [hw2]))
    exact ⟨rfl, show rqPost none _ from rfl, below_then HB.out (below_a1 _ _)⟩
end Go.Proofs.YtodandipfjamnaaGreatDoor
namespace Go.Proofs.YtodandipfjamnaaGreatDoor
set_option linter.unusedVariables false
set_option linter.unusedSimpArgs false
open Go.RowKit
theorem anP_not {s : ByteArray} (h : (prt3 s).length ≠ 3) : anP s = none := by
  unfold anP
  match hx : prt3 s with
  | [] => rfl
  | [_] => rfl
  | [_, _] => rfl
  | [_, _, _] => rw [hx] at h; simp at h
  | _ :: _ :: _ :: _ :: _ => rfl
theorem prt3_three {s : ByteArray} (h : (prt3 s).length = 3) : ∃ p q r, prt3 s = [p, q, r] ∧ min 3 (s.size + 1) = 3 := by
  have hl := Lib.splitB_length_le ⟨#[32]⟩ 0 (min 3 (s.size + 1) - 1) s
  change (prt3 s).length ≤ _ at hl
  match hx : prt3 s with
  | [] => rw [hx] at h; simp at h
  | [_] => rw [hx] at h; simp at h
  | [_, _] => rw [hx] at h; simp at h
  | [p, q, r] => exact ⟨p, q, r, rfl, by omega⟩
  | _ :: _ :: _ :: _ :: _ => rw [hx] at h; simp at h
def anPost (X : Option (Int × ByteArray)) (e : Ending) : Prop :=
  match X with
  | some (n, r) => e = .returned (.agg #[.string ⟨#[]⟩, .string ⟨#[]⟩, .int .i64 n, .string r, .bool false, .slice none 0 0, .string ⟨#[]⟩])
  | none => e = .panicked (gone 400)
set_option maxRecDepth 100000 in
set_option maxHeartbeats 4000000 in
theorem answerLine_any (s : ByteArray) (w : World) (hs : s.size ≤ 1048576) (hz : ∀ x ∈ prt3 s, x.size ≤ 1048576) (X : Option (Int × ByteArray)) (hX : anP s = X) :
    Calls Tryz.prog 118 #[.string s] w fun e w' => anPost X e ∧ Below w.heap.size w w' := by
  have HB := hideB2 (below_a1 w (.cells #[.string ⟨#[]⟩, .string ⟨#[]⟩, .int .i64 0, .string ⟨#[]⟩, .bool false, .slice none 0 0, .string ⟨#[]⟩] 24))
  have A1 := hideB2 (Blk.new w #[.string ⟨#[]⟩, .string ⟨#[]⟩, .int .i64 0, .string ⟨#[]⟩, .bool false, .slice none 0 0, .string ⟨#[]⟩] 24)
  have HSp := hideB2 (fun W => SplitNBl_any s W (by omega))
  change Hid (∀ W, Calls _ _ _ W fun e w' => e = .returned (.slice (some ⟨W.heap.size, 0, none⟩) (prt3 s).length (min 3 (s.size + 1))) ∧ w' = W.alloc (.cells (Lib.cellsOf (prt3 s) (min 3 (s.size + 1))) 9)) at HSp
  by_cases h2 : (prt3 s).length = 3
  · obtain ⟨p, q, r, hp, hm⟩ := prt3_three h2
    have hX2 : X = if p = verB ∧ rdecOk q = true ∧ ansQ (anM (rdecN q) r) = true then some (rdecN q, r) else none := by rw [← hX]; unfold anP; rw [hp]
    rw [hp, hm] at HSp
    change Hid (∀ W, Calls _ _ _ W fun e w' => e = .returned (.slice (some ⟨W.heap.size, 0, none⟩) 3 3) ∧ w' = W.alloc (.cells #[.string p, .string q, .string r] 9)) at HSp
    have zq := hz q (by rw [hp]; simp)
    have zr := hz r (by rw [hp]; simp)
    have HX := hideB2 hX2
    clear hX hX2 h2 hp hz hs hm
    have hver := eqB_ver (s := p)
    have HD := hideB2 (fun W => ReadDec_any q W (by unfold maxLen; omega))
    have HAQ := hideB2 (fun W => answerOk_any ⟨#[]⟩ ⟨#[]⟩ r ⟨#[]⟩ (rdecN q) false none 0 0 [] W (by unfold maxLen; omega))
    change Hid (∀ W, Calls _ _ _ W fun e w' => e = .returned (.bool (ansQ (anM (rdecN q) r))) ∧ Below W.heap.size W w') at HAQ
    have B1 := hideB2 (show Blk ((w.alloc (.cells #[.string ⟨#[]⟩, .string ⟨#[]⟩, .int .i64 0, .string ⟨#[]⟩, .bool false, .slice none 0 0, .string ⟨#[]⟩] 24)).alloc (.cells #[.string p, .string q, .string r] 9)) (w.heap.size + 1) #[.string p, .string q, .string r] 9 by
      have := Blk.new (w.alloc (.cells #[.string ⟨#[]⟩, .string ⟨#[]⟩, .int .i64 0, .string ⟨#[]⟩, .bool false, .slice none 0 0, .string ⟨#[]⟩] 24)) #[.string p, .string q, .string r] 9
      simpa using this)
    have A2 := hideB2 (A1.out.alloc (.cells #[.string p, .string q, .string r] 9))
    have HB2 := hideB2 (below_then HB.out (below_a1 _ (.cells #[.string p, .string q, .string r] 9)))
    by_cases hv : p = verB
    · rw [decide_eq_true hv] at hver
      cases hok : rdecOk q
      · obtain rfl : X = none := by rw [HX.out, if_neg (by rw [hok]; simp)]
        rw [hok] at HD
        clear HX hv hok HAQ
        generalize rdecN q = n at *
        go_enter Tryz.func118, Tryz.ntmps118
        go_wp2_with (first
          | (go_at_call 54; refine (refuseIf_any _ _ _).mono ?_; rintro e w9 ⟨rfl, rfl⟩; simp only [refE])
          | (go_at_call 159; refine (HSp.out _).mono ?_; rintro e w2 ⟨rfl, hw2⟩; rw [hw2])
          | (go_at_call 123; refine (HD.out _).mono ?_; rintro e w3 ⟨rfl, hw3⟩; rw [hw3]))
        exact ⟨rfl, show anPost none _ from rfl, below_then HB2.out (below_a1 _ _)⟩
      · rw [hok] at HD
        cases han : ansQ (anM (rdecN q) r)
        · obtain rfl : X = none := by rw [HX.out, if_neg (by rw [han]; simp)]
          rw [han] at HAQ
          clear HX hv hok han
          generalize rdecN q = n at *
          go_enter Tryz.func118, Tryz.ntmps118
          go_wp2_with (first
            | (go_at_call 54; refine (refuseIf_any _ _ _).mono ?_; rintro e w9 ⟨rfl, rfl⟩; simp only [refE])
            | (go_at_call 159; refine (HSp.out _).mono ?_; rintro e w2 ⟨rfl, hw2⟩; rw [hw2])
            | (go_at_call 123; refine (HD.out _).mono ?_; rintro e w3 ⟨rfl, hw3⟩; rw [hw3])
            | (go_at_call 132; refine (HAQ.out _).mono ?_; rintro e w4 ⟨rfl, hb4⟩))
          exact ⟨rfl, show anPost none _ from rfl, below_then (below_then HB2.out (below_a1 _ _)) hb4⟩
        · obtain rfl : X = some (rdecN q, r) := by rw [HX.out, if_pos ⟨hv, hok, han⟩]
          rw [han] at HAQ
          clear HX hv hok han
          generalize rdecN q = n at *
          go_enter Tryz.func118, Tryz.ntmps118
          go_wp2_with (first
            | (go_at_call 54; refine (refuseIf_any _ _ _).mono ?_; rintro e w9 ⟨rfl, rfl⟩; simp only [refE])
            | (go_at_call 159; refine (HSp.out _).mono ?_; rintro e w2 ⟨rfl, hw2⟩; rw [hw2])
            | (go_at_call 123; refine (HD.out _).mono ?_; rintro e w3 ⟨rfl, hw3⟩; rw [hw3])
            | (go_at_call 132; refine (HAQ.out _).mono ?_; rintro e w4 ⟨rfl, hb4⟩; have A4 := (A2.out.alloc (.cells #[.string ⟨#[]⟩, .string ⟨#[]⟩, .int .i64 n, .string r, .bool false, .slice none 0 0, .string ⟨#[]⟩] 24)).later hb4; have N4 := (Blk.new ((w.alloc (.cells #[.string ⟨#[]⟩, .string ⟨#[]⟩, .int .i64 0, .string ⟨#[]⟩, .bool false, .slice none 0 0, .string ⟨#[]⟩] 24)).alloc (.cells #[.string p, .string q, .string r] 9)) #[.string ⟨#[]⟩, .string ⟨#[]⟩, .int .i64 n, .string r, .bool false, .slice none 0 0, .string ⟨#[]⟩] 24).later hb4; obtain ⟨y0, y1, y2, y3, y4, y5, y6⟩ := N4.c7; simp at y0 y1 y2 y3 y4 y5 y6; obtain ⟨z0, z1, z2, z3, z4, z5, z6⟩ := A4.c7; obtain ⟨f0, f1, f2, f3, f4, f5, f6⟩ := A4.f7))
          refine bodyPost_ret (results_cellS rfl _ _ _ rfl (A4.set7 _ _ _ _ _ _ _) Tryz.underlying24 Tryz.infoMsg) rfl ⟨show anPost (some (n, r)) _ from rfl, ?_⟩
          exact below_set7 (below_then (below_then HB2.out (below_a1 _ _)) hb4) (Nat.le_refl _) _ _ _ _ _ _ _
    · rw [decide_eq_false hv] at hver
      obtain rfl : X = none := by rw [HX.out, if_neg (fun h => hv h.1)]
      clear HX hv HAQ HD
      go_enter Tryz.func118, Tryz.ntmps118
      go_wp2_with (first
        | (go_at_call 54; refine (refuseIf_any _ _ _).mono ?_; rintro e w9 ⟨rfl, rfl⟩; simp only [refE])
        | (go_at_call 159; refine (HSp.out _).mono ?_; rintro e w2 ⟨rfl, hw2⟩; rw [hw2]))
      exact ⟨rfl, show anPost none _ from rfl, HB2.out⟩
  · obtain rfl : X = none := by rw [← hX]; exact anP_not h2
    have hne : (((prt3 s).length : Int) != 3) = true := by rw [bne_iff_ne]; omega
    clear hX h2 hz
    generalize Lib.cellsOf (prt3 s) (min 3 (s.size + 1)) = arr at *
    generalize (prt3 s).length = cn at *
    generalize min 3 (s.size + 1) = mn at *
    go_enter Tryz.func118, Tryz.ntmps118
    go_wp2_with (first
      | (go_at_call 54; refine (refuseIf_any _ _ _).mono ?_; rintro e w9 ⟨rfl, rfl⟩; simp only [refE])
      | (go_at_call 159; refine (HSp.out _).mono ?_; rintro e w2 ⟨rfl, hw2⟩; rw [hw2]))
    exact ⟨rfl, show anPost none _ from rfl, below_then HB.out (below_a1 _ _)⟩
end Go.Proofs.YtodandipfjamnaaGreatDoor
namespace Go.Proofs.YtodandipfjamnaaGreatDoor
set_option linter.unusedVariables false
set_option linter.unusedSimpArgs false
open Go.RowKit
def flPost (X : Option Fl) (e : Ending) : Prop :=
  match X with
  | some (a, b, n, r) => e = .returned (.agg #[.string a, .string b, .int .i64 n, .string r, .bool false, .slice none 0 0, .string ⟨#[]⟩])
  | none => e = .panicked (gone 400)
theorem split_small (sep : ByteArray) (m : Nat) : ∀ (k : Nat) (s : ByteArray), s.size ≤ m → ∀ x ∈ Lib.splitB sep 0 k s, x.size ≤ m
  | 0, s, hs, x, hx => by
    rw [Lib.splitB_zero] at hx
    simp at hx; subst hx; exact hs
  | k + 1, s, hs, x, hx => by
    unfold Lib.splitB at hx
    split at hx
    · simp at hx; subst hx; exact hs
    · rcases List.mem_cons.1 hx with rfl | hx
      · rw [ByteArray.size_extract]; omega
      · exact split_small sep m k _ (by rw [ByteArray.size_extract]; omega) x hx
set_option maxRecDepth 100000 in
set_option maxHeartbeats 4000000 in
theorem firstLine_any (s : ByteArray) (answer : Bool) (w : World) (hs : s.size ≤ 1048576) (X : Option Fl) (hX : flX answer s = X) :
    Calls Tryz.prog 82 #[.string s, .bool answer] w fun e w' => flPost X e ∧ Below w.heap.size w w' := by
  have HB := hideB2 (below_a1 w (.cells #[.string ⟨#[]⟩, .string ⟨#[]⟩, .int .i64 0, .string ⟨#[]⟩, .bool false, .slice none 0 0, .string ⟨#[]⟩] 24))
  have A1 := hideB2 (Blk.new w #[.string ⟨#[]⟩, .string ⟨#[]⟩, .int .i64 0, .string ⟨#[]⟩, .bool false, .slice none 0 0, .string ⟨#[]⟩] 24)
  cases answer
  · have HR := hideB2 (fun W => requestLine_any s W hs (split_small _ _ _ s hs) _ (rq_same s))
    have hX2 : X = (rqO s).map fun x => (x.1, x.2, 0, ⟨#[]⟩) := hX.symm
    clear hX hs
    generalize rqO s = Y at *
    cases Y with
    | none =>
      obtain rfl : X = none := hX2
      go_enter Tryz.func82, Tryz.ntmps82
      go_wp2_with (go_at_call 119; refine (HR.out _).mono ?_; rintro e w2 ⟨he, hb2⟩; replace he : e = .panicked (gone 400) := he; subst he)
      exact ⟨rfl, show flPost none _ from rfl, below_then HB.out hb2⟩
    | some y =>
      obtain ⟨a, b⟩ := y
      obtain rfl : X = some (a, b, 0, ⟨#[]⟩) := hX2
      go_enter Tryz.func82, Tryz.ntmps82
      go_wp2_with fail
      refine (HR.out _).mono ?_
      rintro e w2 ⟨he, hb2⟩
      replace he : e = .returned (.agg #[.string a, .string b, .int .i64 0, .string ⟨#[]⟩, .bool false, .slice none 0 0, .string ⟨#[]⟩]) := he
      subst he
      have A2 := A1.out.later hb2
      obtain ⟨z0, z1, z2, z3, z4, z5, z6⟩ := A2.c7
      obtain ⟨f0, f1, f2, f3, f4, f5, f6⟩ := A2.f7
      go_wp2
      refine bodyPost_ret (results_cellS rfl _ _ _ rfl (A2.set7 _ _ _ _ _ _ _) Tryz.underlying24 Tryz.infoMsg) rfl ⟨show flPost (some (a, b, 0, ⟨#[]⟩)) _ from rfl, ?_⟩
      exact below_set7 (below_then HB.out hb2) (Nat.le_refl _) _ _ _ _ _ _ _
  · have HR := hideB2 (fun W => answerLine_any s W hs (split_small _ _ _ s hs) _ (an_same s))
    have hX2 : X = (anO s).map fun x => (⟨#[]⟩, ⟨#[]⟩, x.1, x.2) := hX.symm
    clear hX hs
    generalize anO s = Y at *
    cases Y with
    | none =>
      obtain rfl : X = none := hX2
      go_enter Tryz.func82, Tryz.ntmps82
      go_wp2_with (go_at_call 118; refine (HR.out _).mono ?_; rintro e w2 ⟨he, hb2⟩; replace he : e = .panicked (gone 400) := he; subst he)
      exact ⟨rfl, show flPost none _ from rfl, below_then HB.out hb2⟩
    | some y =>
      obtain ⟨n, r⟩ := y
      obtain rfl : X = some (⟨#[]⟩, ⟨#[]⟩, n, r) := hX2
      go_enter Tryz.func82, Tryz.ntmps82
      go_wp2_with fail
      refine (HR.out _).mono ?_
      rintro e w2 ⟨he, hb2⟩
      replace he : e = .returned (.agg #[.string ⟨#[]⟩, .string ⟨#[]⟩, .int .i64 n, .string r, .bool false, .slice none 0 0, .string ⟨#[]⟩]) := he
      subst he
      have A2 := A1.out.later hb2
      obtain ⟨z0, z1, z2, z3, z4, z5, z6⟩ := A2.c7
      obtain ⟨f0, f1, f2, f3, f4, f5, f6⟩ := A2.f7
      go_wp2
      refine bodyPost_ret (results_cellS rfl _ _ _ rfl (A2.set7 _ _ _ _ _ _ _) Tryz.underlying24 Tryz.infoMsg) rfl ⟨show flPost (some (⟨#[]⟩, ⟨#[]⟩, n, r)) _ from rfl, ?_⟩
      exact below_set7 (below_then HB.out hb2) (Nat.le_refl _) _ _ _ _ _ _ _
end Go.Proofs.YtodandipfjamnaaGreatDoor
namespace Go.Proofs.YtodandipfjamnaaGreatDoor
set_option linter.unusedVariables false
set_option linter.unusedSimpArgs false
open Go.RowKit

set_option maxHeartbeats 1000000 in
theorem TakeN_any (s : ByteArray) (n m : Int) (w : World) (hs : s.size ≤ maxLen) (hm : m ≤ 9223372036854775807) :
    Calls Tryz.prog 171 #[.agg #[.string s, .int .i64 n], .int .i64 m] w fun e w' => e = .returned (tnV s n m) ∧ Below w.heap.size w w' := by
  have hs' := hs
  unfold maxLen at hs'
  cases hc : curOk s n
  · rw [tnV_no (by simp [tnOk, hc])]
    go_enter Tryz.func171, Tryz.ntmps171
    go_wp2_with (go_at_call 154; refine (inside_any s _ _).mono ?_; rintro e w' ⟨rfl, rfl⟩)
    refine bodyPost_ret (v := .tuple #[.string ⟨#[]⟩, curZ, .bool false]) (by simp [results, Tryz.results171, go_sem, curZ]) rfl ⟨rfl, ?_⟩
    exact (by repeat (first | exact Below.refl _ _ | refine Below.drew ?_ | refine Below.alloc ?_ (by simp <;> omega) _ | refine Below.setCell ?_ (by simp <;> omega) _))
  · obtain ⟨h0, h1⟩ := curOk_iff.1 hc
    obtain ⟨k, rfl⟩ := Int.eq_ofNat_of_zero_le h0
    have hk : k ≤ s.size := by omega
    by_cases hm0 : m < 0
    · rw [tnV_no (by simp [tnOk]; omega)]
      go_enter Tryz.func171, Tryz.ntmps171
      go_wp2_with (first | (go_at_call 154; refine (inside_any s _ _).mono ?_; rintro e w' ⟨rfl, rfl⟩) | (go_at_call 128; refine (left_any s k _ hs hk).mono ?_; rintro e w' ⟨rfl, rfl⟩))
      refine bodyPost_ret (v := .tuple #[.string ⟨#[]⟩, curZ, .bool false]) (by simp [results, Tryz.results171, go_sem, curZ]) rfl ⟨rfl, ?_⟩
      exact (by repeat (first | exact Below.refl _ _ | refine Below.drew ?_ | refine Below.alloc ?_ (by simp <;> omega) _ | refine Below.setCell ?_ (by simp <;> omega) _))
    · obtain ⟨j, rfl⟩ := Int.eq_ofNat_of_zero_le (show 0 ≤ m by omega)
      by_cases hbig : (s.size : Int) - (k : Int) < (j : Int)
      · rw [tnV_no (by simp [tnOk]; omega)]
        go_enter Tryz.func171, Tryz.ntmps171
        go_wp2_with (first | (go_at_call 154; refine (inside_any s _ _).mono ?_; rintro e w' ⟨rfl, rfl⟩) | (go_at_call 128; refine (left_any s k _ hs hk).mono ?_; rintro e w' ⟨rfl, rfl⟩))
        refine bodyPost_ret (v := .tuple #[.string ⟨#[]⟩, curZ, .bool false]) (by simp [results, Tryz.results171, go_sem, curZ]) rfl ⟨rfl, ?_⟩
        exact (by repeat (first | exact Below.refl _ _ | refine Below.drew ?_ | refine Below.alloc ?_ (by simp <;> omega) _ | refine Below.setCell ?_ (by simp <;> omega) _))
      · rw [tnV_yes (by omega)]
        have hkj2 : k + j ≤ s.size := by omega
        go_enter Tryz.func171, Tryz.ntmps171
        go_wp2_with (first | (go_at_call 154; refine (inside_any s _ _).mono ?_; rintro e w' ⟨rfl, rfl⟩) | (go_at_call 128; refine (left_any s k _ hs hk).mono ?_; rintro e w' ⟨rfl, rfl⟩))
        go_region_with (first | (go_at_call 158; refine (part_any s k j _ hs hkj2).mono ?_; rintro e w' ⟨rfl, rfl⟩) | (go_at_call 156; refine (behind_any s k j _ hs hkj2).mono ?_; rintro e w2 ⟨rfl, hb2⟩; obtain ⟨hcc, hff⟩ := bcell hb2; have hzz := hb2.size))
        all_goals go_wp2
        all_goals
          refine bodyPost_ret (v := .tuple #[.string (s.extract k (k + j)), .agg #[.string s, .int .i64 ((k : Int) + j)], .bool true]) (by simp [results, Tryz.results171, go_sem, hcc]) rfl ⟨rfl, ?_⟩
        all_goals exact (by repeat (first | exact Below.refl _ _ | refine Below.drew ?_ | refine Below.alloc ?_ (by simp <;> omega) _ | refine Below.setCell ?_ (by simp <;> omega) _ | refine Below.trans ?_ (Below.mono hb2 (by simp <;> omega))))
end Go.Proofs.YtodandipfjamnaaGreatDoor
namespace Go.Proofs.YtodandipfjamnaaGreatDoor
set_option linter.unusedVariables false
set_option linter.unusedSimpArgs false
open Go.RowKit

theorem ret_ib6 {k : IntKind} {n m : Int} {a b : Bool} (h : m = n) (h' : b = a) : Ending.returned (.tuple #[.int k n, .bool a]) = .returned (.tuple #[.int k m, .bool b]) := by rw [h, h']
theorem hexV_neg {n : Int} (h : hexV n < 0) : digP n = false ∧ (lowI n < 97 ∨ 102 < lowI n) := by
  unfold hexV at h
  split at h
  · rename_i hd; rw [digP_iff] at hd; omega
  · rename_i hd
    split at h
    · omega
    · exact ⟨by simpa using hd, by omega⟩
theorem hexV_pos {n : Int} (h : 0 ≤ hexV n) : (digP n = true ∧ hexV n = n - 48) ∨ (digP n = false ∧ 97 ≤ lowI n ∧ lowI n ≤ 102 ∧ hexV n = lowI n - 87) := by
  cases hd : digP n
  · right
    by_cases hl : 97 ≤ lowI n ∧ lowI n ≤ 102
    · exact ⟨rfl, hl.1, hl.2, hexV_let hd hl.1 hl.2⟩
    · rw [hexV_no hd (by omega)] at h; omega
  · left; exact ⟨rfl, hexV_dig hd⟩
set_option maxHeartbeats 1000000 in
theorem hexValue_any (n : Int) (w : World) (h0 : 0 ≤ n) (h1 : n ≤ 255) :
    Calls Tryz.prog 192 #[.int .u8 n] w fun e w' => e = .returned (.int .i64 (hexV n)) ∧ w' = w := by
  cases hd : digP n
  · by_cases hl : 97 ≤ lowI n ∧ lowI n ≤ 102
    · obtain ⟨ha, hb⟩ := hl
      rw [hexV_let hd ha hb]
      go_enter Tryz.func192, Tryz.ntmps192
      go_wp2_with (first | (go_at_call 130; refine (smallByte_any _ _ (by omega) (by omega)).mono ?_; rintro e w' ⟨rfl, rfl⟩) | (go_at_call 166; refine (digitByte_any _ _).mono ?_; rintro e w' ⟨rfl, rfl⟩))
      go_ret
      exact ⟨ret_int (by omega), rfl⟩
    · have hl' : lowI n < 97 ∨ 102 < lowI n := by omega
      rw [hexV_no hd hl']
      have hl2 : lowI n < 97 ∨ (102 < lowI n ∧ decide (lowI n ≤ 102) = false) := by
        rcases hl' with h | h
        · exact Or.inl h
        · exact Or.inr ⟨h, by simp; omega⟩
      clear hl hl'
      rcases hl2 with hl | ⟨hl, hl3⟩
      all_goals
        go_enter Tryz.func192, Tryz.ntmps192
        go_wp2_with (first | (go_at_call 130; refine (smallByte_any _ _ (by omega) (by omega)).mono ?_; rintro e w' ⟨rfl, rfl⟩) | (go_at_call 166; refine (digitByte_any _ _).mono ?_; rintro e w' ⟨rfl, rfl⟩))
        go_ret
        exact ⟨rfl, rfl⟩
  · have hb := digP_iff.1 hd
    rw [hexV_dig hd]
    go_enter Tryz.func192, Tryz.ntmps192
    go_wp2_with (first | (go_at_call 130; refine (smallByte_any _ _ (by omega) (by omega)).mono ?_; rintro e w' ⟨rfl, rfl⟩) | (go_at_call 166; refine (digitByte_any _ _).mono ?_; rintro e w' ⟨rfl, rfl⟩))
    go_ret
    exact ⟨rfl, rfl⟩
set_option maxHeartbeats 1000000 in
theorem ReadHex_any (s : ByteArray) (w : World) (hs : s.size ≤ maxLen) :
    Calls Tryz.prog 170 #[.string s] w fun e w' => e = .returned (.tuple #[.int .i64 (rhexN s), .bool (rhexOk s)]) ∧ w' = w := by
  unfold maxLen at hs
  by_cases h0 : s.size = 0
  · have hr := rhex_size (Or.inl h0)
    have hne : s.toList.isEmpty = true := by rw [ByteArray.toList_eq, List.isEmpty_iff, ← List.length_eq_zero_iff, Array.length_toList]; exact h0
    rw [hr.1, hr.2]
    clear hr
    go_enter Tryz.func170, Tryz.ntmps170
    go_wp2
    go_ret2
    exact ⟨rfl, rfl⟩
  · have hne2 : s.toList.isEmpty = false := by
      rw [ByteArray.toList_eq, List.isEmpty_eq_false_iff]
      intro hh
      apply h0
      rw [← len_data, hh]; rfl
    by_cases hbig : (7 : Int) < (s.size : Int)
    · have hr := rhex_size (s := s) (Or.inr (by omega))
      rw [hr.1, hr.2]
      clear hr
      go_enter Tryz.func170, Tryz.ntmps170
      go_wp2
      go_ret2
      exact ⟨rfl, rfl⟩
    · go_enter Tryz.func170, Tryz.ntmps170
      go_wp2
      clear hne2
      go_loop [4, 16] (fun n i => ∃ k : Nat, k ≤ s.size ∧ i = .int .i64 k ∧ n = .int .i64 (hval (s.data.toList.take k)) ∧ allHex (s.data.toList.take k) = true) (fun _ i => s.size - (intOf i).toNat)
      case atStart => exact ⟨0, Nat.zero_le _, rfl, rfl, rfl⟩
      case round =>
        obtain ⟨k, hk, rfl, rfl, hall⟩ := hrel
        have Hall : Hid (allHex (s.data.toList.take k) = true) := hall
        obtain ⟨hv0, hv1⟩ := hval_small s k (by omega) hall
        clear hall
        by_cases hlt : k < s.size
        · have hlo := u8_lo s[k]
          have hhi := u8_hi s[k]
          have hn0 : hexV (s[k].toNat : Int) = hex8 (at8 s k) := by rw [at8_eq s k hlt]; rfl
          by_cases hg0 : hex8 (at8 s k) < 0
          · have hfin : Hid (rhexN s = 0 ∧ rhexOk s = false) := rhex_no hlt hg0
            have hneg : hexV (s[k].toNat : Int) < 0 := by rw [hn0]; exact hg0
            clear hg0 hn0
            generalize hval (s.data.toList.take k) = v at *
            go_wp2_with (go_at_call 192; refine (hexValue_any _ _ (by omega) (by omega)).mono ?_; rintro e w' ⟨rfl, rfl⟩)
            go_ret2
            exact ⟨ret_ib6 hfin.out.1 hfin.out.2, rfl⟩
          · have hvq : Hid (hval (s.data.toList.take (k + 1)) = hval (s.data.toList.take k) * 16 + hexV (s[k].toNat : Int)) := by
              show _ = _
              rw [allDig_take_succ s k hlt, hval_snoc, hn0]
            have Hall2 : Hid (allHex (s.data.toList.take (k + 1)) = true) := by
              show _ = _
              rw [allDig_take_succ s k hlt]; exact allHex_snoc _ _ Hall.out (by omega)
            have hpos : 0 ≤ hexV (s[k].toNat : Int) := by rw [hn0]; omega
            have hp15 := (hexV_bd (s[k].toNat : Int)).2
            clear hg0 hn0
            generalize hval (s.data.toList.take k) = v at *
            go_wp2_with (go_at_call 192; refine (hexValue_any _ _ (by omega) (by omega)).mono ?_; rintro e w' ⟨rfl, rfl⟩)
            go_round
            case rel => exact ⟨k + 1, by omega, by go_num, congrArg (Value.int .i64) (by rw [hvq.out]), Hall2.out⟩
            case measure => simp [intOf]; omega
        · obtain rfl : k = s.size := by omega
          have ht : s.data.toList.take s.size = s.data.toList := List.take_of_length_le (by rw [len_data]; exact Nat.le_refl _)
          rw [ht] at Hall hv0 hv1 ⊢
          have hfin : Hid (rhexN s = hval s.data.toList ∧ rhexOk s = true) := rhex_yes (by omega) (by omega) Hall.out
          clear ht
          generalize hval s.data.toList = v at *
          go_wp2
          go_ret2
          exact ⟨ret_ib6 hfin.out.1 hfin.out.2, rfl⟩
set_option maxHeartbeats 1000000 in
theorem sReadHex_any (s : ByteArray) (w : World) (hs : s.size ≤ maxLen) :
    Calls Tryz.prog 112 #[.string s] w fun e w' => e = .returned (.tuple #[.int .i64 (rhexN s), .bool (rhexOk s)]) ∧ w' = w := by
  unfold maxLen at hs
  by_cases h0 : s.size = 0
  · have hr := rhex_size (Or.inl h0)
    have hne : ((s.size : Int) == 0) = true := by rw [beq_iff_eq]; omega
    rw [hr.1, hr.2]
    clear hr
    go_enter Tryz.func112, Tryz.ntmps112
    go_wp2
    go_ret2
    exact ⟨rfl, rfl⟩
  · have hne2 : ((s.size : Int) == 0) = false := by rw [Bool.eq_false_iff, ne_eq, beq_iff_eq]; omega
    by_cases hbig : (7 : Int) < (s.size : Int)
    · have hr := rhex_size (s := s) (Or.inr (by omega))
      rw [hr.1, hr.2]
      clear hr
      go_enter Tryz.func112, Tryz.ntmps112
      go_wp2
      go_ret2
      exact ⟨rfl, rfl⟩
    · go_enter Tryz.func112, Tryz.ntmps112
      go_wp2
      clear hne2
      go_loop [4, 5] (fun n i => ∃ k : Nat, k ≤ s.size ∧ i = .int .i64 k ∧ n = .int .i64 (hval (s.data.toList.take k)) ∧ allHex (s.data.toList.take k) = true) (fun _ i => s.size - (intOf i).toNat)
      case atStart => exact ⟨0, Nat.zero_le _, rfl, rfl, rfl⟩
      case round =>
        obtain ⟨k, hk, rfl, rfl, hall⟩ := hrel
        have Hall : Hid (allHex (s.data.toList.take k) = true) := hall
        obtain ⟨hv0, hv1⟩ := hval_small s k (by omega) hall
        clear hall
        by_cases hlt : k < s.size
        · have hlo := u8_lo s[k]
          have hhi := u8_hi s[k]
          have hn0 : hexV (s[k].toNat : Int) = hex8 (at8 s k) := by rw [at8_eq s k hlt]; rfl
          by_cases hg0 : hex8 (at8 s k) < 0
          · have hfin : Hid (rhexN s = 0 ∧ rhexOk s = false) := rhex_no hlt hg0
            have hneg : hexV (s[k].toNat : Int) < 0 := by rw [hn0]; exact hg0
            clear hg0 hn0
            generalize hval (s.data.toList.take k) = v at *
            have hno : digP (s[k].toNat : Int) = false ∧ (lowI (s[k].toNat : Int) < 97 ∨ 102 < lowI (s[k].toNat : Int)) := hexV_neg hneg
            obtain ⟨hd, hl⟩ := hno
            rw [← digP_low _ hlo] at hd
            clear hneg
            have hl2 : lowI (s[k].toNat : Int) < 97 ∨ (102 < lowI (s[k].toNat : Int) ∧ decide (lowI (s[k].toNat : Int) ≤ 102) = false) := by
              rcases hl with h | h
              · exact Or.inl h
              · exact Or.inr ⟨h, by simp; omega⟩
            rcases hl2 with hl | ⟨hl, hl3⟩
            all_goals
              go_wp2_with (first | (go_at_call 109; refine (l1lower_any _ _ (by omega) (by omega)).mono ?_; rintro e w' ⟨rfl, rfl⟩) | (go_at_call 110; refine (l1digit_any _ _).mono ?_; rintro e w' ⟨rfl, rfl⟩))
              go_ret2
              exact ⟨ret_ib6 hfin.out.1 hfin.out.2, rfl⟩
          · have hvq : Hid (hval (s.data.toList.take (k + 1)) = hval (s.data.toList.take k) * 16 + hexV (s[k].toNat : Int)) := by
              show _ = _
              rw [allDig_take_succ s k hlt, hval_snoc, hn0]
            have Hall2 : Hid (allHex (s.data.toList.take (k + 1)) = true) := by
              show _ = _
              rw [allDig_take_succ s k hlt]; exact allHex_snoc _ _ Hall.out (by omega)
            have hpos : 0 ≤ hexV (s[k].toNat : Int) := by rw [hn0]; omega
            have hp15 := (hexV_bd (s[k].toNat : Int)).2
            clear hg0 hn0
            generalize hval (s.data.toList.take k) = v at *
            have hyes := hexV_pos hpos
            rcases hyes with ⟨hd, he⟩ | ⟨hd, h97, h102, he⟩
            · have hd' : digP (lowI (s[k].toNat : Int)) = true := by rw [digP_low _ hlo]; exact hd
              have hlow := lowI_dig hd
              have hb := digP_iff.1 hd
              have he' : Hid (hexV (s[k].toNat : Int) = (s[k].toNat : Int) - 48) := he
              have hlo2 : lowI (s[k].toNat : Int) ≤ 57 := by rw [hlow]; exact hb.2
              have hlo3 : 48 ≤ lowI (s[k].toNat : Int) := by rw [hlow]; exact hb.1
              have Hlow : Hid (lowI (s[k].toNat : Int) = (s[k].toNat : Int)) := hlow
              clear he hd hb hlow
              go_wp2_with (first | (go_at_call 109; refine (l1lower_any _ _ (by omega) (by omega)).mono ?_; rintro e w' ⟨rfl, rfl⟩) | (go_at_call 110; refine (l1digit_any _ _).mono ?_; rintro e w' ⟨rfl, rfl⟩))
              go_round
              case rel => exact ⟨k + 1, by omega, by go_num, congrArg (Value.int .i64) (by rw [hvq.out, he'.out, Hlow.out]), Hall2.out⟩
              case measure => simp [intOf]; omega
            · have hd' : digP (lowI (s[k].toNat : Int)) = false := by rw [digP_low _ hlo]; exact hd
              have he' : Hid (hexV (s[k].toNat : Int) = lowI (s[k].toNat : Int) - 87) := he
              clear he hd
              go_wp2_with (first | (go_at_call 109; refine (l1lower_any _ _ (by omega) (by omega)).mono ?_; rintro e w' ⟨rfl, rfl⟩) | (go_at_call 110; refine (l1digit_any _ _).mono ?_; rintro e w' ⟨rfl, rfl⟩))
              go_round
              case rel => exact ⟨k + 1, by omega, by go_num, congrArg (Value.int .i64) (by rw [hvq.out, he'.out]; omega), Hall2.out⟩
              case measure => simp [intOf]; omega
        · obtain rfl : k = s.size := by omega
          have ht : s.data.toList.take s.size = s.data.toList := List.take_of_length_le (by rw [len_data]; exact Nat.le_refl _)
          rw [ht] at Hall hv0 hv1 ⊢
          have hfin : Hid (rhexN s = hval s.data.toList ∧ rhexOk s = true) := rhex_yes (by omega) (by omega) Hall.out
          clear ht
          generalize hval s.data.toList = v at *
          go_wp2
          go_ret2
          exact ⟨ret_ib6 hfin.out.1 hfin.out.2, rfl⟩
end Go.Proofs.YtodandipfjamnaaGreatDoor
namespace Go.Proofs.YtodandipfjamnaaGreatDoor
set_option linter.unusedVariables false
set_option linter.unusedSimpArgs false
open Go.RowKit
set_option maxRecDepth 100000 in
set_option maxHeartbeats 2000000 in
theorem chunkLine_ok (s : ByteArray) (k : Nat) (w : World) (hs : s.size ≤ maxLen) (hk : k ≤ s.size) (h : lnQ s k = true) :
    Calls Tryz.prog 169 #[.agg #[.string s, .int .i64 (k : Int)]] w fun e w' => e = .returned (.tuple #[.string (lineAt s k), .agg #[.string s, .int .i64 ((tlE s k : Int) + 2)]]) ∧ Below w.heap.size w w' := by
  have hs' := hs
  unfold maxLen at hs'
  have HB := hideB2 (below_a2 w (.cells #[.string s, .int .i64 (k : Int)] 88) (.cells #[.string ⟨#[]⟩, .int .i64 0] 88))
  have A2 := hideB2 (show Blk ((w.alloc (.cells #[.string s, .int .i64 (k : Int)] 88)).alloc (.cells #[.string ⟨#[]⟩, .int .i64 0] 88)) (w.heap.size + 1) #[.string ⟨#[]⟩, .int .i64 0] 88 by
    have := Blk.new (w.alloc (.cells #[.string s, .int .i64 (k : Int)] 88)) #[.string ⟨#[]⟩, .int .i64 0] 88
    simpa using this)
  have HTL := hideB2 (fun W => TakeLine_ok s k W hs hk)
  obtain ⟨h1, h2⟩ := lnQ_iff.1 h
  have hE := tlE_ok hk h1
  have hge := tlE_ge s k
  have hz := lineAt_size hk
  rw [tlV_ok h1] at HTL
  change Hid (∀ W, Calls _ _ _ W fun e w' => e = .returned (.tuple #[.string (lineAt s k), .agg #[.string s, .int .i64 ((tlE s k : Int) + 2)], .int .i64 0]) ∧ Below W.heap.size W w') at HTL
  clear h h1
  generalize tlE s k = E at *
  generalize lineAt s k = L at *
  have z0 : ((0 : Int) != 0) = false := rfl
  have d2 : decide ((300 : Int) < (L.size : Int)) = false := decide_eq_false (by omega)
  clear hz h2 hge
  go_enter Tryz.func169, Tryz.ntmps169
  go_wp2_with (first | (go_at_call 117; refine (HTL.out _).mono ?_; rintro e w2 ⟨rfl, hb2⟩) | (go_at_call 54; refine (refuseIf_any _ _ _).mono ?_; rintro e w3 ⟨rfl, rfl⟩; simp only [refE]))
  have A3 := (A2.out.later hb2).alloc (.cells #[.string s, .int .i64 ((E : Int) + 2)] 88)
  have hlt := (A2.out.later hb2).lt
  obtain ⟨p0, p1⟩ := A3.c2
  have f0 := A3.free 0
  have f1 := A3.free 1
  have HA3 := hideB2 A3
  have HB2 := hideB2 (below_then (below_then HB.out hb2) (below_a1 _ (.cells #[.string s, .int .i64 ((E : Int) + 2)] 88)))
  have N3 := Blk.new w2 #[.string s, .int .i64 ((E : Int) + 2)] 88
  obtain ⟨q0, q1⟩ := N3.c2
  clear A3 hb2 N3
  generalize hW : w2.alloc (.cells #[.string s, .int .i64 ((E : Int) + 2)] 88) = W3 at *
  clear hW
  go_region
  go_wp2
  refine bodyPost_ret (results_tmpC rfl _ _ _ rfl (HA3.out.set2 _ _) Tryz.underlying88 Tryz.infoCur) rfl ⟨rfl, ?_⟩
  exact (below_set2 (g := w.heap.size + 1) HB2.out (by omega) _ _).drew
set_option maxRecDepth 100000 in
set_option maxHeartbeats 2000000 in
theorem chunkLine_bad (s : ByteArray) (k : Nat) (w : World) (hs : s.size ≤ maxLen) (hk : k ≤ s.size) (h : lnQ s k = false) :
    Calls Tryz.prog 169 #[.agg #[.string s, .int .i64 (k : Int)]] w fun e w' => e = .panicked (gone 400) ∧ Below w.heap.size w w' := by
  have hs' := hs
  unfold maxLen at hs'
  have HB := hideB2 (below_a2 w (.cells #[.string s, .int .i64 (k : Int)] 88) (.cells #[.string ⟨#[]⟩, .int .i64 0] 88))
  have HTL := hideB2 (fun W => TakeLine_ok s k W hs hk)
  by_cases h1 : tlC s k = 0
  · have hE := tlE_ok hk h1
    have hz := lineAt_size hk
    have h2 : (300 : Int) < ((lineAt s k).size : Int) := by
      unfold lnQ at h
      rw [decide_eq_true h1, Bool.true_and, decide_eq_false_iff_not] at h
      omega
    rw [tlV_ok h1] at HTL
    change Hid (∀ W, Calls _ _ _ W fun e w' => e = .returned (.tuple #[.string (lineAt s k), .agg #[.string s, .int .i64 ((tlE s k : Int) + 2)], .int .i64 0]) ∧ Below W.heap.size W w') at HTL
    clear hz h h1
    generalize tlE s k = E at *
    generalize lineAt s k = L at *
    go_enter Tryz.func169, Tryz.ntmps169
    go_wp2_with (first | (go_at_call 117; refine (HTL.out _).mono ?_; rintro e w2 ⟨rfl, hb2⟩) | (go_at_call 54; refine (refuseIf_any _ _ _).mono ?_; rintro e w9 ⟨rfl, rfl⟩; simp only [refE]))
    exact ⟨rfl, rfl, below_then (below_then HB.out hb2) (below_a1 _ _)⟩
  · obtain ⟨c, hc, hv⟩ := tlV_not h1
    rw [hv] at HTL
    clear h h1 hv
    unfold curZ at HTL
    go_enter Tryz.func169, Tryz.ntmps169
    go_wp2_with (first | (go_at_call 117; refine (HTL.out _).mono ?_; rintro e w2 ⟨rfl, hb2⟩) | (go_at_call 54; refine (refuseIf_any _ _ _).mono ?_; rintro e w9 ⟨rfl, rfl⟩; simp only [refE]))
    exact ⟨rfl, rfl, below_then (below_then HB.out hb2) (below_a1 _ _)⟩
set_option maxRecDepth 100000 in
set_option maxHeartbeats 2000000 in
theorem takenField_bad (s : ByteArray) (w : World) (hs : s.size ≤ maxLen) (h : readO s = false) :
    Calls Tryz.prog 83 #[.string s] w fun e w' => e = .panicked (gone 400) ∧ Below w.heap.size w w' := by
  have HB := hideB2 (below_a1 w (.cells #[.string ⟨#[]⟩, .string ⟨#[]⟩] 75))
  have HR := hideB2 (fun W => ReadField_any s W hs)
  rw [h] at HR
  clear h hs
  generalize (readF s).1 = x at *
  generalize (readF s).2 = y at *
  go_enter Tryz.func83, Tryz.ntmps83
  go_wp2_with (first | (go_at_call 120; refine (HR.out _).mono ?_; rintro e w2 ⟨rfl, hb2⟩) | (go_at_call 54; refine (refuseIf_any _ _ _).mono ?_; rintro e w9 ⟨rfl, rfl⟩; simp only [refE]))
  exact ⟨rfl, rfl, below_then (below_then HB.out hb2) (below_a1 _ _)⟩
set_option maxRecDepth 100000 in
set_option maxHeartbeats 2000000 in
theorem takenField_ok (s : ByteArray) (w : World) (hs : s.size ≤ maxLen) (h : readO s = true) :
    Calls Tryz.prog 83 #[.string s] w fun e w' => e = .returned (.agg #[.string (readF s).1, .string (readF s).2]) ∧ Below w.heap.size w w' := by
  have HB := hideB2 (below_a1 w (.cells #[.string ⟨#[]⟩, .string ⟨#[]⟩] 75))
  have A1 := hideB2 (Blk.new w #[.string ⟨#[]⟩, .string ⟨#[]⟩] 75)
  have HR := hideB2 (fun W => ReadField_any s W hs)
  rw [h] at HR
  clear h hs
  generalize (readF s).1 = x at *
  generalize (readF s).2 = y at *
  go_enter Tryz.func83, Tryz.ntmps83
  go_wp2_with fail
  refine (HR.out _).mono ?_
  rintro e w2 ⟨rfl, hb2⟩
  have A3 := A1.out.later hb2
  have hlt := A3.lt
  obtain ⟨p0, p1⟩ := A3.c2
  have f0 := A3.free 0
  have f1 := A3.free 1
  have HA3 := hideB2 A3
  have HB2 := hideB2 (below_then HB.out hb2)
  clear A3 hb2
  go_wp2_with (go_at_call 54; refine (refuseIf_any _ _ _).mono ?_; rintro e w9 ⟨rfl, rfl⟩; simp only [refE])
  refine bodyPost_ret (results_cellS rfl _ _ _ rfl ((HA3.out.set2 _ _).alloc _) Tryz.underlying75 Tryz.infoField) rfl ⟨rfl, ?_⟩
  exact below_alloc' (below_set2 HB2.out (Nat.le_refl _) _ _) (Nat.le_refl _) _
set_option maxRecDepth 100000 in
set_option maxHeartbeats 2000000 in
theorem chunkSize_bad1 (s : ByteArray) (k : Nat) (w : World) (hs : s.size ≤ maxLen) (hk : k ≤ s.size) (h : lnQ s k = false) :
    Calls Tryz.prog 126 #[.agg #[.string s, .int .i64 (k : Int)]] w fun e w' => e = .panicked (gone 400) ∧ Below w.heap.size w w' := by
  have HB := hideB2 (below_a2 w (.cells #[.string s, .int .i64 (k : Int)] 88) (.cells #[.string ⟨#[]⟩, .int .i64 0] 88))
  have HL := hideB2 (fun W => chunkLine_bad s k W hs hk h)
  clear h hs hk
  go_enter Tryz.func126, Tryz.ntmps126
  go_wp2_with (go_at_call 169; refine (HL.out _).mono ?_; rintro e w2 ⟨rfl, hb2⟩)
  exact ⟨rfl, rfl, below_then HB.out hb2⟩
theorem cutS_any (L : ByteArray) (hL : L.size ≤ maxLen) : ∃ y q, ∀ W, Calls Tryz.prog 161 #[.string L, .string ⟨#[59]⟩] W fun e w' => e = .returned (.tuple #[.string (uptoS L), .string y, .bool q]) ∧ Below W.heap.size W w' := by
  rcases idxS_cases L with hi | ⟨i, hi, hlt⟩
  · refine ⟨⟨#[]⟩, false, fun W => ?_⟩
    rw [uptoS_none hi]
    exact CutS_none L W hi
  · refine ⟨L.extract (i + 1) L.size, true, fun W => ?_⟩
    rw [uptoS_some hi]
    exact CutS_some L i W hi hlt hL
set_option maxRecDepth 100000 in
set_option maxHeartbeats 2000000 in
theorem chunkSize_bad2 (s : ByteArray) (k : Nat) (w : World) (hs : s.size ≤ maxLen) (hk : k ≤ s.size) (h : lnQ s k = true) (h2 : rhexOk (uptoS (lineAt s k)) = false) :
    Calls Tryz.prog 126 #[.agg #[.string s, .int .i64 (k : Int)]] w fun e w' => e = .panicked (gone 400) ∧ Below w.heap.size w w' := by
  have HB := hideB2 (below_a2 w (.cells #[.string s, .int .i64 (k : Int)] 88) (.cells #[.string ⟨#[]⟩, .int .i64 0] 88))
  have HL := hideB2 (fun W => chunkLine_ok s k W hs hk h)
  have hz := lineAt_size hk
  have hE := tlE_ok hk (lnQ_iff.1 h).1
  have hL : (lineAt s k).size ≤ maxLen := by unfold maxLen at *; omega
  obtain ⟨y, q, hcut⟩ := cutS_any (lineAt s k) hL
  have HC := hideB2 hcut
  have HX := hideB2 (fun W => ReadHex_any (uptoS (lineAt s k)) W (Nat.le_trans (uptoS_size _) hL))
  rw [h2] at HX
  clear h hcut hz hL h2 hs
  generalize uptoS (lineAt s k) = U at *
  generalize rhexN U = N at *
  generalize lineAt s k = L at *
  generalize tlE s k = E at *
  go_enter Tryz.func126, Tryz.ntmps126
  go_wp2_with (first | (go_at_call 169; refine (HL.out _).mono ?_; rintro e w2 ⟨rfl, hb2⟩) | (go_at_call 161; refine (HC.out _).mono ?_; rintro e w3 ⟨rfl, hb3⟩) | (go_at_call 170; refine (HX.out _).mono ?_; rintro e w4 ⟨rfl, rfl⟩) | (go_at_call 54; refine (refuseIf_any _ _ _).mono ?_; rintro e w9 ⟨rfl, rfl⟩; simp only [refE]))
  exact ⟨rfl, rfl, below_then (below_then (below_then HB.out hb2) (below_a1 _ _)) hb3⟩
set_option maxRecDepth 100000 in
set_option maxHeartbeats 2000000 in
theorem chunkSize_ok (s : ByteArray) (k : Nat) (w : World) (hs : s.size ≤ maxLen) (hk : k ≤ s.size) (h : lnQ s k = true) (h2 : rhexOk (uptoS (lineAt s k)) = true) :
    Calls Tryz.prog 126 #[.agg #[.string s, .int .i64 (k : Int)]] w fun e w' => e = .returned (.tuple #[.int .i64 (rhexN (uptoS (lineAt s k))), .agg #[.string s, .int .i64 ((tlE s k : Int) + 2)]]) ∧ Below w.heap.size w w' := by
  have HB := hideB2 (below_a2 w (.cells #[.string s, .int .i64 (k : Int)] 88) (.cells #[.string ⟨#[]⟩, .int .i64 0] 88))
  have A2 := hideB2 (show Blk ((w.alloc (.cells #[.string s, .int .i64 (k : Int)] 88)).alloc (.cells #[.string ⟨#[]⟩, .int .i64 0] 88)) (w.heap.size + 1) #[.string ⟨#[]⟩, .int .i64 0] 88 by
    have := Blk.new (w.alloc (.cells #[.string s, .int .i64 (k : Int)] 88)) #[.string ⟨#[]⟩, .int .i64 0] 88
    simpa using this)
  have HL := hideB2 (fun W => chunkLine_ok s k W hs hk h)
  have hz := lineAt_size hk
  have hE := tlE_ok hk (lnQ_iff.1 h).1
  have hL : (lineAt s k).size ≤ maxLen := by unfold maxLen at *; omega
  obtain ⟨y, q, hcut⟩ := cutS_any (lineAt s k) hL
  have HC := hideB2 hcut
  have HX := hideB2 (fun W => ReadHex_any (uptoS (lineAt s k)) W (Nat.le_trans (uptoS_size _) hL))
  rw [h2] at HX
  clear h hcut hz hL h2 hs
  generalize uptoS (lineAt s k) = U at *
  generalize rhexN U = N at *
  generalize lineAt s k = L at *
  generalize tlE s k = E at *
  go_enter Tryz.func126, Tryz.ntmps126
  go_wp2_with fail
  refine (HL.out _).mono ?_
  rintro e w2 ⟨rfl, hb2⟩
  have A3 := (A2.out.later hb2).alloc (.cells #[.string s, .int .i64 ((E : Int) + 2)] 88)
  have N3 := Blk.new w2 #[.string s, .int .i64 ((E : Int) + 2)] 88
  have hlt := (A2.out.later hb2).lt
  have hB2 := below_then (below_then HB.out hb2) (below_a1 _ (.cells #[.string s, .int .i64 ((E : Int) + 2)] 88))
  clear hb2
  go_wp2_with fail
  generalize hW : w2.alloc (.cells #[.string s, .int .i64 ((E : Int) + 2)] 88) = W3 at *
  clear hW
  generalize w2.heap.size = G at *
  refine (HC.out _).mono ?_
  rintro e w3 ⟨rfl, hb3⟩
  have A4 := A3.later hb3
  have N4 := N3.later hb3
  have HB4 := hideB2 (below_then hB2 hb3)
  clear A3 N3 hB2 hb3
  obtain ⟨p0, p1⟩ := A4.c2
  obtain ⟨q0, q1⟩ := N4.c2
  have f0 := A4.free 0
  have f1 := A4.free 1
  have HA4 := hideB2 A4
  clear A4 N4
  go_wp2_with (first | (go_at_call 170; refine (HX.out _).mono ?_; rintro e w4 ⟨rfl, rfl⟩) | (go_at_call 54; refine (refuseIf_any _ _ _).mono ?_; rintro e w9 ⟨rfl, rfl⟩; simp only [refE]))
  go_region
  go_wp2
  refine bodyPost_ret (results_tmpC rfl _ _ _ rfl (HA4.out.set2 _ _) Tryz.underlying88 Tryz.infoCur) rfl ⟨rfl, ?_⟩
  exact (below_set2 (g := w.heap.size + 1) HB4.out (by omega) _ _).drew
end Go.Proofs.YtodandipfjamnaaGreatDoor
