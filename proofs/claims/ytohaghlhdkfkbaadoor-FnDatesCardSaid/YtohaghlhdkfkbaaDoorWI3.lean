/-
  The walks over chapter 2: impl.ReadHttpDate.
-/
import Derived.Test.YtohaghlhdkfkbaaDoorWR3
import Derived.Test.YtohaghlhdkfkbaaDoorWR4
import Derived.Test.YtohaghlhdkfkbaaDoorWR5
import Derived.Test.YtohaghlhdkfkbaaDoorMZ
namespace Go.Proofs.YtohaghlhdkfkbaaDoor
set_option linter.unusedVariables false
set_option linter.unusedSimpArgs false
open Go.RowKit
theorem try_http (a : ByteArray) : ∃ (Y M D H I S t : Int) (b : Bool), Res (IsF 9999 httpF a) t b ∧
    (∀ w, NamTab w → Calls Tryd.prog 50 #[.string a] w fun e w' => e = .returned (civ Y M D H I S) ∧ Below w.heap.size w w') ∧
    (∀ w, Tabs w → Calls Tryd.prog 49 #[.string a, civ Y M D H I S, .func (.func 14) #[] #[]] w fun e w' => e = .returned (.tuple #[.int .i64 t, .bool b]) ∧ Below w.heap.size w w') := by
  by_cases hsz : a.size = 29
  · have hr := http_reads a
    have hp := fun w (hN : NamTab w) => httpParts_yes a w hsz hN
    cases hv : vldB (nval (a.extract 12 16)) (monOf (a.extract 8 11)) (nval (a.extract 5 7)) (nval ((a.extract 17 25).extract 0 2)) (nval ((a.extract 17 25).extract 3 5)) (nval ((a.extract 17 25).extract 6 8))
    · exact ⟨_, _, _, _, _, _, 0, false, .inr ⟨rfl, rfl, hr.none_of hv⟩, hp, fun w hT => timeWrittenHttpDate_no a _ _ _ _ _ _ w hT.mon hv⟩
    · obtain ⟨y, m, d, h, i, s, e1, e2, e3, e4, e5, e6, v⟩ := nats_of hv
      rw [e1, e2, e3, e4, e5, e6] at hr
      have hp' : ∀ w, NamTab w → Calls Tryd.prog 50 #[.string a] w fun e w' => e = .returned (civ y m d h i s) ∧ Below w.heap.size w w' := by
        intro w hN
        have := hp w hN
        rw [e1, e2, e3, e4, e5, e6] at this
        exact this
      have hC := fun w (hT : Tabs w) => timeWrittenHttpDate_yes a (httpB (wdN (secs y m d h i s)) y m d h i s) y m d h i s _ w hT.mon v rfl (fun W hW => HttpDate_yes _ y m d h i s W (hT.below hW) v rfl)
      cases he : eqB a (httpB (wdN (secs y m d h i s)) y m d h i s)
      · refine ⟨_, _, _, _, _, _, 0, false, .inr ⟨rfl, rfl, hr.none_ne fun hh => ?_⟩, hp', fun w hT => ?_⟩
        · have := eqB_self (httpB (wdN (secs y m d h i s)) y m d h i s)
          rw [show a = httpB (wdN (secs y m d h i s)) y m d h i s from hh, this] at he
          cases he
        · have h' := hC w hT
          rw [he, show rdT a (httpB (wdN (secs y m d h i s)) y m d h i s) (secs y m d h i s) = 0 by unfold rdT; rw [he]; rfl] at h'
          exact h'
      · refine ⟨_, _, _, _, _, _, secs y m d h i s, true, .inl ⟨rfl, y, m, d, h, i, s, v, by have := (vbd v).2.1; omega, rfl, eqB_iff.1 he⟩, hp', fun w hT => ?_⟩
        have h' := hC w hT
        rw [he, show rdT a (httpB (wdN (secs y m d h i s)) y m d h i s) (secs y m d h i s) = secs y m d h i s by unfold rdT; rw [he]; rfl] at h'
        exact h'
  · exact ⟨0, 0, 0, 0, 0, 0, 0, false, .inr ⟨rfl, rfl, fun t ht => hsz (by have := httpF_size ht; omega)⟩, fun w _ => httpParts_no a w (by omega), fun w hT => timeWrittenHttpDate_no a 0 0 0 0 0 0 w hT.mon (by decide)⟩
theorem try_line (a : ByteArray) : ∃ (Y M D H I S t : Int) (b : Bool), Res (IsF 9999 lineF a) t b ∧
    (∀ w, NamTab w → Calls Tryd.prog 52 #[.string a] w fun e w' => e = .returned (civ Y M D H I S) ∧ Below w.heap.size w w') ∧
    (∀ w, Tabs w → Calls Tryd.prog 49 #[.string a, civ Y M D H I S, .func (.func 19) #[] #[]] w fun e w' => e = .returned (.tuple #[.int .i64 t, .bool b]) ∧ Below w.heap.size w w') := by
  by_cases hsz : a.size = 24
  · have hr := line_reads a
    have hp := fun w (hN : NamTab w) => lineParts_yes a w hsz hN
    cases hv : vldB (nval (a.extract 20 24)) (monOf (a.extract 4 7)) (nval (a.extract 8 10)) (nval ((a.extract 11 19).extract 0 2)) (nval ((a.extract 11 19).extract 3 5)) (nval ((a.extract 11 19).extract 6 8))
    · exact ⟨_, _, _, _, _, _, 0, false, .inr ⟨rfl, rfl, hr.none_of hv⟩, hp, fun w hT => timeWrittenLineDate_no a _ _ _ _ _ _ w hT.mon hv⟩
    · obtain ⟨y, m, d, h, i, s, e1, e2, e3, e4, e5, e6, v⟩ := nats_of hv
      rw [e1, e2, e3, e4, e5, e6] at hr
      have hp' : ∀ w, NamTab w → Calls Tryd.prog 52 #[.string a] w fun e w' => e = .returned (civ y m d h i s) ∧ Below w.heap.size w w' := by
        intro w hN
        have := hp w hN
        rw [e1, e2, e3, e4, e5, e6] at this
        exact this
      have hC := fun w (hT : Tabs w) => timeWrittenLineDate_yes a (lineB (wdN (secs y m d h i s)) y m d h i s) y m d h i s _ w hT.mon v rfl (fun W hW => LineDate_yes _ y m d h i s W (hT.below hW) v rfl)
      cases he : eqB a (lineB (wdN (secs y m d h i s)) y m d h i s)
      · refine ⟨_, _, _, _, _, _, 0, false, .inr ⟨rfl, rfl, hr.none_ne fun hh => ?_⟩, hp', fun w hT => ?_⟩
        · have := eqB_self (lineB (wdN (secs y m d h i s)) y m d h i s)
          rw [show a = lineB (wdN (secs y m d h i s)) y m d h i s from hh, this] at he
          cases he
        · have h' := hC w hT
          rw [he, show rdT a (lineB (wdN (secs y m d h i s)) y m d h i s) (secs y m d h i s) = 0 by unfold rdT; rw [he]; rfl] at h'
          exact h'
      · refine ⟨_, _, _, _, _, _, secs y m d h i s, true, .inl ⟨rfl, y, m, d, h, i, s, v, by have := (vbd v).2.1; omega, rfl, eqB_iff.1 he⟩, hp', fun w hT => ?_⟩
        have h' := hC w hT
        rw [he, show rdT a (lineB (wdN (secs y m d h i s)) y m d h i s) (secs y m d h i s) = secs y m d h i s by unfold rdT; rw [he]; rfl] at h'
        exact h'
  · exact ⟨0, 0, 0, 0, 0, 0, 0, false, .inr ⟨rfl, rfl, fun t ht => hsz (by have := lineF_size ht; omega)⟩, fun w _ => lineParts_no a w (by omega), fun w hT => timeWrittenLineDate_no a 0 0 0 0 0 0 w hT.mon (by decide)⟩
theorem try_long (a : ByteArray) (hmax : a.size ≤ maxLen) : ∃ (Y M D H I S t : Int) (b : Bool), Res (IsF 2069 longF a) t b ∧
    (∀ w, NamTab w → Calls Tryd.prog 51 #[.string a] w fun e w' => e = .returned (civ Y M D H I S) ∧ Below w.heap.size w w') ∧
    (∀ w, Tabs w → Calls Tryd.prog 49 #[.string a, civ Y M D H I S, .func (.func 22) #[] #[]] w fun e w' => e = .returned (.tuple #[.int .i64 t, .bool b]) ∧ Below w.heap.size w w') := by
  by_cases hsz : 24 ≤ a.size
  · obtain ⟨q, hq⟩ : ∃ q, a.size = q + 24 := ⟨a.size - 24, by omega⟩
    have hr := long_reads a q hq
    have hp := fun w (hN : NamTab w) => longParts_yes a q w hq hmax hN
    cases hv : vldB (yOf (nval ((a.extract q a.size).extract 9 11))) (monOf ((a.extract q a.size).extract 5 8)) (nval ((a.extract q a.size).extract 2 4)) (nval (((a.extract q a.size).extract 12 20).extract 0 2)) (nval (((a.extract q a.size).extract 12 20).extract 3 5)) (nval (((a.extract q a.size).extract 12 20).extract 6 8))
    · exact ⟨_, _, _, _, _, _, 0, false, .inr ⟨rfl, rfl, hr.none_of hv⟩, hp, fun w hT => timeWrittenLongDate_no a _ _ _ _ _ _ w hT.mon hv⟩
    · obtain ⟨y, m, d, h, i, s, e1, e2, e3, e4, e5, e6, v⟩ := nats_of hv
      have hy : y ≤ 2069 := by
        have h1 := yOf_le (nval_2 ((a.extract q a.size).extract 9 11) (by rw [ext_size _ 9 11 (by omega) (by rw [ext_size a q a.size (by omega) (by omega)]; omega)]; omega))
        omega
      rw [e1, e2, e3, e4, e5, e6] at hr
      have hp' : ∀ w, NamTab w → Calls Tryd.prog 51 #[.string a] w fun e w' => e = .returned (civ y m d h i s) ∧ Below w.heap.size w w' := by
        intro w hN
        have := hp w hN
        rw [e1, e2, e3, e4, e5, e6] at this
        exact this
      have hC := fun w (hT : Tabs w) => timeWrittenLongDate_yes a (longB (wdN (secs y m d h i s)) y m d h i s) y m d h i s _ w hT.mon v rfl (fun W hW => LongDate_yes _ y m d h i s W (hT.below hW) v rfl hy)
      cases he : eqB a (longB (wdN (secs y m d h i s)) y m d h i s)
      · refine ⟨_, _, _, _, _, _, 0, false, .inr ⟨rfl, rfl, hr.none_ne fun hh => ?_⟩, hp', fun w hT => ?_⟩
        · have := eqB_self (longB (wdN (secs y m d h i s)) y m d h i s)
          rw [show a = longB (wdN (secs y m d h i s)) y m d h i s from hh, this] at he
          cases he
        · have h' := hC w hT
          rw [he, show rdT a (longB (wdN (secs y m d h i s)) y m d h i s) (secs y m d h i s) = 0 by unfold rdT; rw [he]; rfl] at h'
          exact h'
      · refine ⟨_, _, _, _, _, _, secs y m d h i s, true, .inl ⟨rfl, y, m, d, h, i, s, v, hy, rfl, eqB_iff.1 he⟩, hp', fun w hT => ?_⟩
        have h' := hC w hT
        rw [he, show rdT a (longB (wdN (secs y m d h i s)) y m d h i s) (secs y m d h i s) = secs y m d h i s by unfold rdT; rw [he]; rfl] at h'
        exact h'
  · exact ⟨0, 0, 0, 0, 0, 0, 0, false, .inr ⟨rfl, rfl, fun t ht => hsz (by have := longF_size ht; omega)⟩, fun w _ => longParts_no a w (by omega), fun w hT => timeWrittenLongDate_no a 0 0 0 0 0 0 w hT.mon (by decide)⟩
set_option maxHeartbeats 4000000 in
theorem ReadHttpDate_ex (a : ByteArray) (hmax : a.size ≤ maxLen) : ∃ t b, Res (IsH a) t b ∧ ∀ w, Tabs w → Calls Tryd.prog 18 #[.string a] w fun e w' => e = .returned (.tuple #[.int .i64 t, .bool b]) ∧ Below w.heap.size w w' := by
  obtain ⟨Y1, M1, D1, H1, I1, S1, t1, b1, r1, p1, q1⟩ := try_http a
  obtain ⟨Y2, M2, D2, H2, I2, S2, t2, b2, r2, p2, q2⟩ := try_long a hmax
  obtain ⟨Y3, M3, D3, H3, I3, S3, t3, b3, r3, p3, q3⟩ := try_line a
  refine ⟨_, _, three_res r1 r2 r3, fun w hT => ?_⟩
  clear r1 r2 r3
  have P1 := hideB2 p1
  have P2 := hideB2 p2
  have P3 := hideB2 p3
  have Q1 := hideB2 q1
  have Q2 := hideB2 q2
  have Q3 := hideB2 q3
  clear p1 p2 p3 q1 q2 q3 hmax
  go_enter Tryd.func18, Tryd.ntmps18
  go_wp2_with fail
  refine (P1.out _ hT.nam).mono ?_
  rintro e w1 ⟨rfl, hb1⟩
  have hT1 := hT.below hb1
  go_wp2_with fail
  refine (Q1.out _ hT1).mono ?_
  rintro e w2 ⟨rfl, hb2⟩
  have hT2 := hT1.below hb2
  have g2 := below_then hb1 hb2
  clear hT hT1 hb1 hb2 P1 Q1
  cases b1
  · go_wp2_with fail
    refine (P2.out _ hT2.nam).mono ?_
    rintro e w3 ⟨rfl, hb3⟩
    have hT3 := hT2.below hb3
    go_wp2_with fail
    refine (Q2.out _ hT3).mono ?_
    rintro e w4 ⟨rfl, hb4⟩
    have hT4 := hT3.below hb4
    have g4 := below_then g2 (below_then hb3 hb4)
    clear hT2 hT3 hb3 hb4 g2 P2 Q2
    cases b2
    · go_wp2_with fail
      refine (P3.out _ hT4.nam).mono ?_
      rintro e w5 ⟨rfl, hb5⟩
      have hT5 := hT4.below hb5
      go_wp2_with fail
      refine (Q3.out _ hT5).mono ?_
      rintro e w6 ⟨rfl, hb6⟩
      have g6 := below_then g4 (below_then hb5 hb6)
      clear hT4 hT5 hb5 hb6 g4 P3 Q3
      go_wp2
      go_ret2
      exact ⟨rfl, g6⟩
    · go_wp2
      go_ret2
      exact ⟨rfl, g4⟩
  · go_wp2
    go_ret2
    exact ⟨rfl, g2⟩
end Go.Proofs.YtohaghlhdkfkbaaDoor
