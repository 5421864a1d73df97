/-
  Chapter 8: a kind's word, an id's text and back; both sides.
-/
import Derived.Test.YtffjpidjhcnnmaaDoorR1
import Derived.Test.YtffjpidjhcnnmaaDoorB0
import Derived.Test.YtffjpidjhcnnmaaDoorOpenK
import Derived.Test.YtffjpidjhcnnmaaDoorSTp
namespace Go.Proofs.YtffjpidjhcnnmaaDoor
set_option linter.unusedVariables false
set_option linter.unusedSimpArgs false
open Go.RowKit
set_option maxHeartbeats 1000000 in
theorem KindName_any (k : Int) (w : World) (hT : KindTab w) :
    Calls Tryd.prog 7 #[.int .i64 k] w fun e w' => e = .returned (.string (kindB k)) ∧ w' = w := by
  have HW := hideB2 (fun W => within_any k 0 4 W)
  by_cases h : 0 ≤ k ∧ k ≤ 4
  · rw [within_iff.2 h] at HW
    obtain ⟨j, rfl⟩ := Int.eq_ofNat_of_zero_le h.1
    have hj : j < 5 := by omega
    have hc := hT j hj
    generalize kindB (j : Int) = B at *
    clear hT h
    go_enter Tryd.func7, Tryd.ntmps7
    go_wp2_with (go_at_call 12; refine (HW.out _).mono ?_; rintro e w' ⟨rfl, rfl⟩)
    go_ret
    exact ⟨rfl, rfl⟩
  · rw [show withinB k 0 4 = false by
      cases hh : withinB k 0 4
      · rfl
      · exact absurd (within_iff.1 hh) h] at HW
    have hf := hideB2 (kindB_no h)
    clear h hT
    go_enter Tryd.func7, Tryd.ntmps7
    go_wp2_with (go_at_call 12; refine (HW.out _).mono ?_; rintro e w' ⟨rfl, rfl⟩)
    go_ret
    exact ⟨ret_str hf.out, rfl⟩
theorem kindB_if (k : Int) : kindB k = if (k == 0) = true then ⟨#[119, 97, 114, 99, 105, 110, 102, 111]⟩ else if (k == 1) = true then ⟨#[114, 101, 113, 117, 101, 115, 116]⟩ else if (k == 2) = true then ⟨#[114, 101, 115, 112, 111, 110, 115, 101]⟩
  else if (k == 3) = true then ⟨#[114, 101, 118, 105, 115, 105, 116]⟩ else if (k == 4) = true then ⟨#[109, 101, 116, 97, 100, 97, 116, 97]⟩ else ⟨#[]⟩ := by
  unfold kindB; simp only [beq_iff_eq]
set_option maxHeartbeats 1000000 in
theorem sKindName_any (k : Int) (w : World) :
    Calls Tryd.prog 6 #[.int .i64 k] w fun e w' => e = .returned (.string (kindB k)) ∧ w' = w := by
  go_enter Tryd.func6, Tryd.ntmps6
  go_wp2
  all_goals
    go_ret
    exact ⟨ret_str (by rw [kindB_if]; simp_all), rfl⟩
theorem idB_cat {n : Int} (h : 0 ≤ n ∧ n ≤ 999999) : (⟨#[60, 117, 114, 110, 58, 115, 116, 105, 108, 108, 114, 111, 111, 109, 58]⟩ ++ decT n) ++ ⟨#[62]⟩ = idB n := (idB_yes h).symm
set_option maxHeartbeats 1000000 in
theorem IdText_any (n : Int) (w : World) (hT : Tab10 w) :
    Calls Tryd.prog 9 #[.int .i64 n] w fun e w' => e = .returned (.string (idB n)) ∧ Below w.heap.size w w' := by
  have HW := hideB2 (fun W => within_any n 0 999999 W)
  by_cases h : 0 ≤ n ∧ n ≤ 999999
  · rw [within_iff.2 h] at HW
    have HD := hideB2 (DecText_all n w hT)
    have hz := decT_size n
    have HF := hideB2 (idB_cat h)
    generalize idB n = B at *
    generalize decT n = d at *
    clear hT h
    go_enter Tryd.func9, Tryd.ntmps9
    go_wp2_with (first | (go_at_call 12; refine (HW.out _).mono ?_; rintro e w' ⟨rfl, rfl⟩) | (go_at_call 14; refine HD.out.mono ?_; rintro e w1 ⟨rfl, hb1⟩))
    go_ret
    exact ⟨ret_str HF.out.symm, hb1⟩
  · rw [show withinB n 0 999999 = false by
      cases hh : withinB n 0 999999
      · rfl
      · exact absurd (within_iff.1 hh) h] at HW
    have hf := hideB2 (idB_no h)
    clear h hT
    go_enter Tryd.func9, Tryd.ntmps9
    go_wp2_with (go_at_call 12; refine (HW.out _).mono ?_; rintro e w' ⟨rfl, rfl⟩)
    go_ret
    exact ⟨ret_str hf.out, Below.refl _ _⟩
set_option maxHeartbeats 1000000 in
theorem sIdText_any (n : Int) (w : World) :
    Calls Tryd.prog 8 #[.int .i64 n] w fun e w' => e = .returned (.string (idB n)) ∧ Below w.heap.size w w' := by
  by_cases h : 0 ≤ n ∧ n ≤ 999999
  · have HD := hideB2 (sDecText_all n w)
    have hz := decT_size n
    have HF := hideB2 (idB_cat h)
    have h0 : ¬ n < 0 := by omega
    have h1 : ¬ (999999 : Int) < n := by omega
    generalize idB n = B at *
    generalize decT n = d at *
    clear h
    go_enter Tryd.func8, Tryd.ntmps8
    go_wp2_with (go_at_call 13; refine HD.out.mono ?_; rintro e w1 ⟨rfl, hb1⟩)
    go_ret
    exact ⟨ret_str HF.out.symm, hb1⟩
  · have hf := hideB2 (idB_no h)
    by_cases h0 : n < 0
    · clear h
      go_enter Tryd.func8, Tryd.ntmps8
      go_wp2
      go_ret
      exact ⟨ret_str hf.out, Below.refl _ _⟩
    · have h1 : (999999 : Int) < n := by omega
      clear h
      go_enter Tryd.func8, Tryd.ntmps8
      go_wp2
      go_ret
      exact ⟨ret_str hf.out, Below.refl _ _⟩
theorem ret_nb {n m : Int} {a b : Bool} (h : m = n) (h' : b = a) : Ending.returned (.tuple #[.int .i64 n, .bool a]) = .returned (.tuple #[.int .i64 m, .bool b]) := by rw [h, h']
set_option maxHeartbeats 2000000 in
theorem ReadId_any (s : ByteArray) (w : World) (hs : s.size ≤ maxLen) (hT : Tab10 w) :
    Calls Tryd.prog 11 #[.string s] w fun e w' => e = .returned (.tuple #[.int .i64 (ridN s), .bool (ridO s)]) ∧ Below w.heap.size w w' := by
  have hs' := hs
  unfold maxLen at hs'
  have HP := hideB2 (fun W => Any.strings_TrimPrefix Tryd.laysTp s idA W)
  have hz1 : (⟨(Lib.trimPrefix s.data.toList idA.data.toList).toArray⟩ : ByteArray).size ≤ 9223372036854775807 := by
    show (Lib.trimPrefix s.data.toList idA.data.toList).toArray.size ≤ _
    rw [List.size_toArray]
    have : (Lib.trimPrefix s.data.toList idA.data.toList).length ≤ s.data.toList.length := by unfold Lib.trimPrefix; split <;> simp
    rw [len_data] at this; omega
  have HS := hideB2 (fun W => Any.strings_TrimSuffix Tryd.laysTs ⟨(Lib.trimPrefix s.data.toList idA.data.toList).toArray⟩ ⟨#[62]⟩ W hz1)
  have hz2 := trmB_le s
  have HR := hideB2 (fun W => ReadDec_any (trmB s) W (by omega))
  have HI := hideB2 (fun W (h : Tab10 W) => IdText_any (rdecN (trmB s)) W h)
  obtain ⟨q1, q2⟩ := rid_trm s
  have q3 := ridN_no (s := s)
  have HE := hideB2 (show ∀ e : ByteArray, e = ⟨(Lib.trimSuffix (⟨(Lib.trimPrefix s.data.toList idA.data.toList).toArray⟩ : ByteArray).data.toList (⟨#[62]⟩ : ByteArray).data.toList).toArray⟩ → e = trmB s from fun e h => h.trans rfl)
  generalize ridO s = O at *
  generalize ridN s = N at *
  cases hok : rdecOk (trmB s)
  · rw [hok] at q1 HR
    rw [Bool.false_and] at q1
    subst q1
    have HN := hideB2 (q3 rfl)
    clear q2 q3 hok
    go_enter Tryd.func11, Tryd.ntmps11
    go_wp2_with fail
    refine (HP.out _).mono ?_
    rintro e w1 ⟨rfl, rfl⟩
    go_wp2_with fail
    refine (HS.out _).mono ?_
    rintro e w1 ⟨rfl, rfl⟩
    generalize hgg : (⟨(Lib.trimSuffix (⟨(Lib.trimPrefix s.data.toList idA.data.toList).toArray⟩ : ByteArray).data.toList (⟨#[62]⟩ : ByteArray).data.toList).toArray⟩ : ByteArray) = g
    obtain rfl := HE.out g hgg.symm
    clear hgg
    go_wp2_with (go_at_call 16; refine (HR.out _).mono ?_; rintro e w' ⟨rfl, rfl⟩)
    go_ret2
    exact ⟨ret_nb HN.out rfl, Below.refl _ _⟩
  · rw [hok] at q1 HR
    rw [Bool.true_and] at q1
    unfold eqB at q1
    have hbz := idB_le (rdecN (trmB s))
    cases O
    · have HN := hideB2 (q3 rfl)
      clear q2 q3 hok
      generalize rdecN (trmB s) = M at *
      generalize idB M = B at *
      go_enter Tryd.func11, Tryd.ntmps11
      go_wp2_with fail
      refine (HP.out _).mono ?_
      rintro e w1 ⟨rfl, rfl⟩
      go_wp2_with fail
      refine (HS.out _).mono ?_
      rintro e w1 ⟨rfl, rfl⟩
      generalize hgg : (⟨(Lib.trimSuffix (⟨(Lib.trimPrefix s.data.toList idA.data.toList).toArray⟩ : ByteArray).data.toList (⟨#[62]⟩ : ByteArray).data.toList).toArray⟩ : ByteArray) = g
      obtain rfl := HE.out g hgg.symm
      clear hgg
      go_wp2_with (first | (go_at_call 16; refine (HR.out _).mono ?_; rintro e w' ⟨rfl, rfl⟩) | (go_at_call 9; refine (HI.out _ hT).mono ?_; rintro e w2 ⟨rfl, hb2⟩))
      go_ret2
      exact ⟨ret_nb HN.out rfl, hb2⟩
    · have HN := hideB2 (q2 rfl)
      clear q2 q3 hok
      generalize rdecN (trmB s) = M at *
      generalize idB M = B at *
      go_enter Tryd.func11, Tryd.ntmps11
      go_wp2_with fail
      refine (HP.out _).mono ?_
      rintro e w1 ⟨rfl, rfl⟩
      go_wp2_with fail
      refine (HS.out _).mono ?_
      rintro e w1 ⟨rfl, rfl⟩
      generalize hgg : (⟨(Lib.trimSuffix (⟨(Lib.trimPrefix s.data.toList idA.data.toList).toArray⟩ : ByteArray).data.toList (⟨#[62]⟩ : ByteArray).data.toList).toArray⟩ : ByteArray) = g
      obtain rfl := HE.out g hgg.symm
      clear hgg
      go_wp2_with (first | (go_at_call 16; refine (HR.out _).mono ?_; rintro e w' ⟨rfl, rfl⟩) | (go_at_call 9; refine (HI.out _ hT).mono ?_; rintro e w2 ⟨rfl, hb2⟩))
      go_ret2
      exact ⟨ret_nb HN.out.symm rfl, hb2⟩
set_option maxHeartbeats 2000000 in
theorem sReadId_any (s : ByteArray) (w : World) (hs : s.size ≤ maxLen) :
    Calls Tryd.prog 10 #[.string s] w fun e w' => e = .returned (.tuple #[.int .i64 (ridN s), .bool (ridO s)]) ∧ Below w.heap.size w w' := by
  unfold maxLen at hs
  by_cases h0 : (s.size : Int) < 17
  · have ho : ridO s = false := by unfold ridO; rw [decide_eq_false (by omega)]; rfl
    have HN := hideB2 (ridN_no ho)
    rw [ho]
    go_enter Tryd.func10, Tryd.ntmps10
    go_wp2
    go_ret2
    exact ⟨ret_nb HN.out rfl, Below.refl _ _⟩
  · by_cases h1 : (22 : Int) < (s.size : Int)
    · have ho : ridO s = false := by unfold ridO; rw [decide_eq_false (by omega)]; rfl
      have HN := hideB2 (ridN_no ho)
      rw [ho]
      go_enter Tryd.func10, Tryd.ntmps10
      go_wp2
      go_ret2
      exact ⟨ret_nb HN.out rfl, Below.refl _ _⟩
    · have e1 : IntKind.i64.wrap ((s.size : Int) - 1) = (s.size : Int) - 1 := by rw [IntKind.wrap_i64]; omega
      have c1 : (15 : Int) ≤ (s.size : Int) - 1 := by omega
      have c2 : (s.size : Int) - 1 ≤ (s.size : Int) := by omega
      have n1 : ((s.size : Int) - 1).toNat = s.size - 1 := by omega
      have hz : (midB s).size ≤ maxLen := by unfold midB maxLen; rw [ByteArray.size_extract]; omega
      have HR := hideB2 (fun W => sReadDec_any (midB s) W hz)
      have HI := hideB2 (fun W => sIdText_any (rdecN (midB s)) W)
      have q1 : ridO s = (rdecOk (midB s) && eqB (idB (rdecN (midB s))) s) := by unfold ridO; rw [decide_eq_true (by omega), Bool.true_and]
      have q2 : ridO s = true → rdecN (midB s) = ridN s := by intro h; unfold ridN; rw [if_pos h]
      have q3 := ridN_no (s := s)
      have hm : s.extract 15 (s.size - 1) = midB s := rfl
      have hbz := idB_le (rdecN (midB s))
      generalize ridO s = O at *
      generalize ridN s = N at *
      generalize midB s = m at *
      generalize rdecN m = M at *
      generalize idB M = B at *
      generalize hok : rdecOk m = ok at *
      clear hok hz
      cases ok
      · rw [Bool.false_and] at q1
        subst q1
        have HN := hideB2 (q3 rfl)
        clear q2 q3
        go_enter Tryd.func10, Tryd.ntmps10
        go_wp2_with fail
        refine (HR.out _).mono ?_
        rintro e w1 ⟨rfl, hb1⟩
        go_wp2
        go_ret2
        exact ⟨ret_nb HN.out rfl, hb1⟩
      · rw [Bool.true_and] at q1
        unfold eqB at q1
        cases O
        · have HN := hideB2 (q3 rfl)
          clear q2 q3
          have q1' := q1.symm
          clear q1
          go_enter Tryd.func10, Tryd.ntmps10
          go_wp2_with fail
          refine (HR.out _).mono ?_
          rintro e w1 ⟨rfl, hb1⟩
          go_wp2_with (go_at_call 8; refine (HI.out _).mono ?_; rintro e w2 ⟨rfl, hb2⟩)
          go_ret2
          exact ⟨ret_nb HN.out rfl, below_then hb1 hb2⟩
        · have HN := hideB2 (q2 rfl)
          clear q2 q3
          have q1' := q1.symm
          clear q1
          go_enter Tryd.func10, Tryd.ntmps10
          go_wp2_with fail
          refine (HR.out _).mono ?_
          rintro e w1 ⟨rfl, hb1⟩
          go_wp2_with (go_at_call 8; refine (HI.out _).mono ?_; rintro e w2 ⟨rfl, hb2⟩)
          go_ret2
          exact ⟨ret_nb HN.out.symm rfl, below_then hb1 hb2⟩
end Go.Proofs.YtffjpidjhcnnmaaDoor
