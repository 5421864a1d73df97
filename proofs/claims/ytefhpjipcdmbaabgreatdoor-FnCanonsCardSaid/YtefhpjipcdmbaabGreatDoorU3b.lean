/-
  Chapter 7: a path in its one form; the program's side.
-/
import Derived.Test.YtefhpjipcdmbaabGreatDoorU3
import Derived.Lib.IndexAny
namespace Go.Proofs.YtefhpjipcdmbaabGreatDoor
set_option linter.unusedVariables false
set_option linter.unusedSimpArgs false
open Go.RowKit
theorem keptL_le (l : List ByteArray) : (keptL l).length ≤ l.length + 1 ∧ sumS (keptL l) ≤ sumS l := by
  have h := keepL_le l
  unfold keptL
  split
  · have e : sumS (keepL l ++ [⟨#[]⟩]) = sumS (keepL l) := by simp [sumS]; rfl
    rw [List.length_append, List.length_singleton, e]; omega
  · omega
theorem joinS_size (c : UInt8) (l : List ByteArray) : (joinS c l).size ≤ l.length + sumS l := by
  cases l with
  | nil => show (0 : Nat) ≤ _; omega
  | cons x r =>
    have h1 := congrArg List.length (joinS_tail c x r)
    rw [tailS_len, List.length_cons, len_data] at h1
    omega
theorem clnL_join (l : List ByteArray) : (⟨#[47]⟩ : ByteArray) ++ joinS 47 l = clnL l := by
  apply bytes_ext
  rw [Go.Joins.data_append]
  cases l with
  | nil => rfl
  | cons x r =>
    unfold clnL
    rw [if_neg (by simp)]
    exact joinS_tail 47 x r
theorem splS_le (c : UInt8) (s : ByteArray) : (splS c s).length ≤ s.size + 1 ∧ sumS (splS c s) ≤ s.size := by
  have h1 := splS_len c s
  have h2 := splS_cnt c s
  have h3 := splS_sum c s.size s (Nat.le_refl _)
  omega
def slash1 (s : ByteArray) : Bool := decide (0 < s.size) && (at8 s 0 == 47)
theorem ext1_eq {s : ByteArray} (h : 0 < s.size) (c : UInt8) : ((s.extract 0 1).toList == [c]) = (at8 s 0 == c) := by
  rw [ByteArray.toList_eq, Lib.extract_data, drop_at8 (i := 0) h]
  simp
set_option maxHeartbeats 1000000 in
theorem HasPre1_any (s : ByteArray) (w : World) (hs : s.size ≤ maxLen) :
    Calls Tryz.prog 31 #[.string s, .string ⟨#[47]⟩] w fun e w' => e = .returned (.bool (slash1 s)) ∧ w' = w := by
  unfold maxLen at hs
  by_cases h0 : s.size = 0
  · have e : slash1 s = false := by unfold slash1; rw [h0]; rfl
    have h1 : ¬ (1 : Int) ≤ (s.size : Int) := by omega
    rw [e]
    clear e
    go_enter Tryz.func31, Tryz.ntmps31
    go_wp2
    go_ret
    exact ⟨rfl, rfl⟩
  · have e : slash1 s = (at8 s 0 == 47) := by unfold slash1; rw [decide_eq_true (by omega)]; rfl
    have h1 : (1 : Int) ≤ (s.size : Int) := by omega
    have h2 := ext1_eq (s := s) (by omega) 47
    rw [e]
    clear e h0
    generalize (at8 s 0 == 47) = q at *
    go_enter Tryz.func31, Tryz.ntmps31
    go_wp2
    go_ret
    exact ⟨by first | rfl | (rw [h2]), rfl⟩
theorem vis_ascii {s : ByteArray} (h : targQ s = true) : ∀ (j : Nat) (b : UInt8), s.data.toList[j]? = some b → b.toNat < 128 := by
  intro j b hj
  have h1 := (targQ_iff.1 h).2.2
  unfold allB at h1
  rw [List.all_eq_true] at h1
  have h2 := h1 b (List.mem_of_getElem? hj)
  unfold vis8 visP at h2
  simp at h2
  omega
theorem nof_mem (b : UInt8) : [35, 63].contains b = !nof8 b := by
  unfold nof8
  by_cases h1 : b = 35
  · subst h1; rfl
  · by_cases h2 : b = 63
    · subst h2; rfl
    · rw [bne_iff_ne.2 h1, bne_iff_ne.2 h2]
      simp [h1, h2]
theorem nof_list (l : List UInt8) : Lib.containsAny l [35, 63] = !l.all nof8 := by
  unfold Lib.containsAny
  induction l with
  | nil => rfl
  | cons b l ih =>
    have hge := Lib.indexAny_ge [35, 63] l
    rw [Lib.indexAny, nof_mem, List.all_cons]
    cases hb : nof8 b
    · simp
    · rw [Bool.true_and, ← ih]
      simp only [Bool.not_true, Bool.false_eq_true, if_false]
      by_cases h : Lib.indexAny l [35, 63] = -1
      · rw [if_pos (beq_iff_eq.2 h), h]
      · rw [if_neg (fun e => h (beq_iff_eq.1 e))]
        rw [decide_eq_true (by omega), decide_eq_true (by omega)]
theorem nof_any (s : ByteArray) : Lib.containsAny s.data.toList [35, 63] = !allB nof8 s := nof_list _
theorem ContNof_any (s : ByteArray) (w : World) (h : targQ s = true) :
    Calls Tryz.prog 45 #[.string s, .string ⟨#[35, 63]⟩] w fun e w' => e = .returned (.bool (!allB nof8 s)) ∧ Below w.heap.size w w' := by
  have hz := (targQ_iff.1 h).2.1
  refine (Any.strings_ContainsAny_laid Tryz.lays150 (by kernel_rfl) s ⟨#[35, 63]⟩ w (by omega) (by decide) (vis_ascii h) ?_).mono ?_
  · intro j b hj
    have hm := List.mem_of_getElem? hj
    simp only [List.mem_cons, List.not_mem_nil, or_false] at hm
    rcases hm with rfl | rfl <;> decide
  · rintro e w' ⟨rfl, hb⟩
    exact ⟨ret_bool (nof_any s).symm, hb⟩
theorem pthQ_no1 {s : ByteArray} (h : slash1 s = false) : pthQ s = false := by
  unfold pthQ
  cases ht : targQ s
  · rfl
  · have h0 := (targQ_iff.1 ht).1
    unfold slash1 at h
    rw [decide_eq_true (by omega), Bool.true_and] at h
    rw [h]; rfl
theorem pthQ_no2 {s : ByteArray} (h : targQ s = false) : pthQ s = false := by unfold pthQ; rw [h]; rfl
theorem pthQ_no3 {s : ByteArray} (h : allB nof8 s = false) : pthQ s = false := by unfold pthQ; rw [h, Bool.and_false]
theorem pthQ_yes {s : ByteArray} (h1 : slash1 s = true) (h2 : targQ s = true) (h3 : allB nof8 s = true) : pthQ s = true := by
  unfold pthQ
  unfold slash1 at h1
  rw [Bool.and_eq_true] at h1
  rw [h2, h1.2, h3]; rfl
theorem clnB_no {s : ByteArray} (h : pthQ s = false) : clnB s = ⟨#[]⟩ := by unfold clnB; rw [if_neg (by rw [h]; simp)]
theorem clnB_yes {s : ByteArray} (h : pthQ s = true) : clnB s = clnL (keptL (splS 47 (evB (s.extract 1 s.size)))) := by unfold clnB; rw [if_pos h]
set_option maxHeartbeats 4000000 in
theorem CleanPath_any (s : ByteArray) (w : World) (hs : s.size ≤ maxLen) :
    Calls Tryz.prog 14 #[.string s] w fun e w' => e = .returned (.string (clnB s)) ∧ Below w.heap.size w w' := by
  have H1 := hideB2 (fun W => HasPre1_any s W hs)
  cases q1 : slash1 s
  · rw [clnB_no (pthQ_no1 q1)]
    rw [q1] at H1
    clear q1
    go_enter Tryz.func14, Tryz.ntmps14
    go_wp2_with (go_at_call 31; refine (H1.out _).mono ?_; rintro e w' ⟨rfl, rfl⟩)
    go_ret
    exact ⟨rfl, Below.refl _ _⟩
  · rw [q1] at H1
    have H2 := hideB2 (fun W => targetOk_any s W hs)
    cases q2 : targQ s
    · rw [clnB_no (pthQ_no2 q2)]
      rw [q2] at H2
      clear q1 q2
      go_enter Tryz.func14, Tryz.ntmps14
      go_wp2_with (first | (go_at_call 31; refine (H1.out _).mono ?_; rintro e w' ⟨rfl, rfl⟩) | (go_at_call 29; refine (H2.out _).mono ?_; rintro e w' ⟨rfl, rfl⟩))
      go_ret
      exact ⟨rfl, Below.refl _ _⟩
    · rw [q2] at H2
      have H3 := hideB2 (fun W => ContNof_any s W q2)
      cases q3 : allB nof8 s
      · rw [clnB_no (pthQ_no3 q3)]
        rw [q3] at H3
        clear q1 q2 q3
        go_enter Tryz.func14, Tryz.ntmps14
        go_wp2_with (first | (go_at_call 31; refine (H1.out _).mono ?_; rintro e w' ⟨rfl, rfl⟩) | (go_at_call 29; refine (H2.out _).mono ?_; rintro e w' ⟨rfl, rfl⟩) | (go_at_call 45; refine (H3.out _).mono ?_; rintro e w' ⟨rfl, hb⟩))
        go_ret
        exact ⟨rfl, hb⟩
      · rw [q3] at H3
        rw [clnB_yes (pthQ_yes q1 q2 q3)]
        have hz := (targQ_iff.1 q2).2.1
        have hz1 := (targQ_iff.1 q2).1
        have c1 : (1 : Int) ≤ (s.size : Int) := by omega
        have hx : (s.extract 1 s.size).size ≤ 200 := by rw [ByteArray.size_extract]; omega
        clear q1 q2 q3
        generalize hxx : s.extract 1 s.size = x at *
        have H4 := hideB2 (fun W => evenPercents_any x W (by omega))
        have hev := evB_size x
        generalize evB x = y at *
        have H5 := hideB2 (fun W => SplitS_any y 47 W (by omega))
        have hsp := splS_le 47 y
        generalize splS 47 y = L at *
        have H6 := hideB2 (fun w0 w1 v (h : BufS w0 w1 v L) => keptPieces_any v L w0 w1 h (by omega))
        have hkp := keptL_le L
        generalize keptL L = K at *
        have H7 := hideB2 (fun w0 w1 v (h : BufS w0 w1 v K) => JoinS_any w0 w1 v 47 K h (by omega) (by have := joinS_size 47 K; omega))
        have HR := hideB2 (clnL_join K)
        have hjs := joinS_size 47 K
        have hjz : (joinS 47 K).size ≤ 1000 := by omega
        clear hkp hsp hev hjs
        generalize joinS 47 K = z at *
        go_enter Tryz.func14, Tryz.ntmps14
        go_wp2_with (first | (go_at_call 31; refine (H1.out _).mono ?_; rintro e w' ⟨rfl, rfl⟩) | (go_at_call 29; refine (H2.out _).mono ?_; rintro e w' ⟨rfl, rfl⟩) | (go_at_call 45; refine (H3.out _).mono ?_; rintro e w3 ⟨rfl, hb3⟩) | (go_at_call 47; (try rw [hxx]); refine (H4.out _).mono ?_; rintro e w4 ⟨rfl, hb4⟩) | (go_at_call 46; refine (H5.out _).mono ?_; rintro e w5 ⟨v5, rfl, hb5⟩) | (go_at_call 49; refine (H6.out _ _ _ hb5).mono ?_; rintro e w6 ⟨v6, rfl, hb6⟩) | (go_at_call 48; refine (H7.out _ _ _ hb6).mono ?_; rintro e w7 ⟨rfl, hb7⟩))
        go_ret
        exact ⟨ret_str HR.out.symm, below_then (below_then (below_then (below_then hb3 hb4) hb5.below) hb6.below) hb7⟩
end Go.Proofs.YtefhpjipcdmbaabGreatDoor
