/-
  A path in its one form has no piece of dots and begins with a slash. No Go in sight.
-/
import Derived.Test.YtefhpjipcdmbaabGreatDoorMU
namespace Go.Proofs.YtefhpjipcdmbaabGreatDoor
set_option linter.unusedVariables false
set_option linter.unusedSimpArgs false
open Go.RowKit
/-- Do these bytes begin with a piece of one dot, or of two? -/
def badL (l : List UInt8) : Prop := (∃ r, l = 47 :: 46 :: 47 :: r) ∨ (∃ r, l = 47 :: 46 :: 46 :: 47 :: r)
def goodP (x : ByteArray) : Prop := 47 ∉ x.data.toList ∧ dotQ x = false
theorem splS_free {c : UInt8} : ∀ (n : Nat) (s : ByteArray), s.size ≤ n → ∀ x ∈ splS c s, c ∉ x.data.toList
  | n, s, hn => by
    intro x hx hc
    have free : ∀ t : ByteArray, (∀ j, j < t.size → at8 t j ≠ c) → c ∉ t.data.toList := by
      intro t ht hm
      obtain ⟨j, hj, e⟩ := List.getElem_of_mem hm
      refine ht j (by rw [len_data] at hj; exact hj) ?_
      unfold at8
      rw [List.getD, List.getElem?_eq_getElem hj]; exact e
    rcases idxS_cases c s with h | ⟨i, h, hi⟩
    · rw [(splS_none h).2] at hx
      simp at hx
      subst hx
      exact free _ (idxS_none h) hc
    · rw [(splS_some h).2] at hx
      cases n with
      | zero => omega
      | succ n =>
        rcases List.mem_cons.1 hx with rfl | hx
        · refine free _ ?_ hc
          intro j hj
          have e0 : (s.extract 0 i).size = i := by rw [ByteArray.size_extract]; omega
          rw [at8_extS (by omega) (by omega), Nat.zero_add]
          exact (idxS_some h).2.2 j (by omega)
        · exact splS_free n _ (by rw [ByteArray.size_extract]; omega) x hx hc
theorem keepL_good (l : List ByteArray) (h : ∀ x ∈ l, 47 ∉ x.data.toList) : ∀ x ∈ keepL l, goodP x := by
  revert h
  refine snoc_ind (p := fun l => (∀ x ∈ l, 47 ∉ x.data.toList) → ∀ x ∈ keepL l, goodP x) ?_ ?_ l
  · intro _ x hx; cases hx
  · intro q y ih h x hx
    have ih' := ih (fun z hz => h z (List.mem_append_left _ hz))
    rw [keepL_snoc] at hx
    unfold keepS at hx
    split at hx
    · exact ih' x (List.dropLast_subset _ hx)
    · split at hx
      · exact ih' x hx
      · rename_i h1 h2
        rcases List.mem_append.1 hx with hx | hx
        · exact ih' x hx
        · simp at hx
          subst hx
          refine ⟨h x (by simp), ?_⟩
          unfold dotQ
          rw [Bool.eq_false_iff.2 h1, Bool.eq_false_iff.2 h2]; rfl
theorem keptL_good (l : List ByteArray) (h : ∀ x ∈ l, 47 ∉ x.data.toList) : ∀ x ∈ keptL l, goodP x := by
  intro x hx
  unfold keptL at hx
  split at hx
  · rcases List.mem_append.1 hx with hx | hx
    · exact keepL_good l h x hx
    · simp at hx
      subst hx
      exact ⟨by simp, by kernel_rfl⟩
  · exact keepL_good l h x hx
theorem eqB_of {x : ByteArray} {d : ByteArray} (h : x.data.toList = d.data.toList) : x = d := bytes_ext h
theorem dot_d1 : dotQ d1 = true := by kernel_rfl
theorem dot_dd : dotQ dd = true := by kernel_rfl
theorem dot_of1 {x : ByteArray} (h : x.data.toList = [46]) : dotQ x = true := by
  rw [show x = d1 from bytes_ext h]; exact dot_d1
theorem dot_of2 {x : ByteArray} (h : x.data.toList = [46, 46]) : dotQ x = true := by
  rw [show x = dd from bytes_ext h]; exact dot_dd
theorem tail_head (r : List ByteArray) : ∃ q, tailS 47 r ++ [47] = 47 :: q := by
  cases r with
  | nil => exact ⟨[], rfl⟩
  | cons y r => exact ⟨_, by rw [tailS_cons]; rfl⟩
theorem notbad_tail : ∀ (l : List ByteArray), (∀ x ∈ l, goodP x) → ∀ i, ¬ badL ((tailS 47 l ++ [47]).drop i)
  | [], _, i => by
    rintro (⟨r, h⟩ | ⟨r, h⟩)
    · have := congrArg List.length h; simp [tailS_nil] at this; omega
    · have := congrArg List.length h; simp [tailS_nil] at this; omega
  | x :: l, hg, i => by
    have ih := notbad_tail l (fun y hy => hg y (List.mem_cons_of_mem _ hy))
    obtain ⟨hx1, hx2⟩ := hg x (List.mem_cons_self ..)
    obtain ⟨q, hq⟩ := tail_head l
    have e : tailS 47 (x :: l) ++ [47] = 47 :: (x.data.toList ++ (tailS 47 l ++ [47])) := by rw [tailS_cons]; simp
    rw [e]
    cases i with
    | zero =>
      rw [List.drop_zero, hq]
      generalize hX : x.data.toList = X at *
      rintro (⟨r, h⟩ | ⟨r, h⟩)
      · injection h with _ h
        match X, hX, hx1, h with
        | [], _, _, h => simp at h
        | [a], hX, _, h =>
          injection h with h1 _
          subst h1
          rw [dot_of1 hX] at hx2; cases hx2
        | a :: b :: t, _, hx1, h =>
          injection h with _ h
          injection h with h _
          subst h
          simp at hx1
      · injection h with _ h
        match X, hX, hx1, h with
        | [], _, _, h => simp at h
        | [a], hX, _, h => simp at h
        | [a, b], hX, _, h =>
          injection h with h1 h
          injection h with h2 _
          subst h1 h2
          rw [dot_of2 hX] at hx2; cases hx2
        | a :: b :: c :: t, _, hx1, h =>
          injection h with _ h
          injection h with _ h
          injection h with h _
          subst h
          simp at hx1
    | succ j =>
      rw [List.drop_succ_cons]
      by_cases hj : j < x.data.toList.length
      · rw [List.drop_append_of_le_length (by omega), List.drop_eq_getElem_cons hj, List.cons_append]
        have hne : x.data.toList[j] ≠ 47 := fun h => hx1 (h ▸ List.getElem_mem hj)
        rintro (⟨r, h⟩ | ⟨r, h⟩)
        · injection h with h _; exact hne h
        · injection h with h _; exact hne h
      · rw [List.drop_append, List.drop_eq_nil_of_le (by omega), List.nil_append]
        exact ih _
theorem clnL_good (l : List ByteArray) (h : ∀ x ∈ l, goodP x) (i : Nat) : ¬ badL (((clnL l).data.toList ++ [47]).drop i) := by
  unfold clnL
  split
  · rcases i with _ | _ | i
    · rintro (⟨r, h⟩ | ⟨r, h⟩) <;> simp at h
    · rintro (⟨r, h⟩ | ⟨r, h⟩) <;> simp at h
    · rintro (⟨r, h⟩ | ⟨r, h⟩) <;> simp at h
  · exact notbad_tail l h i
theorem clnB_good {p : ByteArray} (hp : pthQ p = true) (i : Nat) : ¬ badL (((clnB p).data.toList ++ [47]).drop i) := by
  unfold clnB
  rw [if_pos hp]
  exact clnL_good _ (keptL_good _ (splS_free _ _ (Nat.le_refl _))) i
theorem clnB_head {p : ByteArray} (hp : pthQ p = true) : 1 ≤ (clnB p).size ∧ at8 (clnB p) 0 = 47 := by
  unfold clnB
  rw [if_pos hp]
  unfold clnL
  split
  · exact ⟨by decide, by decide⟩
  · rename_i h
    obtain ⟨x, l, e⟩ : ∃ x l, keptL (splS 47 (evB (p.extract 1 p.size))) = x :: l := by
      cases hh : keptL (splS 47 (evB (p.extract 1 p.size))) with
      | nil => exact absurd hh h
      | cons x l => exact ⟨x, l, rfl⟩
    rw [e, tailS_cons]
    refine ⟨?_, rfl⟩
    show 1 ≤ (List.toArray _).size
    simp
theorem keepS_dot (k : List ByteArray) {x : ByteArray} (h : dotQ x = true) : (keepS k x).length ≤ k.length ∧ sumS (keepS k x) ≤ sumS k := by
  have hd : sumS k.dropLast ≤ sumS k := by
    rcases List.eq_nil_or_concat k with rfl | ⟨q, y, rfl⟩
    · exact Nat.le_refl _
    · simp [sumS]
  unfold dotQ at h
  unfold keepS
  split
  · rw [List.length_dropLast]; omega
  · rename_i h1
    rw [Bool.eq_false_iff.2 h1, Bool.or_false] at h
    rw [if_pos h]; omega
theorem keptL_tight (l : List ByteArray) : (keptL l).length ≤ l.length ∧ sumS (keptL l) ≤ sumS l := by
  unfold keptL
  split
  · rename_i h
    rcases List.eq_nil_or_concat l with rfl | ⟨q, y, rfl⟩
    · cases h
    · rw [List.concat_eq_append] at h ⊢
      unfold lastDot at h
      rw [List.getLast?_append] at h
      have hy : dotQ y = true := h
      rw [keepL_snoc]
      have h1 := keepS_dot (keepL q) hy
      have h2 := keepL_le q
      have e : sumS (q ++ [y]) = sumS q + y.size := by simp [sumS]
      have e2 : sumS (keepS (keepL q) y ++ [⟨#[]⟩]) = sumS (keepS (keepL q) y) := by simp [sumS]; rfl
      rw [List.length_append, List.length_append, e, e2]
      simp only [List.length_singleton]
      omega
  · exact keepL_le l
theorem clnB_le {p : ByteArray} (hp : pthQ p = true) : (clnB p).size ≤ p.size := by
  have h0 : 1 ≤ p.size := by
    have hp' := hp
    unfold pthQ at hp'
    rw [Bool.and_eq_true, Bool.and_eq_true] at hp'
    exact (targQ_iff.1 hp'.1.1).1
  unfold clnB
  rw [if_pos hp]
  have h1 := evB_size (p.extract 1 p.size)
  have h2 : (p.extract 1 p.size).size = p.size - 1 := by rw [ByteArray.size_extract]; omega
  generalize evB (p.extract 1 p.size) = y at *
  have h3 := splS_len 47 y
  have h4 := splS_sum 47 y.size y (Nat.le_refl _)
  generalize splS 47 y = L at *
  have h5 := keptL_tight L
  generalize keptL L = K at *
  unfold clnL
  split
  · exact h0
  · show (tailS 47 K).toArray.size ≤ _
    rw [List.size_toArray, tailS_len]
    omega
/-- A window of three or of four bytes. -/
theorem win3 {t : ByteArray} {i : Nat} (hi : i + 3 ≤ t.size) (h : t.extract i (i + 3) = ⟨#[47, 46, 47]⟩) : badL (t.data.toList.drop i) := by
  left
  refine ⟨t.data.toList.drop (i + 3), ?_⟩
  have h1 := congrArg (fun b : ByteArray => b.data.toList) h
  simp only [Lib.extract_data] at h1
  have e : t.data.toList.drop i = (t.data.toList.drop i).take (i + 3 - i) ++ (t.data.toList.drop i).drop (i + 3 - i) := (List.take_append_drop _ _).symm
  rw [h1, List.drop_drop, show i + (i + 3 - i) = i + 3 by omega] at e
  exact e
theorem win4 {t : ByteArray} {i : Nat} (hi : i + 4 ≤ t.size) (h : t.extract i (i + 4) = ⟨#[47, 46, 46, 47]⟩) : badL (t.data.toList.drop i) := by
  right
  refine ⟨t.data.toList.drop (i + 4), ?_⟩
  have h1 := congrArg (fun b : ByteArray => b.data.toList) h
  simp only [Lib.extract_data] at h1
  have e : t.data.toList.drop i = (t.data.toList.drop i).take (i + 4 - i) ++ (t.data.toList.drop i).drop (i + 4 - i) := (List.take_append_drop _ _).symm
  rw [h1, List.drop_drop, show i + (i + 4 - i) = i + 4 by omega] at e
  exact e
theorem clnB_win3 {p : ByteArray} (hp : pthQ p = true) {i : Nat} (hi : i + 3 ≤ (clnB p ++ ⟨#[47]⟩).size) : (clnB p ++ ⟨#[47]⟩).extract i (i + 3) ≠ ⟨#[47, 46, 47]⟩ := by
  intro h
  have h1 := win3 hi h
  rw [Go.Joins.data_append] at h1
  exact clnB_good hp i h1
theorem clnB_win4 {p : ByteArray} (hp : pthQ p = true) {i : Nat} (hi : i + 4 ≤ (clnB p ++ ⟨#[47]⟩).size) : (clnB p ++ ⟨#[47]⟩).extract i (i + 4) ≠ ⟨#[47, 46, 46, 47]⟩ := by
  intro h
  have h1 := win4 hi h
  rw [Go.Joins.data_append] at h1
  exact clnB_good hp i h1
end Go.Proofs.YtefhpjipcdmbaabGreatDoor
