/-
  Chapter 5: the names that speak of this connection, on lists. No Go in sight.
-/
import Derived.Test.YtbdggopdhnlbfaaDoorF7
import Derived.Test.YtbdggopdhnlbfaaDoorME
import Derived.Sort.KeysCollected
namespace Go.Proofs.YtbdggopdhnlbfaaDoor
set_option linter.unusedVariables false
set_option linter.unusedSimpArgs false
open Go.RowKit
theorem bl_lt : ∀ x y : List UInt8, Op.bytesLess x y = decide (x < y)
  | [], [] => by simp [Op.bytesLess]
  | [], _ :: _ => by simp [Op.bytesLess]
  | _ :: _, [] => by simp [Op.bytesLess]
  | a :: x, b :: y => by
    have ih := bl_lt x y
    show (decide (a < b) || (a == b && Op.bytesLess x y)) = _
    rw [ih]
    by_cases h1 : a < b
    · simp [h1, List.cons_lt_cons_iff]
    · by_cases h2 : a = b
      · subst h2; simp [h1, List.cons_lt_cons_iff]
      · simp [h1, h2, List.cons_lt_cons_iff]
/-- A text put into a list at its place. -/
def insM (s : ByteArray) : List ByteArray → List ByteArray
  | [] => [s]
  | x :: r => if Op.bytesLess s.toList x.toList = true then s :: x :: r else x :: insM s r
def putM (M : List ByteArray) (s : ByteArray) : List ByteArray := if inNl M s = true then M else insM s M
theorem insM_past (s : ByteArray) (a b : List ByteArray) (h : ∀ x ∈ a, Op.bytesLess s.toList x.toList = false) : insM s (a ++ b) = a ++ insM s b := by
  induction a with
  | nil => rfl
  | cons x a ih =>
    rw [List.cons_append, insM, if_neg (by rw [h x (by simp)]; simp), ih (fun y hy => h y (by simp [hy]))]; rfl
theorem insM_done (s : ByteArray) (a b : List ByteArray) (h : ∃ x ∈ a, Op.bytesLess s.toList x.toList = true) : insM s (a ++ b) = insM s a ++ b := by
  induction a with
  | nil => obtain ⟨x, hx, _⟩ := h; simp at hx
  | cons x a ih =>
    rw [List.cons_append, insM, insM]
    by_cases hx : Op.bytesLess s.toList x.toList = true
    · rw [if_pos hx, if_pos hx]; rfl
    · rw [if_neg hx, if_neg hx, ih (by
        obtain ⟨y, hy, hl⟩ := h
        rcases List.mem_cons.1 hy with rfl | hy
        · exact absurd hl hx
        · exact ⟨y, hy, hl⟩)]; rfl
theorem mem_insM (s t : ByteArray) (M : List ByteArray) : t ∈ insM s M ↔ t = s ∨ t ∈ M := by
  induction M with
  | nil => simp [insM]
  | cons x r ih =>
    rw [insM]
    split
    · simp
    · rw [List.mem_cons, ih, List.mem_cons]
      constructor
      · rintro (h | h | h)
        · exact .inr (.inl h)
        · exact .inl h
        · exact .inr (.inr h)
      · rintro (h | h | h)
        · exact .inr (.inl h)
        · exact .inl h
        · exact .inr (.inr h)
/-- Ascending, each once. -/
def Asc (M : List ByteArray) : Prop := M.Pairwise fun a b => a.data.toList < b.data.toList
theorem inNl_iff {M : List ByteArray} {s : ByteArray} : inNl M s = true ↔ s ∈ M := by
  unfold inNl
  rw [List.any_eq_true]
  constructor
  · rintro ⟨t, ht, h⟩
    rw [beq_iff_eq] at h
    rw [bytes_ext h]; exact ht
  · intro h; exact ⟨s, h, by simp⟩
theorem lt_of_not {a b : List UInt8} (h1 : ¬ a < b) (h2 : a ≠ b) : b < a := by
  exact Classical.byContradiction fun h => h2 (List.le_antisymm (List.not_lt.1 h) (List.not_lt.1 h1))
theorem Asc.ins {M : List ByteArray} (h : Asc M) {s : ByteArray} (hs : s ∉ M) : Asc (insM s M) := by
  induction M with
  | nil => exact List.pairwise_singleton _ _
  | cons x r ih =>
    obtain ⟨h1, h2⟩ := List.pairwise_cons.1 h
    rw [insM]
    split
    · rename_i hl
      rw [bl_lt, ByteArray.toList_eq, ByteArray.toList_eq, decide_eq_true_eq] at hl
      refine List.pairwise_cons.2 ⟨fun y hy => ?_, h⟩
      rcases List.mem_cons.1 hy with rfl | hy
      · exact hl
      · exact List.lt_trans hl (h1 y hy)
    · rename_i hl
      rw [bl_lt, ByteArray.toList_eq, ByteArray.toList_eq, decide_eq_true_eq] at hl
      refine List.pairwise_cons.2 ⟨fun y hy => ?_, ih h2 (fun hh => hs (by simp [hh]))⟩
      rcases (mem_insM s y r).1 hy with rfl | hy
      · exact lt_of_not hl (fun hh => hs (by rw [bytes_ext hh]; simp))
      · exact h1 y hy
theorem Asc.put {M : List ByteArray} (h : Asc M) (s : ByteArray) : Asc (putM M s) := by
  unfold putM
  split
  · exact h
  · rename_i hn
    exact h.ins (fun hh => hn (inNl_iff.2 hh))
theorem mem_putM (M : List ByteArray) (s t : ByteArray) : t ∈ putM M s ↔ t = s ∨ t ∈ M := by
  unfold putM
  split
  · rename_i h
    have := inNl_iff.1 h
    constructor
    · exact .inr
    · rintro (rfl | h)
      · exact this
      · exact h
  · exact mem_insM s t M
/-- Is it the text of one of them? -/
def hasT (M : List ByteArray) (s : List UInt8) : Bool := M.any fun t => s == t.data.toList
theorem hasT_iff {M : List ByteArray} {s : List UInt8} : hasT M s = true ↔ (⟨s.toArray⟩ : ByteArray) ∈ M := by
  unfold hasT
  rw [List.any_eq_true]
  constructor
  · rintro ⟨t, ht, h⟩
    rw [beq_iff_eq] at h
    subst h
    exact ht
  · intro h; exact ⟨_, h, by simp⟩
theorem hasT_put (M : List ByteArray) (s : ByteArray) (t : List UInt8) : hasT (putM M s) t = (hasT M t || t == s.data.toList) := by
  rw [Bool.eq_iff_iff, Bool.or_eq_true, hasT_iff, hasT_iff, mem_putM, beq_iff_eq]
  constructor
  · rintro (h | h)
    · right; rw [← h]
    · exact .inl h
  · rintro (h | h)
    · exact .inr h
    · left; subst h; rfl
theorem hasT_next (M : List ByteArray) (k : Nat) (h : k < M.length) (t : List UInt8) : hasT (M.take (k + 1)) t = (hasT (M.take k) t || t == (txAt M k).data.toList) := by
  unfold hasT
  rw [List.take_succ_eq_append_getElem h, List.any_append, txAt_get h]; simp
theorem Asc.nodup {M : List ByteArray} (h : Asc M) : (M.map fun t => t.data.toList).Nodup := by
  unfold List.Nodup
  rw [List.pairwise_map]
  exact h.imp fun hlt he => by rw [he] at hlt; exact List.lt_irrefl _ hlt
/-- Sorted is as it stands. -/
theorem Asc.sort {M : List ByteArray} (h : Asc M) : (M.map fun t => t.data.toList).mergeSort leB = M.map fun t => t.data.toList := by
  refine List.mergeSort_of_pairwise ?_
  rw [List.pairwise_map]
  exact h.imp fun hlt => by simpa [leB] using List.le_of_lt hlt
def cnB : ByteArray := ⟨#[99, 111, 110, 110, 101, 99, 116, 105, 111, 110]⟩
/-- The seven. -/
def base7 : List ByteArray := [cnB, ⟨#[107, 101, 101, 112, 45, 97, 108, 105, 118, 101]⟩, ⟨#[112, 114, 111, 120, 121, 45, 99, 111, 110, 110, 101, 99, 116, 105, 111, 110]⟩, ⟨#[116, 101]⟩, ⟨#[116, 114, 97, 105, 108, 101, 114]⟩, ⟨#[116, 114, 97, 110, 115, 102, 101, 114, 45, 101, 110, 99, 111, 100, 105, 110, 103]⟩, ⟨#[117, 112, 103, 114, 97, 100, 101]⟩]
theorem base7_asc : Asc base7 := by unfold Asc base7 cnB; decide
theorem base7_len : base7.length = 7 := rfl
/-- One word more. -/
def hopStep (M : List ByteArray) (s : ByteArray) : List ByteArray := if tokB s = true then putM M (foldB s) else M
def hopTo (W : List ByteArray) : List ByteArray := W.foldl hopStep base7
def hopW (l : List Fd) : List ByteArray := elsB (joinB (valuesL l cnB))
def hopL (l : List Fd) : List ByteArray := if fieldsQ l = true then hopTo (hopW l) else []
theorem hopTo_next (W : List ByteArray) (k : Nat) (h : k < W.length) : hopTo (W.take (k + 1)) = hopStep (hopTo (W.take k)) (txAt W k) := by
  unfold hopTo
  rw [List.take_succ_eq_append_getElem h, List.foldl_append, txAt_get h]; rfl
theorem hopStep_asc {M : List ByteArray} (h : Asc M) (s : ByteArray) : Asc (hopStep M s) := by
  unfold hopStep; split
  · exact h.put _
  · exact h
theorem hopTo_asc (W : List ByteArray) : Asc (hopTo W) := by
  unfold hopTo
  have : ∀ (W M : List ByteArray), Asc M → Asc (W.foldl hopStep M) := by
    intro W
    induction W with
    | nil => intro M h; exact h
    | cons s W ih => intro M h; exact ih _ (hopStep_asc h s)
  exact this W base7 base7_asc
theorem insM_len (s : ByteArray) (M : List ByteArray) : (insM s M).length = M.length + 1 := by
  induction M with
  | nil => rfl
  | cons x r ih => rw [insM]; split <;> simp [ih]
theorem hopStep_len (M : List ByteArray) (s : ByteArray) : (hopStep M s).length ≤ M.length + 1 := by
  unfold hopStep putM
  split
  · split
    · omega
    · rw [insM_len]; exact Nat.le_refl _
  · omega
theorem hopTo_len (W : List ByteArray) : (hopTo W).length ≤ 7 + W.length := by
  unfold hopTo
  have : ∀ (W M : List ByteArray), (W.foldl hopStep M).length ≤ M.length + W.length := by
    intro W
    induction W with
    | nil => intro M; simp
    | cons s W ih =>
      intro M
      have h1 := ih (hopStep M s)
      have h2 := hopStep_len M s
      simp only [List.foldl_cons, List.length_cons]; omega
  have := this W base7
  rw [base7_len] at this; exact this
theorem hopTo_pos (W : List ByteArray) : 0 < (hopTo W).length := by
  unfold hopTo
  have : ∀ (W M : List ByteArray), 0 < M.length → 0 < (W.foldl hopStep M).length := by
    intro W
    induction W with
    | nil => intro M h; exact h
    | cons s W ih =>
      intro M h
      refine ih _ ?_
      unfold hopStep putM
      split
      · split
        · exact h
        · rw [insM_len]; omega
      · exact h
  exact this W base7 (by rw [base7_len]; omega)
theorem hopTo_sizes (W : List ByteArray) (m : Nat) (hm : 20 ≤ m) (hw : ∀ s ∈ W, s.size ≤ m) : ∀ t ∈ hopTo W, t.size ≤ m := by
  unfold hopTo
  have : ∀ (W M : List ByteArray), (∀ s ∈ W, s.size ≤ m) → (∀ t ∈ M, t.size ≤ m) → ∀ t ∈ W.foldl hopStep M, t.size ≤ m := by
    intro W
    induction W with
    | nil => intro M _ h; exact h
    | cons s W ih =>
      intro M hw h
      refine ih _ (fun x hx => hw x (by simp [hx])) (fun t ht => ?_)
      unfold hopStep at ht
      split at ht
      · rcases (mem_putM _ _ _).1 ht with rfl | ht
        · rw [foldB_size]; exact hw s (by simp)
        · exact h t ht
      · exact h t ht
  refine this W base7 hw (fun t ht => ?_)
  have : ∀ t ∈ base7, t.size ≤ 20 := by unfold base7 cnB; decide
  exact Nat.le_trans (this t ht) hm
end Go.Proofs.YtbdggopdhnlbfaaDoor
