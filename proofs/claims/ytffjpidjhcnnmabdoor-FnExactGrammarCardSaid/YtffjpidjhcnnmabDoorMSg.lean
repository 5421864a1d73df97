/-
  A text cut at each byte of one kind, on lists. No Go in sight.
-/
import Derived.Test.YtffjpidjhcnnmabDoorM2
import Derived.Lib.IndexLaws
import Derived.Lib.Bytealg
import Derived.Lib.SplitLaws
import Derived.Lib.IndexBytes
import Derived.Lib.Join
import Derived.Lib.SmallJoins
namespace Go.Proofs.YtffjpidjhcnnmabDoor
set_option linter.unusedVariables false
set_option linter.unusedSimpArgs false
open Go.RowKit
/-- Where the first byte c stands, or -1. -/
def idxS (c : UInt8) (s : ByteArray) : Int := Lib.indexByte s.data.toList c
theorem idxS_some {c : UInt8} {s : ByteArray} {i : Nat} (h : idxS c s = (i : Int)) : i < s.size ∧ at8 s i = c ∧ ∀ j, j < i → at8 s j ≠ c := by
  obtain ⟨h1, h2⟩ := Lib.indexByte_some h
  have hi : i < s.data.toList.length := (List.getElem?_eq_some_iff.1 h1).1
  have hi' : i < s.size := by rw [len_data] at hi; exact hi
  refine ⟨hi', by unfold at8; rw [List.getD, h1]; rfl, fun j hj he => h2 j hj ?_⟩
  have hj' : j < s.data.toList.length := by rw [len_data]; omega
  unfold at8 at he
  rw [List.getD, List.getElem?_eq_getElem hj'] at he
  rw [List.getElem?_eq_getElem hj']
  simpa using he
theorem idxS_none {c : UInt8} {s : ByteArray} (h : idxS c s = -1) : ∀ j, j < s.size → at8 s j ≠ c := by
  intro j hj he
  have hj' : j < s.data.toList.length := by rw [len_data]; omega
  refine Lib.indexByte_none h j ?_
  unfold at8 at he
  rw [List.getD, List.getElem?_eq_getElem hj'] at he
  rw [List.getElem?_eq_getElem hj']
  simpa using he
theorem idxS_cases (c : UInt8) (s : ByteArray) : idxS c s = -1 ∨ ∃ i : Nat, idxS c s = (i : Int) ∧ i < s.size := by
  have h := Lib.indexByte_ge s.data.toList c
  by_cases h1 : idxS c s = -1
  · exact .inl h1
  · right
    have h2 : -1 ≤ idxS c s := h
    have h3 : idxS c s = ((idxS c s).toNat : Int) := by omega
    exact ⟨(idxS c s).toNat, h3, (idxS_some h3).1⟩
theorem idxS_of {c : UInt8} {s : ByteArray} {i : Nat} (h1 : i < s.size) (h2 : at8 s i = c) (h3 : ∀ j, j < i → at8 s j ≠ c) : idxS c s = (i : Int) := by
  rcases idxS_cases c s with h | ⟨k, hk, _⟩
  · exact absurd h2 (idxS_none h i h1)
  · obtain ⟨g1, g2, g3⟩ := idxS_some hk
    rcases Nat.lt_trichotomy k i with h | h | h
    · exact absurd g2 (h3 k h)
    · rw [hk, h]
    · exact absurd h2 (g3 i h)
theorem idxS_miss {c : UInt8} {s : ByteArray} (h : ∀ j, j < s.size → at8 s j ≠ c) : idxS c s = -1 := by
  rcases idxS_cases c s with h1 | ⟨k, hk, _⟩
  · exact h1
  · obtain ⟨g1, g2, _⟩ := idxS_some hk
    exact absurd g2 (h k g1)
theorem idxS_B (c : UInt8) (s : ByteArray) : Lib.indexB s ⟨#[c]⟩ = idxS c s := by
  show Lib.index s.data.toList [c] = _
  exact Lib.index_one _ _
/-- How many there are, and the pieces between them. -/
def cntS (c : UInt8) (s : ByteArray) : Nat := Lib.countB s ⟨#[c]⟩
def splS (c : UInt8) (s : ByteArray) : List ByteArray := Lib.splitB ⟨#[c]⟩ 0 (cntS c s) s
theorem splS_none {c : UInt8} {s : ByteArray} (h : idxS c s = -1) : cntS c s = 0 ∧ splS c s = [s] := by
  have h1 : cntS c s = 0 := Lib.countB_miss s _ (by rw [idxS_B]; exact h)
  exact ⟨h1, by unfold splS; rw [h1]; rfl⟩
theorem splS_some {c : UInt8} {s : ByteArray} {i : Nat} (h : idxS c s = (i : Int)) : cntS c s = 1 + cntS c (s.extract (i + 1) s.size) ∧ splS c s = s.extract 0 i :: splS c (s.extract (i + 1) s.size) := by
  have h0 : Lib.indexB s ⟨#[c]⟩ = (i : Int) := by rw [idxS_B]; exact h
  have h1 := Lib.countB_hit s ⟨#[c]⟩ i (Nat.le_refl _) h0
  have e : (⟨#[c]⟩ : ByteArray).size = 1 := rfl
  rw [e] at h1
  refine ⟨h1, ?_⟩
  unfold splS
  rw [show cntS c s = 1 + cntS c (s.extract (i + 1) s.size) from h1, Nat.add_comm, Lib.splitB_hit _ _ _ _ i h0, e, Nat.add_zero]
theorem splS_len (c : UInt8) (s : ByteArray) : (splS c s).length = cntS c s + 1 := Lib.splitB_all _ (Nat.le_refl _) 0 _ s rfl
theorem splS_cnt (c : UInt8) (s : ByteArray) : cntS c s ≤ s.size := Lib.countB_le ⟨#[c]⟩ (Nat.le_refl _) s.size s (Nat.le_refl _)
theorem splS_ne (c : UInt8) (s : ByteArray) : splS c s ≠ [] := by
  intro h
  have := splS_len c s
  rw [h] at this
  simp at this
theorem at8_extS {s : ByteArray} {a b j : Nat} (hb : b ≤ s.size) (hj : a + j < b) : at8 (s.extract a b) j = at8 s (a + j) := by
  unfold at8
  rw [Lib.extract_data]
  simp only [List.getD]
  rw [List.getElem?_take_of_lt (by omega), List.getElem?_drop]
/-- The pieces and what parts them make no more than the text. -/
def sumS (l : List ByteArray) : Nat := (l.map ByteArray.size).sum
theorem splS_sum (c : UInt8) : ∀ (n : Nat) (s : ByteArray), s.size ≤ n → sumS (splS c s) + cntS c s = s.size
  | n, s, hn => by
    rcases idxS_cases c s with h | ⟨i, h, hi⟩
    · obtain ⟨h1, h2⟩ := splS_none h
      rw [h1, h2]; simp [sumS]
    · obtain ⟨h1, h2⟩ := splS_some h
      cases n with
      | zero => omega
      | succ n =>
        have e : (s.extract (i + 1) s.size).size = s.size - (i + 1) := by rw [ByteArray.size_extract]; omega
        have e0 : (s.extract 0 i).size = i := by rw [ByteArray.size_extract]; omega
        have ih := splS_sum c n (s.extract (i + 1) s.size) (by omega)
        rw [h1, h2]
        have : sumS (s.extract 0 i :: splS c (s.extract (i + 1) s.size)) = i + sumS (splS c (s.extract (i + 1) s.size)) := by simp [sumS, e0]
        omega
theorem sumS_mem {l : List ByteArray} {x : ByteArray} (h : x ∈ l) : x.size ≤ sumS l := by
  induction l with
  | nil => cases h
  | cons y r ih =>
    have e : sumS (y :: r) = y.size + sumS r := by simp [sumS]
    rcases List.mem_cons.1 h with rfl | h
    · omega
    · have := ih h; omega
theorem splS_mem {c : UInt8} {s x : ByteArray} (h : x ∈ splS c s) : x.size ≤ s.size := by
  have h1 := sumS_mem h
  have h2 := splS_sum c s.size s (Nat.le_refl _)
  omega
/-- Cut by one loop that goes on byte by byte. -/
theorem splS_step {c : UInt8} {s : ByteArray} {f i : Nat} (hf : f ≤ i) (hi : i < s.size) (h : at8 s i = c) (h0 : ∀ j, f ≤ j → j < i → at8 s j ≠ c) : splS c (s.extract f s.size) = s.extract f i :: splS c (s.extract (i + 1) s.size) := by
  have e : (s.extract f s.size).size = s.size - f := by rw [ByteArray.size_extract]; omega
  have hx : idxS c (s.extract f s.size) = ((i - f : Nat) : Int) := by
    refine idxS_of (by omega) ?_ ?_
    · rw [at8_extS (Nat.le_refl _) (by omega), show f + (i - f) = i by omega]; exact h
    · intro j hj
      rw [at8_extS (Nat.le_refl _) (by omega)]
      exact h0 _ (by omega) (by omega)
  rw [(splS_some hx).2, e, ByteArray.extract_extract, ByteArray.extract_extract]
  congr 2
  · congr 1 <;> omega
  · congr 1 <;> omega
theorem splS_end {c : UInt8} {s : ByteArray} {f : Nat} (h0 : ∀ j, f ≤ j → j < s.size → at8 s j ≠ c) : splS c (s.extract f s.size) = [s.extract f s.size] := by
  refine (splS_none (idxS_miss ?_)).2
  intro j hj
  have e : (s.extract f s.size).size = s.size - f := by rw [ByteArray.size_extract]; omega
  rw [at8_extS (Nat.le_refl _) (by omega)]
  exact h0 _ (by omega) (by omega)
/-- The texts with a byte ahead of each. -/
def tailS (c : UInt8) (l : List ByteArray) : List UInt8 := Lib.joinTail [c] (l.map (·.data.toList))
def joinS (c : UInt8) (l : List ByteArray) : ByteArray := ⟨(Lib.join (l.map (·.data.toList)) [c]).toArray⟩
theorem tailS_nil (c : UInt8) : tailS c [] = [] := rfl
theorem tailS_cons (c : UInt8) (x : ByteArray) (r : List ByteArray) : tailS c (x :: r) = c :: (x.data.toList ++ tailS c r) := by simp [tailS, Lib.joinTail]
theorem tailS_snoc (c : UInt8) (x : ByteArray) (l : List ByteArray) : tailS c (l ++ [x]) = tailS c l ++ c :: x.data.toList := by simp [tailS, Lib.joinTail]
theorem joinS_tail (c : UInt8) (x : ByteArray) (r : List ByteArray) : c :: (joinS c (x :: r)).data.toList = tailS c (x :: r) := by
  rw [tailS_cons]
  show c :: Lib.join ((x :: r).map (·.data.toList)) [c] = _
  rw [List.map_cons, Lib.join_cons]
  rfl
theorem tailS_len (c : UInt8) (l : List ByteArray) : (tailS c l).length = l.length + sumS l := by
  induction l with
  | nil => rfl
  | cons x r ih =>
    have e : sumS (x :: r) = x.size + sumS r := by simp [sumS]
    rw [tailS_cons, List.length_cons, List.length_append, ih, len_data, List.length_cons, e]; omega
end Go.Proofs.YtffjpidjhcnnmabDoor
