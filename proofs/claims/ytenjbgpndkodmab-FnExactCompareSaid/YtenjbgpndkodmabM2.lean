/-
  Plain functions of chapter 1: gaps and Trim. No Go in sight.
-/
import Derived.Test.YtenjbgpndkodmabM1
namespace Go.Proofs.Ytenjbgpndkodmab
set_option linter.unusedVariables false
set_option linter.unusedSimpArgs false
open Go.RowKit

def gapP (n : Int) : Bool := n == 32 || n == 9
def gap8 (b : UInt8) : Bool := gapP (b.toNat : Int)
def digP (n : Int) : Bool := decide (48 ≤ n) && decide (n ≤ 57)
def dig8 (b : UInt8) : Bool := digP (b.toNat : Int)
def trimL (l : List UInt8) : List UInt8 := ((l.dropWhile gap8).reverse.dropWhile gap8).reverse
def trimB (s : ByteArray) : ByteArray := ⟨(trimL s.data.toList).toArray⟩

theorem dropWhile_all {α : Type} (p : α → Bool) : ∀ (a b : List α), (∀ x ∈ a, p x = true) → (a ++ b).dropWhile p = b.dropWhile p
  | [], _, _ => rfl
  | x :: a, b, h => by
    have hx : p x = true := h x (by simp)
    rw [List.cons_append, List.dropWhile_cons_of_pos hx]
    exact dropWhile_all p a b (fun y hy => h y (by simp [hy]))
theorem dropWhile_head {α : Type} (p : α → Bool) (x : α) (l : List α) (h : p x = false) : (x :: l).dropWhile p = x :: l := by
  rw [List.dropWhile_cons_of_neg (by simp [h])]
theorem trimL_of (a m z : List UInt8) (ha : ∀ x ∈ a, gap8 x = true) (hz : ∀ x ∈ z, gap8 x = true) (hm : m = [] ∨ ∃ (x y : UInt8) (r q : List UInt8), m = x :: r ∧ m = q ++ [y] ∧ gap8 x = false ∧ gap8 y = false) : trimL (a ++ m ++ z) = m := by
  unfold trimL
  rw [List.append_assoc, dropWhile_all gap8 a (m ++ z) ha]
  rcases hm with rfl | ⟨x, y, r, q, e1, e2, hx, hy⟩
  · rw [List.nil_append]
    have := dropWhile_all gap8 z [] hz
    rw [List.append_nil] at this
    rw [this]
    rfl
  · have h1 : (m ++ z).dropWhile gap8 = m ++ z := by rw [e1, List.cons_append]; exact dropWhile_head gap8 x _ hx
    rw [h1, List.reverse_append, dropWhile_all gap8 z.reverse m.reverse (fun u hu => hz u (by simpa using hu))]
    have h2 : m.reverse = y :: q.reverse := by rw [e2]; simp
    rw [h2, dropWhile_head gap8 y _ hy, ← h2, List.reverse_reverse]

/-- The byte at a place. -/
def at8 (s : ByteArray) (k : Nat) : UInt8 := s.data.toList.getD k 0
theorem at8_eq (s : ByteArray) (k : Nat) (h : k < s.size) : s[k] = at8 s k := by
  have h' : k < s.data.toList.length := by simpa using h
  show s.data[k] = _
  simp [at8, List.getD, List.getElem?_eq_getElem h']

theorem extract_list (s : ByteArray) (k t : Nat) : (s.extract k t).data.toList = (s.data.toList.take t).drop k := by
  rw [ByteArray.data_extract, Array.toList_extract]
  simp only [List.extract]
  rw [List.drop_take]
theorem bytes_ext {a b : ByteArray} (h : a.data.toList = b.data.toList) : a = b := by
  cases a; cases b
  congr 1
  exact Array.toList_inj.1 h

theorem trim_of (s : ByteArray) (k t : Nat) (hk : ∀ j, j < k → gap8 (at8 s j) = true) (he : k = s.size ∨ gap8 (at8 s k) = false) (hkt : k ≤ t) (ht : t ≤ s.size)
    (hz : ∀ j, t ≤ j → j < s.size → gap8 (at8 s j) = true) (hf : t = k ∨ gap8 (at8 s (t - 1)) = false) : s.extract k t = trimB s := by
  apply bytes_ext
  rw [extract_list]
  show _ = trimL s.data.toList
  have hl : s.data.toList.length = s.size := by show _ = s.data.size; simp
  generalize hL : s.data.toList = l at *
  have hat : ∀ j, at8 s j = l.getD j 0 := by intro j; unfold at8; rw [hL]
  have e : l = l.take k ++ (l.take t).drop k ++ l.drop t := by
    have h1 : l.take k = (l.take t).take k := by rw [List.take_take]; congr 1; omega
    rw [h1, List.take_append_drop, List.take_append_drop]
  have hA : ∀ x ∈ l.take k, gap8 x = true := by
    intro x hx
    obtain ⟨j, hj, rfl⟩ := List.mem_iff_getElem.1 hx
    have hj' : j < k ∧ j < l.length := by simp at hj; omega
    have := hk j hj'.1
    rw [hat] at this
    simpa [List.getD, List.getElem?_eq_getElem hj'.2] using this
  have hZ : ∀ x ∈ l.drop t, gap8 x = true := by
    intro x hx
    obtain ⟨j, hj, rfl⟩ := List.mem_iff_getElem.1 hx
    have hj' : t + j < l.length := by simp at hj; omega
    have := hz (t + j) (by omega) (by omega)
    rw [hat] at this
    simpa [List.getD, List.getElem?_eq_getElem hj'] using this
  have hM : (l.take t).drop k = [] ∨ ∃ (x y : UInt8) (r q : List UInt8), (l.take t).drop k = x :: r ∧ (l.take t).drop k = q ++ [y] ∧ gap8 x = false ∧ gap8 y = false := by
    rcases Nat.lt_or_ge k t with h | h
    · right
      have h1 : k < (l.take t).length := by simp; omega
      have h2 : t - 1 < l.length := by omega
      refine ⟨(l.take t)[k], l[t - 1], (l.take t).drop (k + 1), (l.take (t - 1)).drop k, List.drop_eq_getElem_cons h1, ?_, ?_, ?_⟩
      · have e2 : l.take t = l.take (t - 1) ++ [l[t - 1]] := by
          have := List.take_succ_eq_append_getElem h2
          rw [show t - 1 + 1 = t from by omega] at this
          exact this
        rw [e2, List.drop_append_of_le_length (by simp; omega)]
      · rcases he with he | he
        · omega
        · rw [hat] at he
          have h3 : k < l.length := by omega
          simpa [List.getD, List.getElem?_eq_getElem h3, List.getElem_take] using he
      · rcases hf with hf | hf
        · omega
        · rw [hat] at hf
          simpa [List.getD, List.getElem?_eq_getElem h2] using hf
    · left
      apply List.drop_eq_nil_of_le
      simp
      omega
  conv => rhs; rw [e]
  exact (trimL_of _ _ _ hA hZ hM).symm
theorem trimB_size (s : ByteArray) : (trimB s).size ≤ s.size := by
  show (trimL s.data.toList).toArray.size ≤ s.data.size
  have h1 : ∀ (l : List UInt8), (l.dropWhile gap8).length ≤ l.length := fun l => (List.dropWhile_sublist gap8).length_le
  have := h1 s.data.toList
  have h2 := h1 (s.data.toList.dropWhile gap8).reverse
  unfold trimL
  simp at *
  omega
theorem all_succ {p : Nat → Prop} {k : Nat} (h : ∀ j, j < k → p j) (hk : p k) : ∀ j, j < k + 1 → p j := by
  intro j hj
  rcases Nat.lt_or_ge j k with h1 | h1
  · exact h j h1
  · obtain rfl : j = k := by omega
    exact hk
theorem all_pred {p : Nat → Prop} {u n : Nat} (h : ∀ j, u + 1 ≤ j → j < n → p j) (hk : p u) : ∀ j, u ≤ j → j < n → p j := by
  intro j hj hn
  rcases Nat.lt_or_ge u j with h1 | h1
  · exact h j h1 hn
  · obtain rfl : j = u := by omega
    exact hk
theorem u8_beq (a b : UInt8) : ((a.toNat : Int) == (b.toNat : Int)) = (a == b) := by
  rw [Bool.eq_iff_iff, beq_iff_eq, beq_iff_eq]
  constructor
  · intro h; exact UInt8.toNat_inj.1 (by omega)
  · intro h; rw [h]
end Go.Proofs.Ytenjbgpndkodmab
