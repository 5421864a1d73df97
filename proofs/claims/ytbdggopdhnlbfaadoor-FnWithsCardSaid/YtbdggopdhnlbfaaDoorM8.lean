/-
  Plain functions of chapter 1: what quotes hold. No Go in sight.
-/
import Derived.Test.YtbdggopdhnlbfaaDoorM7
namespace Go.Proofs.YtbdggopdhnlbfaaDoor
set_option linter.unusedVariables false
set_option linter.unusedSimpArgs false
open Go.RowKit

/-- What stands between two quotes, read from the left. -/
def unq : List UInt8 → Option (List UInt8)
  | [] => some []
  | [b] => if b = 92 ∨ b = 34 ∨ plain8 b = false then none else some [b]
  | b :: c :: r => if b = 92 then (if plain8 c = true then (unq r).map (fun x => c :: x) else none) else if b = 34 ∨ plain8 b = false then none else (unq (c :: r)).map (fun x => b :: x)

theorem unq_esc (c : UInt8) (r : List UInt8) (h : plain8 c = true) : unq (92 :: c :: r) = (unq r).map (fun x => c :: x) := by
  rw [unq]; simp [h]
theorem unq_esc_no (c : UInt8) (r : List UInt8) (h : plain8 c = false) : unq (92 :: c :: r) = none := by
  rw [unq]; simp [h]
theorem unq_esc_end : unq [92] = none := by rw [unq]; simp
theorem unq_plain (b : UInt8) (r : List UInt8) (h1 : b ≠ 92) (h2 : b ≠ 34) (h3 : plain8 b = true) : unq (b :: r) = (unq r).map (fun x => b :: x) := by
  cases r with
  | nil => simp [unq, h1, h2, h3]
  | cons c r => rw [unq, if_neg h1, if_neg (by simp [h2, h3])]
theorem unq_bad (b : UInt8) (r : List UInt8) (h1 : b ≠ 92) (h2 : b = 34 ∨ plain8 b = false) : unq (b :: r) = none := by
  cases r with
  | nil => rw [unq, if_pos (Or.inr h2)]
  | cons c r => rw [unq, if_neg h1, if_pos h2]

/-- Behind p bytes of L, o has come out. -/
def URel (L : List UInt8) (p : Nat) (o : List UInt8) : Prop := unq L = (unq (L.drop p)).map (fun x => o ++ x)
theorem urel_start (L : List UInt8) : URel L 0 [] := by
  unfold URel
  cases h : unq L with
  | none => simp [h]
  | some x => simp [h]
theorem drop_at (L : List UInt8) (p : Nat) (h : p < L.length) : L.drop p = L.getD p 0 :: L.drop (p + 1) := by
  rw [List.drop_eq_getElem_cons h]
  simp [List.getD, List.getElem?_eq_getElem h]
theorem urel_plain {L : List UInt8} {p : Nat} {o : List UInt8} (h : URel L p o) (hp : p < L.length) (h1 : L.getD p 0 ≠ 92) (h2 : L.getD p 0 ≠ 34) (h3 : plain8 (L.getD p 0) = true) : URel L (p + 1) (o ++ [L.getD p 0]) := by
  unfold URel at *
  rw [h, drop_at L p hp, unq_plain _ _ h1 h2 h3]
  cases unq (L.drop (p + 1)) <;> simp
theorem urel_esc {L : List UInt8} {p : Nat} {o : List UInt8} (h : URel L p o) (hp : p + 1 < L.length) (h1 : L.getD p 0 = 92) (h3 : plain8 (L.getD (p + 1) 0) = true) : URel L (p + 2) (o ++ [L.getD (p + 1) 0]) := by
  unfold URel at *
  rw [h, drop_at L p (by omega), drop_at L (p + 1) hp, h1, unq_esc _ _ h3]
  cases unq (L.drop (p + 1 + 1)) <;> simp
theorem urel_bad {L : List UInt8} {p : Nat} {o : List UInt8} (h : URel L p o) (hp : p < L.length) (h1 : L.getD p 0 ≠ 92) (h2 : L.getD p 0 = 34 ∨ plain8 (L.getD p 0) = false) : unq L = none := by
  unfold URel at h
  rw [h, drop_at L p hp, unq_bad _ _ h1 h2]; rfl
theorem urel_esc_bad {L : List UInt8} {p : Nat} {o : List UInt8} (h : URel L p o) (hp : p + 1 < L.length) (h1 : L.getD p 0 = 92) (h3 : plain8 (L.getD (p + 1) 0) = false) : unq L = none := by
  unfold URel at h
  rw [h, drop_at L p (by omega), drop_at L (p + 1) hp, h1, unq_esc_no _ _ h3]; rfl
theorem urel_esc_end {L : List UInt8} {p : Nat} {o : List UInt8} (h : URel L p o) (hp : p + 1 = L.length) (h1 : L.getD p 0 = 92) : unq L = none := by
  unfold URel at h
  rw [h, drop_at L p (by omega), h1, List.drop_eq_nil_of_le (by omega), unq_esc_end]; rfl
theorem urel_end {L : List UInt8} {p : Nat} {o : List UInt8} (h : URel L p o) (hp : p = L.length) : unq L = some o := by
  unfold URel at h
  rw [h, List.drop_eq_nil_of_le (by omega)]
  simp [unq]
theorem unq_ne_nil (b : UInt8) (r o : List UInt8) (h : unq (b :: r) = some o) : 1 ≤ o.length := by
  cases r with
  | nil =>
    rw [unq] at h
    split at h
    · cases h
    · injection h with h; subst h; simp
  | cons c r =>
    rw [unq] at h
    split at h
    · split at h
      · cases hu : unq r with
        | none => rw [hu] at h; cases h
        | some x => rw [hu] at h; injection h with h; subst h; simp
      · cases h
    · split at h
      · cases h
      · cases hu : unq (c :: r) with
        | none => rw [hu] at h; cases h
        | some x => rw [hu] at h; injection h with h; subst h; simp
theorem urel_long {L : List UInt8} {p : Nat} {o : List UInt8} (h : URel L p o) (hp : p < L.length) (o' : List UInt8) (h' : unq L = some o') : o.length < o'.length := by
  unfold URel at h
  rw [h', drop_at L p hp] at h
  cases hu : unq (L.getD p 0 :: L.drop (p + 1)) with
  | none => rw [hu] at h; cases h
  | some x =>
    rw [hu] at h
    injection h with h
    have := unq_ne_nil _ _ _ hu
    rw [h, List.length_append]
    omega
theorem unq_len : ∀ (n : Nat) (l o : List UInt8), l.length ≤ n → unq l = some o → l.length ≤ 2 * o.length
  | 0, l, o, hn, _ => by omega
  | n + 1, l, o, hn, h => by
    match l, hn, h with
    | [], _, _ => simp
    | [b], _, h => have := unq_ne_nil b [] o h; simp; omega
    | b :: c :: r, hn, h =>
      rw [unq] at h
      simp only [List.length_cons] at hn ⊢
      split at h
      · split at h
        · cases hu : unq r with
          | none => rw [hu] at h; cases h
          | some x =>
            rw [hu] at h; injection h with h; subst h
            have := unq_len n r x (by omega) hu
            simp; omega
        · cases h
      · split at h
        · cases h
        · cases hu : unq (c :: r) with
          | none => rw [hu] at h; cases h
          | some x =>
            rw [hu] at h; injection h with h; subst h
            have := unq_len n (c :: r) x (by simp; omega) hu
            simp at this ⊢; omega

/-- What stands between the first and the last byte. -/
def inner (s : ByteArray) : List UInt8 := (s.data.toList.take (s.size - 1)).drop 1
def unqO (s : ByteArray) : Option (List UInt8) := if 2 ≤ s.size ∧ (at8 s 0).toNat = 34 ∧ (at8 s (s.size - 1)).toNat = 34 then (match unq (inner s) with | some o => if o.length ≤ 4000 then some o else none | none => none) else none
def unqB (s : ByteArray) : ByteArray := ⟨((unqO s).getD []).toArray⟩
def unqOk (s : ByteArray) : Bool := (unqO s).isSome
theorem unq_none {s : ByteArray} (h : unqO s = none) : unqB s = ⟨#[]⟩ ∧ unqOk s = false := by simp [unqB, unqOk, h]
theorem unq_some {s : ByteArray} {o : List UInt8} (h : unqO s = some o) : unqB s = ⟨o.toArray⟩ ∧ unqOk s = true := by simp [unqB, unqOk, h]
theorem unqO_ends {s : ByteArray} (h : ¬ (2 ≤ s.size ∧ (at8 s 0).toNat = 34 ∧ (at8 s (s.size - 1)).toNat = 34)) : unqO s = none := by unfold unqO; rw [if_neg h]
theorem unqO_none {s : ByteArray} (h : unq (inner s) = none) : unqO s = none := by
  unfold unqO; split
  · rw [h]
  · rfl
theorem unqO_long {s : ByteArray} (h : ∀ o, unq (inner s) = some o → 4000 < o.length) : unqO s = none := by
  unfold unqO; split
  · cases hu : unq (inner s) with
    | none => rfl
    | some o => have := h o hu; simp; omega
  · rfl
theorem unqO_some {s : ByteArray} {o : List UInt8} (h0 : 2 ≤ s.size) (h1 : (at8 s 0).toNat = 34) (h2 : (at8 s (s.size - 1)).toNat = 34) (h : unq (inner s) = some o) (hl : o.length ≤ 4000) : unqO s = some o := by
  unfold unqO; rw [if_pos ⟨h0, h1, h2⟩, h]; simp [hl]
theorem inner_length (s : ByteArray) : (inner s).length = s.size - 2 := by
  unfold inner
  rw [List.length_drop, List.length_take, len_data]; omega
theorem inner_at (s : ByteArray) (p : Nat) (h : p + 1 < s.size - 1) : (inner s).getD p 0 = at8 s (p + 1) := by
  unfold inner at8 List.getD
  rw [List.getElem?_drop, List.getElem?_take, if_pos (by omega), Nat.add_comm 1 p]
theorem unqO_big {s : ByteArray} (h : 8002 < s.size) : unqO s = none := by
  apply unqO_long
  intro o ho
  have := unq_len _ (inner s) o (Nat.le_refl _) ho
  rw [inner_length] at this
  omega
end Go.Proofs.YtbdggopdhnlbfaaDoor
