/-
  Plain functions of chapter 1: decimal numbers. No Go in sight.
-/
import Derived.Test.YtffjpidjhcnnmabDoorM2
import Derived.Lib.ItoaNum
namespace Go.Proofs.YtffjpidjhcnnmabDoor
set_option linter.unusedVariables false
set_option linter.unusedSimpArgs false
open Go.RowKit

def decB (u : Nat) : ByteArray := ⟨(Lib.decDigits u).toArray⟩
theorem decB_list (u : Nat) : (decB u).data.toList = Lib.decDigits u := rfl
def valL (l : List UInt8) : Nat := l.foldl (fun n b => n * 10 + (b.toNat - 48)) 0
theorem valL_snoc (l : List UInt8) (b : UInt8) : valL (l ++ [b]) = valL l * 10 + (b.toNat - 48) := by simp [valL]
def allDig (l : List UInt8) : Bool := l.all dig8
theorem dig8_iff (b : UInt8) : dig8 b = true ↔ 48 ≤ b.toNat ∧ b.toNat ≤ 57 := by
  unfold dig8 digP
  simp
  omega
theorem dig8_no (b : UInt8) (h : dig8 b = false) : b.toNat < 48 ∨ 57 < b.toNat := by
  have : ¬ (48 ≤ b.toNat ∧ b.toNat ≤ 57) := fun hh => by rw [(dig8_iff b).2 hh] at h; cases h
  omega
def rdec (s : ByteArray) : Option Nat := if 0 < s.size ∧ s.size ≤ 15 ∧ allDig s.data.toList = true ∧ Lib.decDigits (valL s.data.toList) = s.data.toList then some (valL s.data.toList) else none

theorem snoc_ind {α : Type} {p : List α → Prop} (h0 : p []) (h1 : ∀ l a, p l → p (l ++ [a])) : ∀ l, p l := by
  intro l
  have : ∀ r : List α, p r.reverse := by
    intro r
    induction r with
    | nil => exact h0
    | cons a r ih => rw [List.reverse_cons]; exact h1 _ _ ih
  simpa using this l.reverse

theorem valL_lt (l : List UInt8) (h : allDig l = true) : valL l < 10 ^ l.length := by
  revert h
  refine snoc_ind (p := fun l => allDig l = true → valL l < 10 ^ l.length) ?_ ?_ l
  · intro _; simp [valL]
  · intro q b ih h
    have hq : allDig q = true := by unfold allDig at h ⊢; rw [List.all_append] at h; simp at h; simpa using h.1
    have hb : dig8 b = true := by unfold allDig at h; rw [List.all_append] at h; simp at h; exact h.2
    have := ih hq
    have hb' := (dig8_iff b).1 hb
    rw [valL_snoc, List.length_append, List.length_singleton, Nat.pow_succ]
    omega
theorem valL_ge (l : List UInt8) (h : allDig l = true) (hl : l ≠ []) (hz : l.head? ≠ some 48) : 10 ^ (l.length - 1) ≤ valL l := by
  revert h hl hz
  refine snoc_ind (p := fun l => allDig l = true → l ≠ [] → l.head? ≠ some 48 → 10 ^ (l.length - 1) ≤ valL l) ?_ ?_ l
  · intro _ h; exact absurd rfl h
  · intro q b ih h _ hz
    have hq : allDig q = true := by unfold allDig at h ⊢; rw [List.all_append] at h; simp at h; simpa using h.1
    have hb : dig8 b = true := by unfold allDig at h; rw [List.all_append] at h; simp at h; exact h.2
    have hb' := (dig8_iff b).1 hb
    rw [valL_snoc, List.length_append, List.length_singleton]
    by_cases e : q = []
    · subst e
      have hne : b.toNat ≠ 48 := by
        intro hh
        apply hz
        have : b = 48 := UInt8.toNat_inj.1 hh
        rw [this]; rfl
      simp [valL]
      omega
    · have hz' : q.head? ≠ some 48 := by
        intro hh; apply hz; rw [List.head?_append, hh]; rfl
      have := ih hq e hz'
      have hlen : q.length + 1 - 1 = (q.length - 1) + 1 := by have := List.length_pos_iff.2 e; omega
      rw [hlen, Nat.pow_succ]
      omega
theorem decDigits_step (u : Nat) (h : ¬ u < 10) : Lib.decDigits u = Lib.decDigits (u / 10) ++ [UInt8.ofNat (48 + u % 10)] := by
  rw [Lib.decDigits, dif_neg h]
theorem ofNat_dig (b : UInt8) (h : 48 ≤ b.toNat) : UInt8.ofNat (48 + (b.toNat - 48)) = b := by
  rw [show 48 + (b.toNat - 48) = b.toNat from by omega]; simp
theorem decDigits_val (l : List UInt8) (h : allDig l = true) (hl : l ≠ []) (hz : l.head? ≠ some 48) : Lib.decDigits (valL l) = l := by
  revert h hl hz
  refine snoc_ind (p := fun l => allDig l = true → l ≠ [] → l.head? ≠ some 48 → Lib.decDigits (valL l) = l) ?_ ?_ l
  · intro _ h; exact absurd rfl h
  · intro q b ih h _ hz
    have hq : allDig q = true := by unfold allDig at h ⊢; rw [List.all_append] at h; simp at h; simpa using h.1
    have hb : dig8 b = true := by unfold allDig at h; rw [List.all_append] at h; simp at h; exact h.2
    have hb' := (dig8_iff b).1 hb
    rw [valL_snoc]
    by_cases e : q = []
    · subst e
      have : valL [] * 10 + (b.toNat - 48) = b.toNat - 48 := by simp [valL]
      rw [this, Lib.decDigits, dif_pos (by omega), ofNat_dig b hb'.1]; rfl
    · have hz' : q.head? ≠ some 48 := by
        intro hh; apply hz; rw [List.head?_append, hh]; rfl
      have h1 := valL_ge q hq e hz'
      have h2 : 1 ≤ 10 ^ (q.length - 1) := Nat.one_le_pow _ _ (by decide)
      rw [decDigits_step _ (by omega)]
      have e1 : (valL q * 10 + (b.toNat - 48)) / 10 = valL q := by omega
      have e2 : (valL q * 10 + (b.toNat - 48)) % 10 = b.toNat - 48 := by omega
      rw [e1, e2, ih hq e hz', ofNat_dig b hb'.1]
theorem decDigits_ne_nil (u : Nat) : Lib.decDigits u ≠ [] := by
  by_cases h : u < 10
  · rw [Lib.decDigits, dif_pos h]; simp
  · rw [decDigits_step u h]; simp
theorem decDigits_head (u : Nat) (h : (Lib.decDigits u).head? = some 48) : u = 0 := by
  induction u using Nat.strongRecOn with
  | _ u ih =>
    by_cases hu : u < 10
    · rw [Lib.decDigits, dif_pos hu] at h
      have h' : UInt8.ofNat (48 + u) = 48 := Option.some.inj h
      have : (UInt8.ofNat (48 + u)).toNat = (48 : UInt8).toNat := by rw [h']
      rw [UInt8.toNat_ofNat'] at this
      have e : (48 : UInt8).toNat = 48 := rfl
      omega
    · rw [decDigits_step u hu, List.head?_append] at h
      have hne := decDigits_ne_nil (u / 10)
      have : (Lib.decDigits (u / 10)).head? = some 48 := by
        cases hq : Lib.decDigits (u / 10) with
        | nil => exact absurd hq hne
        | cons a r => rw [hq] at h; simpa using h
      have := ih (u / 10) (by omega) this
      omega
theorem allDig_dec (u : Nat) : allDig (Lib.decDigits u) = true := by
  induction u using Nat.strongRecOn with
  | _ u ih =>
    have one : ∀ d, d < 10 → dig8 (UInt8.ofNat (48 + d)) = true := by
      intro d hd
      rw [dig8_iff]
      simp
      omega
    by_cases hu : u < 10
    · rw [Lib.decDigits, dif_pos hu]
      show (dig8 (UInt8.ofNat (48 + u)) && true) = true
      rw [one u hu]; rfl
    · rw [decDigits_step u hu]
      unfold allDig
      rw [List.all_append]
      have := ih (u / 10) (by omega)
      unfold allDig at this
      rw [this]
      show (true && (dig8 (UInt8.ofNat (48 + u % 10)) && true)) = true
      rw [one (u % 10) (by omega)]; rfl
theorem valL_dec (u : Nat) : valL (Lib.decDigits u) = u := by
  induction u using Nat.strongRecOn with
  | _ u ih =>
    have one : ∀ d, d < 10 → (UInt8.ofNat (48 + d)).toNat - 48 = d := by
      intro d hd; simp; omega
    by_cases hu : u < 10
    · rw [Lib.decDigits, dif_pos hu]
      have := one u hu
      simp [valL] at this ⊢
      omega
    · rw [decDigits_step u hu, valL_snoc, ih (u / 10) (by omega), one (u % 10) (by omega)]
      omega
theorem decDigits_len (u : Nat) (h : u ≤ 999999999999999) : (Lib.decDigits u).length ≤ 15 := by
  rw [Lib.decDigits_length]
  rcases Nat.lt_or_ge 15 (Lib.nDigits u) with h1 | h1
  · exfalso
    have hl := valL_ge (Lib.decDigits u) (allDig_dec u) (decDigits_ne_nil u) (by
      intro hh
      have := decDigits_head u hh
      subst this
      rw [Lib.nDigits_small (by omega)] at h1
      omega)
    rw [valL_dec, Lib.decDigits_length] at hl
    have h2 : 10 ^ 15 ≤ 10 ^ (Lib.nDigits u - 1) := Nat.pow_le_pow_right (by decide) (by omega)
    have h3 : (10 : Nat) ^ 15 = 1000000000000000 := by decide
    omega
  · exact h1

/-! What the loops of ReadDec come to. -/
theorem allDig_take_succ (s : ByteArray) (k : Nat) (hk : k < s.size) : s.data.toList.take (k + 1) = s.data.toList.take k ++ [at8 s k] := by
  have hl : k < s.data.toList.length := by rw [len_data]; exact hk
  rw [List.take_succ_eq_append_getElem hl]
  simp [at8, List.getD, List.getElem?_eq_getElem hl]
theorem allDig_snoc (l : List UInt8) (b : UInt8) (h : allDig l = true) (hb : dig8 b = true) : allDig (l ++ [b]) = true := by
  unfold allDig at *
  rw [List.all_append, h]
  simp [hb]
theorem allDig_no (s : ByteArray) (k : Nat) (hk : k < s.size) (h : dig8 (at8 s k) = false) : allDig s.data.toList = false := by
  have hl : k < s.data.toList.length := by rw [len_data]; exact hk
  unfold allDig
  rw [List.all_eq_false]
  refine ⟨s.data.toList[k], List.getElem_mem hl, ?_⟩
  simp [at8, List.getD, List.getElem?_eq_getElem hl] at h
  simp [h]
theorem rdec_nodig (s : ByteArray) (k : Nat) (hk : k < s.size) (h : dig8 (at8 s k) = false) : rdec s = none := by
  unfold rdec
  rw [if_neg]
  rintro ⟨_, _, h3, _⟩
  rw [allDig_no s k hk h] at h3
  cases h3
theorem rdec_size (s : ByteArray) (h : s.size = 0 ∨ 15 < s.size) : rdec s = none := by
  unfold rdec
  rw [if_neg]
  rintro ⟨h1, h2, _⟩
  omega
theorem rdec_ne (s : ByteArray) (h : Lib.decDigits (valL s.data.toList) ≠ s.data.toList) : rdec s = none := by
  unfold rdec
  rw [if_neg]
  rintro ⟨_, _, _, h4⟩
  exact h h4
theorem rdec_yes (s : ByteArray) (h0 : 0 < s.size) (h1 : s.size ≤ 15) (h2 : allDig s.data.toList = true) (h3 : Lib.decDigits (valL s.data.toList) = s.data.toList) : rdec s = some (valL s.data.toList) := by
  unfold rdec
  rw [if_pos ⟨h0, h1, h2, h3⟩]
theorem head_at8 (s : ByteArray) (h : 0 < s.size) : s.data.toList.head? = some (at8 s 0) := by
  have hl : 0 < s.data.toList.length := by rw [len_data]; exact h
  rw [List.head?_eq_getElem?]
  simp [at8, List.getD, List.getElem?_eq_getElem hl]
/-- A 0 ahead of other digits. -/
theorem rdec_zero (s : ByteArray) (h : 0 < s.size) (h0 : (at8 s 0).toNat = 48) (hne : s.data.toList ≠ [48]) : rdec s = none := by
  apply rdec_ne
  intro hh
  have h1 := head_at8 s h
  have : at8 s 0 = 48 := UInt8.toNat_inj.1 h0
  rw [this, ← hh] at h1
  have hz := decDigits_head _ h1
  rw [hz] at hh
  apply hne
  rw [← hh, Lib.decDigits, dif_pos (by omega)]
  rfl
/-- Behind the last round. -/
theorem rdec_end (s : ByteArray) (h : 0 < s.size) (hd : allDig s.data.toList = true) (hz : (at8 s 0).toNat ≠ 48 ∨ s.data.toList = [48]) (hm : valL s.data.toList ≤ 999999999999999) : rdec s = some (valL s.data.toList) := by
  have hne : s.data.toList ≠ [] := by
    intro hh; have := len_data s; rw [hh] at this; simp at this; omega
  rcases hz with hz | hz
  · have hh : s.data.toList.head? ≠ some 48 := by
      rw [head_at8 s h]; intro e; apply hz; injection e with e; rw [e]; rfl
    have h1 := valL_ge _ hd hne hh
    refine rdec_yes s h ?_ hd (decDigits_val _ hd hne hh)
    rcases Nat.lt_or_ge 15 s.size with h2 | h2
    · exfalso
      have h3 : 10 ^ 15 ≤ 10 ^ (s.data.toList.length - 1) := Nat.pow_le_pow_right (by decide) (by rw [len_data]; omega)
      have h4 : (10 : Nat) ^ 15 = 1000000000000000 := by decide
      omega
    · exact h2
  · have hs : s.size = 1 := by rw [← len_data, hz]; rfl
    refine rdec_yes s h (by omega) hd ?_
    rw [hz]
    have : valL [48] = 0 := by decide
    rw [this, Lib.decDigits, dif_pos (by omega)]
    rfl
theorem allDig_take (l : List UInt8) (k : Nat) (h : allDig l = true) : allDig (l.take k) = true := by
  unfold allDig at *
  rw [List.all_eq_true] at *
  intro x hx
  exact h x (List.mem_of_mem_take hx)
/-- A value that has passed the bound. -/
theorem rdec_big (s : ByteArray) (k : Nat) (hk : k ≤ s.size) (hd : allDig (s.data.toList.take k) = true) (hm : 999999999999999 < valL (s.data.toList.take k)) : rdec s = none := by
  apply rdec_size
  right
  rcases Nat.lt_or_ge 15 s.size with h2 | h2
  · exact h2
  · exfalso
    have h1 := valL_lt _ hd
    have h3 : 10 ^ (s.data.toList.take k).length ≤ 10 ^ 15 := Nat.pow_le_pow_right (by decide) (by simp; omega)
    have h4 : (10 : Nat) ^ 15 = 1000000000000000 := by decide
    omega
end Go.Proofs.YtffjpidjhcnnmabDoor
