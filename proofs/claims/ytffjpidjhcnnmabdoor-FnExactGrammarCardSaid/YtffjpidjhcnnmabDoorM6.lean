/-
  Plain functions of chapter 1: numbers in sixteens. No Go in sight.
-/
import Derived.Test.YtffjpidjhcnnmabDoorM4
namespace Go.Proofs.YtffjpidjhcnnmabDoor
set_option linter.unusedVariables false
set_option linter.unusedSimpArgs false
open Go.RowKit

/-- The value of a digit of sixteen, -1 for any other byte. -/
def hexV (n : Int) : Int := if digP n = true then n - 48 else if 97 ≤ lowI n ∧ lowI n ≤ 102 then lowI n - 87 else -1
def hex8 (b : UInt8) : Int := hexV (b.toNat : Int)
def hval (l : List UInt8) : Int := l.foldl (fun n b => n * 16 + hex8 b) 0
def allHex (l : List UInt8) : Bool := l.all fun b => decide (0 ≤ hex8 b)
def rhexOk (s : ByteArray) : Bool := decide (0 < s.size) && decide (s.size ≤ 7) && allHex s.data.toList
def rhexN (s : ByteArray) : Int := if rhexOk s = true then hval s.data.toList else 0

theorem digP_iff {n : Int} : digP n = true ↔ 48 ≤ n ∧ n ≤ 57 := by unfold digP; simp
theorem hexV_dig {n : Int} (h : digP n = true) : hexV n = n - 48 := by unfold hexV; rw [if_pos h]
theorem hexV_let {n : Int} (h : digP n = false) (h1 : 97 ≤ lowI n) (h2 : lowI n ≤ 102) : hexV n = lowI n - 87 := by
  unfold hexV; rw [if_neg (by simp [h]), if_pos ⟨h1, h2⟩]
theorem hexV_no {n : Int} (h : digP n = false) (h1 : lowI n < 97 ∨ 102 < lowI n) : hexV n = -1 := by
  unfold hexV; rw [if_neg (by simp [h]), if_neg (by omega)]
theorem hexV_bd (n : Int) : -1 ≤ hexV n ∧ hexV n ≤ 15 := by
  unfold hexV
  split
  · rename_i h; rw [digP_iff] at h; omega
  · split <;> omega
theorem digP_low (n : Int) (h0 : 0 ≤ n) : digP (lowI n) = digP n := by
  unfold digP lowI
  by_cases h : 65 ≤ n ∧ n ≤ 90
  · rw [if_pos h]
    have h1 : ¬ n ≤ 57 := by omega
    have h2 : ¬ n + 32 ≤ 57 := by omega
    simp [h1, h2]
  · rw [if_neg h]
theorem lowI_dig {n : Int} (h : digP n = true) : lowI n = n := by
  rw [digP_iff] at h; unfold lowI; rw [if_neg (by omega)]
theorem hval_snoc (l : List UInt8) (b : UInt8) : hval (l ++ [b]) = hval l * 16 + hex8 b := by simp [hval]
theorem hval_bd (l : List UInt8) (h : allHex l = true) : 0 ≤ hval l ∧ hval l < 16 ^ l.length := by
  revert h
  refine snoc_ind (p := fun l => allHex l = true → 0 ≤ hval l ∧ hval l < 16 ^ l.length) ?_ ?_ l
  · intro _; simp [hval]
  · intro q b ih h
    have hq : allHex q = true := by unfold allHex at h ⊢; rw [List.all_append] at h; simp at h; simpa using h.1
    have hb : 0 ≤ hex8 b := by unfold allHex at h; rw [List.all_append] at h; simp at h; exact h.2
    have hb2 := (hexV_bd (b.toNat : Int)).2
    have := ih hq
    have hb3 : hex8 b ≤ 15 := hb2
    rw [hval_snoc, List.length_append, List.length_singleton, Int.pow_succ]
    omega
theorem allHex_snoc (l : List UInt8) (b : UInt8) (h : allHex l = true) (hb : 0 ≤ hex8 b) : allHex (l ++ [b]) = true := by
  unfold allHex at *
  rw [List.all_append, h]
  simp [hb]
theorem allHex_no (s : ByteArray) (k : Nat) (hk : k < s.size) (h : hex8 (at8 s k) < 0) : allHex s.data.toList = false := by
  have hl : k < s.data.toList.length := by rw [len_data]; exact hk
  unfold allHex
  rw [List.all_eq_false]
  refine ⟨s.data.toList[k], List.getElem_mem hl, ?_⟩
  simp [at8, List.getD, List.getElem?_eq_getElem hl] at h
  simpa using h
theorem rhex_size {s : ByteArray} (h : s.size = 0 ∨ 7 < s.size) : rhexN s = 0 ∧ rhexOk s = false := by
  have : rhexOk s = false := by
    unfold rhexOk
    rcases h with h | h
    · simp [h]
    · simp [show ¬ s.size ≤ 7 by omega]
  exact ⟨by simp [rhexN, this], this⟩
theorem rhex_no {s : ByteArray} {k : Nat} (hk : k < s.size) (h : hex8 (at8 s k) < 0) : rhexN s = 0 ∧ rhexOk s = false := by
  have : rhexOk s = false := by unfold rhexOk; simp [allHex_no s k hk h]
  exact ⟨by simp [rhexN, this], this⟩
theorem rhex_yes {s : ByteArray} (h0 : 0 < s.size) (h1 : s.size ≤ 7) (h : allHex s.data.toList = true) : rhexN s = hval s.data.toList ∧ rhexOk s = true := by
  have : rhexOk s = true := by unfold rhexOk; simp [h0, h1, h]
  exact ⟨by simp [rhexN, this], this⟩
theorem hval_small (s : ByteArray) (k : Nat) (hk : k ≤ 7) (h : allHex (s.data.toList.take k) = true) : 0 ≤ hval (s.data.toList.take k) ∧ hval (s.data.toList.take k) < 268435456 := by
  have h1 := hval_bd _ h
  have h2 : (s.data.toList.take k).length ≤ 7 := by simp; omega
  have h3' : (16 : Nat) ^ (s.data.toList.take k).length ≤ 16 ^ 7 := Nat.pow_le_pow_right (by decide) h2
  have h3 : (16 : Int) ^ (s.data.toList.take k).length ≤ 16 ^ 7 := by exact_mod_cast h3'
  have h4 : (16 : Int) ^ 7 = 268435456 := by decide
  omega
end Go.Proofs.YtffjpidjhcnnmabDoor
