/-
  Plain functions of chapter 1: quotes. No Go in sight.
-/
import Derived.Test.YtffjpidjhcnnmabDoorM2
namespace Go.Proofs.YtffjpidjhcnnmabDoor
set_option linter.unusedVariables false
set_option linter.unusedSimpArgs false
open Go.RowKit

def plainP (n : Int) : Bool := n == 9 || (decide (32 ≤ n) && n != 127)
def plain8 (b : UInt8) : Bool := plainP (b.toNat : Int)
def quoP (n : Int) : Bool := n == 34 || n == 92
def quo8 (b : UInt8) : Bool := quoP (b.toNat : Int)
def esc8 (b : UInt8) : List UInt8 := if quo8 b = true then [92, b] else [b]
def escL (l : List UInt8) : List UInt8 := l.flatMap esc8
def quoL (l : List UInt8) : List UInt8 := 34 :: escL l ++ [34]
def quoOk (s : ByteArray) : Bool := decide (s.size ≤ 4000) && s.data.toList.all plain8
def quoB (s : ByteArray) : ByteArray := if quoOk s = true then ⟨(quoL s.data.toList).toArray⟩ else ⟨#[]⟩

theorem plainP_yes {n : Int} (h : (n == 9) = true) : plainP n = true := by simp [plainP, h]
theorem plainP_lo {n : Int} (h : (n == 9) = false) (h2 : ¬ 32 ≤ n) : plainP n = false := by simp [plainP, h, h2]
theorem plainP_hi {n : Int} (h : (n == 9) = false) (h2 : 32 ≤ n) : plainP n = (n != 127) := by simp [plainP, h, h2]
theorem quoP_yes {n : Int} (h : (n == 34) = true) : quoP n = true := by simp [quoP, h]
theorem quoP_no {n : Int} (h : (n == 34) = false) : quoP n = (n == 92) := by simp [quoP, h]

theorem escL_snoc (l : List UInt8) (b : UInt8) : escL (l ++ [b]) = escL l ++ esc8 b := by simp [escL]
theorem escL_len (l : List UInt8) : (escL l).length ≤ 2 * l.length := by
  induction l with
  | nil => simp [escL]
  | cons a l ih =>
    have : escL (a :: l) = esc8 a ++ escL l := by simp [escL]
    rw [this, List.length_append, List.length_cons]
    have : (esc8 a).length ≤ 2 := by unfold esc8; split <;> simp
    omega
theorem quo_big {s : ByteArray} (h : 4000 < s.size) : quoB s = ⟨#[]⟩ ∧ quoOk s = false := by
  have : quoOk s = false := by unfold quoOk; simp [show ¬ s.size ≤ 4000 by omega]
  exact ⟨by simp [quoB, this], this⟩
theorem quo_no {s : ByteArray} {k : Nat} (hk : k < s.size) (h : plain8 (at8 s k) = false) : quoB s = ⟨#[]⟩ ∧ quoOk s = false := by
  have : quoOk s = false := by
    unfold quoOk
    have hl : k < s.data.toList.length := by rw [len_data]; exact hk
    have : s.data.toList.all plain8 = false := by
      rw [List.all_eq_false]
      refine ⟨s.data.toList[k], List.getElem_mem hl, ?_⟩
      simp [at8, List.getD, List.getElem?_eq_getElem hl] at h
      simp [h]
    simp [this]
  exact ⟨by simp [quoB, this], this⟩
theorem quo_yes {s : ByteArray} (h1 : s.size ≤ 4000) (h : ∀ j, j < s.size → plain8 (at8 s j) = true) : quoB s = ⟨(quoL s.data.toList).toArray⟩ ∧ quoOk s = true := by
  have : quoOk s = true := by
    unfold quoOk
    have : s.data.toList.all plain8 = true := by
      rw [List.all_eq_true]
      intro x hx
      obtain ⟨j, hj, rfl⟩ := List.mem_iff_getElem.1 hx
      have := h j (by rw [← len_data]; exact hj)
      simpa [at8, List.getD, List.getElem?_eq_getElem hj] using this
    simp [this, h1]
  exact ⟨by simp [quoB, this], this⟩
theorem take_succ8 (s : ByteArray) (k : Nat) (hk : k < s.size) : s.data.toList.take (k + 1) = s.data.toList.take k ++ [at8 s k] := by
  have hl : k < s.data.toList.length := by rw [len_data]; exact hk
  rw [List.take_succ_eq_append_getElem hl]
  simp [at8, List.getD, List.getElem?_eq_getElem hl]
end Go.Proofs.YtffjpidjhcnnmabDoor
