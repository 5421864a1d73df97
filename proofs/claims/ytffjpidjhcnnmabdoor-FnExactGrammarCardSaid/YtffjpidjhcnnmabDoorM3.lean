/-
  Plain functions of chapter 1: signs of a token. No Go in sight.
-/
import Derived.Test.YtffjpidjhcnnmabDoorM2
namespace Go.Proofs.YtffjpidjhcnnmabDoor
set_option linter.unusedVariables false
set_option linter.unusedSimpArgs false
open Go.RowKit

def inL (l : List UInt8) (n : Int) : Bool := l.any fun b => (b.toNat : Int) == n
def letP (n : Int) : Bool := decide (97 ≤ lowI n) && decide (lowI n ≤ 122)
def tokSigns : List UInt8 := [33, 35, 36, 37, 38, 39, 42, 43, 45, 46, 94, 95, 124, 126, 96]
def tokSigns14 : List UInt8 := [33, 35, 36, 37, 38, 39, 42, 43, 45, 46, 94, 95, 124, 126]
def tokP (n : Int) : Bool := letP n || digP n || inL tokSigns n
def tok8 (b : UInt8) : Bool := tokP (b.toNat : Int)
def tokB (s : ByteArray) : Bool := decide (0 < s.size) && decide (s.size ≤ 4000) && s.data.toList.all tok8

theorem tokP_let {n : Int} (h : letP n = true) : tokP n = true := by simp [tokP, h]
theorem tokP_dig {n : Int} (h : digP n = true) : tokP n = true := by simp [tokP, h]
theorem tokP_sig {n : Int} (h1 : letP n = false) (h2 : digP n = false) : tokP n = inL tokSigns n := by simp [tokP, h1, h2]
theorem tokP_96 {n : Int} (h1 : letP n = false) (h2 : digP n = false) (h3 : (n == 96) = true) : tokP n = true := by
  rw [tokP_sig h1 h2]
  rw [beq_iff_eq] at h3
  subst h3
  decide
theorem tokP_14 {n : Int} (h1 : letP n = false) (h2 : digP n = false) (h3 : (n == 96) = false) : tokP n = inL tokSigns14 n := by
  rw [tokP_sig h1 h2]
  have h4 : ((96 : Int) == n) = false := by rw [Bool.eq_false_iff, ne_eq, beq_iff_eq] at h3 ⊢; omega
  show (tokSigns14 ++ [96]).any _ = tokSigns14.any _
  rw [List.any_append]
  have h5 : ([96] : List UInt8).any (fun b => (b.toNat : Int) == n) = false := by
    show ((96 : Int) == n || false) = false
    rw [h4]; rfl
  rw [h5, Bool.or_false]
theorem inL_hit {l : List UInt8} {n : Int} {k : Nat} (hk : k < l.length) (h : (l[k].toNat : Int) = n) : inL l n = true := by
  unfold inL
  rw [List.any_eq_true]
  exact ⟨l[k], List.getElem_mem hk, by simp [h]⟩
theorem inL_miss {l : List UInt8} {n : Int} (h : ∀ j, j < l.length → ((l.getD j 0).toNat : Int) ≠ n) : inL l n = false := by
  unfold inL
  rw [List.any_eq_false]
  intro x hx
  obtain ⟨j, hj, rfl⟩ := List.mem_iff_getElem.1 hx
  have := h j hj
  rw [List.getD, List.getElem?_eq_getElem hj] at this
  simpa using this
theorem tokB_no {s : ByteArray} {k : Nat} (hk : k < s.size) (h : tok8 (at8 s k) = false) : tokB s = false := by
  unfold tokB
  have hl : k < s.data.toList.length := by simpa using hk
  have : s.data.toList.all tok8 = false := by
    rw [List.all_eq_false]
    refine ⟨s.data.toList[k], List.getElem_mem hl, ?_⟩
    simp [at8, List.getD, List.getElem?_eq_getElem hl] at h
    simp [h]
  simp [this]
theorem tokB_yes {s : ByteArray} (h0 : 0 < s.size) (h1 : s.size ≤ 4000) (h : ∀ j, j < s.size → tok8 (at8 s j) = true) : tokB s = true := by
  unfold tokB
  have : s.data.toList.all tok8 = true := by
    rw [List.all_eq_true]
    intro x hx
    obtain ⟨j, hj, rfl⟩ := List.mem_iff_getElem.1 hx
    have := h j (by simpa using hj)
    simpa [at8, List.getD, List.getElem?_eq_getElem hj] using this
  simp [this, h0, h1]
theorem tokB_size {s : ByteArray} (h : s.size = 0 ∨ 4000 < s.size) : tokB s = false := by
  unfold tokB
  rcases h with h | h
  · simp [h]
  · simp [show ¬ s.size ≤ 4000 by omega]
end Go.Proofs.YtffjpidjhcnnmabDoor
