/-
  Plain functions of chapter 2: the names and the texts of dates. No Go in sight.
-/
import Derived.Test.YtffjpidjhcnnmabDoorMG
import Derived.Test.YtffjpidjhcnnmabDoorMC
namespace Go.Proofs.YtffjpidjhcnnmabDoor
set_option linter.unusedVariables false
set_option linter.unusedSimpArgs false
open Go.RowKit

def dayL (k : Nat) : List UInt8 := [[77, 111, 110, 100, 97, 121], [84, 117, 101, 115, 100, 97, 121], [87, 101, 100, 110, 101, 115, 100, 97, 121], [84, 104, 117, 114, 115, 100, 97, 121], [70, 114, 105, 100, 97, 121], [83, 97, 116, 117, 114, 100, 97, 121], [83, 117, 110, 100, 97, 121]].getD k []
def dayB (k : Nat) : ByteArray := ⟨(dayL k).toArray⟩
def monL (k : Nat) : List UInt8 := [[], [74, 97, 110], [70, 101, 98], [77, 97, 114], [65, 112, 114], [77, 97, 121], [74, 117, 110], [74, 117, 108], [65, 117, 103], [83, 101, 112], [79, 99, 116], [78, 111, 118], [68, 101, 99]].getD k []
def monB (k : Nat) : ByteArray := ⟨(monL k).toArray⟩
theorem seven {k : Nat} (h : k < 7) : k = 0 ∨ k = 1 ∨ k = 2 ∨ k = 3 ∨ k = 4 ∨ k = 5 ∨ k = 6 := by omega
theorem twelve {k : Nat} (h0 : 1 ≤ k) (h1 : k ≤ 12) : k = 1 ∨ k = 2 ∨ k = 3 ∨ k = 4 ∨ k = 5 ∨ k = 6 ∨ k = 7 ∨ k = 8 ∨ k = 9 ∨ k = 10 ∨ k = 11 ∨ k = 12 := by omega
theorem dayB_size {k : Nat} (h : k < 7) : 6 ≤ (dayB k).size ∧ (dayB k).size ≤ 9 := by
  rcases seven h with rfl | rfl | rfl | rfl | rfl | rfl | rfl <;> decide
theorem dayB_bd (k : Nat) : (dayB k).size ≤ 9 := by
  rcases Nat.lt_or_ge k 7 with h | h
  · exact (dayB_size h).2
  · have : dayL k = [] := by unfold dayL; rw [List.getD, List.getElem?_eq_none (by simp; omega)]; rfl
    unfold dayB
    rw [this]
    decide
theorem monB_size {k : Nat} (h0 : 1 ≤ k) (h1 : k ≤ 12) : (monB k).size = 3 := by
  rcases twelve h0 h1 with rfl | rfl | rfl | rfl | rfl | rfl | rfl | rfl | rfl | rfl | rfl | rfl <;> decide
theorem monB_bd (k : Nat) : (monB k).size ≤ 3 := by
  rcases Nat.lt_or_ge k 13 with h | h
  · rcases Nat.eq_zero_or_pos k with rfl | h'
    · decide
    · rw [monB_size h' (by omega)]; exact Nat.le_refl _
  · have : monL k = [] := by unfold monL; rw [List.getD, List.getElem?_eq_none (by simp; omega)]; rfl
    unfold monB
    rw [this]
    decide
/-- A day's first three letters. -/
def dayS (k : Nat) : ByteArray := (dayB k).extract 0 3
theorem dayS_size {k : Nat} (h : k < 7) : (dayS k).size = 3 := by
  rcases seven h with rfl | rfl | rfl | rfl | rfl | rfl | rfl <;> decide
def clockB (h i s : Nat) : ByteArray := digB h 2 ++ ⟨#[58]⟩ ++ digB i 2 ++ ⟨#[58]⟩ ++ digB s 2
theorem clockB_size (h i s : Nat) : (clockB h i s).size = 8 := by
  unfold clockB
  simp only [ByteArray.size_append, digB_size]
  rfl
def httpB (wd y m d h i s : Nat) : ByteArray := dayS wd ++ ⟨#[44, 32]⟩ ++ digB d 2 ++ ⟨#[32]⟩ ++ monB m ++ ⟨#[32]⟩ ++ digB y 4 ++ ⟨#[32]⟩ ++ clockB h i s ++ ⟨#[32, 71, 77, 84]⟩
def longB (wd y m d h i s : Nat) : ByteArray := dayB wd ++ ⟨#[44, 32]⟩ ++ digB d 2 ++ ⟨#[45]⟩ ++ monB m ++ ⟨#[45]⟩ ++ digB y 2 ++ ⟨#[32]⟩ ++ clockB h i s ++ ⟨#[32, 71, 77, 84]⟩
/-- The day of a line: a blank in a zero's place. -/
def bday (d : Nat) : ByteArray := if d < 10 then ⟨#[32]⟩ ++ digB d 1 else digB d 2
theorem bday_size (d : Nat) : (bday d).size = 2 := by
  unfold bday
  split
  · rw [ByteArray.size_append, digB_size]; rfl
  · exact digB_size d 2
def lineB (wd y m d h i s : Nat) : ByteArray := dayS wd ++ ⟨#[32]⟩ ++ monB m ++ ⟨#[32]⟩ ++ bday d ++ ⟨#[32]⟩ ++ clockB h i s ++ ⟨#[32]⟩ ++ digB y 4
def warcB (y m d h i s : Nat) : ByteArray := digB y 4 ++ ⟨#[45]⟩ ++ digB m 2 ++ ⟨#[45]⟩ ++ digB d 2 ++ ⟨#[84]⟩ ++ clockB h i s ++ ⟨#[90]⟩
def stampB (y m d h i s : Nat) : ByteArray := digB y 4 ++ digB m 2 ++ digB d 2 ++ digB h 2 ++ digB i 2 ++ digB s 2
theorem civ_ofN (t : Int) (h0 : 0 ≤ t) (h1 : t ≤ 253402300799) : ∃ y m d h i s : Nat, vld y m d h i s ∧ t = secs y m d h i s := by
  obtain ⟨y, m, d, h, i, s, hv, e⟩ := civ_of t h0 h1
  have hv' := hv
  unfold vld at hv'
  obtain ⟨y, rfl⟩ := Int.eq_ofNat_of_zero_le (a := y) (by omega)
  obtain ⟨m, rfl⟩ := Int.eq_ofNat_of_zero_le (a := m) (by omega)
  obtain ⟨d, rfl⟩ := Int.eq_ofNat_of_zero_le (a := d) (by omega)
  obtain ⟨h, rfl⟩ := Int.eq_ofNat_of_zero_le (a := h) (by omega)
  obtain ⟨i, rfl⟩ := Int.eq_ofNat_of_zero_le (a := i) (by omega)
  obtain ⟨s, rfl⟩ := Int.eq_ofNat_of_zero_le (a := s) (by omega)
  exact ⟨y, m, d, h, i, s, hv, e⟩
/-- The row of impl.digits, after k rounds. -/
def digRow (n p k : Nat) : List Int := List.replicate (p - k) 0 ++ (digL n k).map fun b => (b.toNat : Int)
theorem digRow_len (n p k : Nat) (h : k ≤ p) : (digRow n p k).length = p := by simp [digRow, digL_length]; omega
theorem digRow_zero (n p : Nat) : digRow n p 0 = List.replicate p 0 := by simp [digRow, digL]
theorem digRow_succ (n p k : Nat) (h : k < p) : digRow n p (k + 1) = (digRow n p k).set (p - 1 - k) (48 + ((n / 10 ^ k % 10 : Nat) : Int)) := by
  unfold digRow
  rw [show p - k = (p - (k + 1)) + 1 by omega, List.replicate_succ', digL, List.map_cons, List.append_assoc, List.set_append_right _ _ (by simp; omega)]
  have e : p - 1 - k - (List.replicate (p - (k + 1)) (0 : Int)).length = 0 := by simp; omega
  rw [e]
  simp only [List.cons_append, List.nil_append, List.set_cons_zero]
  congr 2
  simp
  omega
theorem digRow_all (n p : Nat) : strOfNums (digRow n p p) = digB n p := by
  unfold digRow strOfNums digB
  rw [Nat.sub_self]
  simp only [List.replicate_zero, List.nil_append, List.map_map]
  congr 2
  conv => rhs; rw [← List.map_id (digL n p)]
  apply List.map_congr_left
  intro b _
  simp
end Go.Proofs.YtffjpidjhcnnmabDoor
