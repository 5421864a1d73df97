/-
  Chapter 6: messages, on lists. No Go in sight.
-/
import Derived.Test.YtaelopjalfapgacF3
import Derived.Test.YtaelopjalfapgacWIt
namespace Go.Proofs.Ytaelopjalfapgac
set_option linter.unusedVariables false
set_option linter.unusedSimpArgs false
open Go.RowKit
/-- All bytes are of a kind. -/
def allB (p : UInt8 → Bool) (s : ByteArray) : Bool := s.data.toList.all p
theorem allB_no {p : UInt8 → Bool} {s : ByteArray} {k : Nat} (hk : k < s.size) (h : p (at8 s k) = false) : allB p s = false := by
  unfold allB
  have hl : k < s.data.toList.length := by simpa using hk
  rw [List.all_eq_false]
  refine ⟨s.data.toList[k], List.getElem_mem hl, ?_⟩
  simp [at8, List.getD, List.getElem?_eq_getElem hl] at h
  simp [h]
theorem allB_yes {p : UInt8 → Bool} {s : ByteArray} (h : ∀ j, j < s.size → p (at8 s j) = true) : allB p s = true := by
  unfold allB
  rw [List.all_eq_true]
  intro x hx
  obtain ⟨j, hj, rfl⟩ := List.mem_iff_getElem.1 hx
  have := h j (by simpa using hj)
  simpa [at8, List.getD, List.getElem?_eq_getElem hj] using this
/-- A byte that may stand in a target. -/
def visP (n : Int) : Bool := decide (33 ≤ n) && decide (n ≤ 126)
def vis8 (b : UInt8) : Bool := visP (b.toNat : Int)
def targQ (s : ByteArray) : Bool := decide (1 ≤ (s.size : Int)) && decide ((s.size : Int) ≤ 200) && allB vis8 s
def methQ (s : ByteArray) : Bool := tokB s && decide ((s.size : Int) ≤ 20)
def nilB : ByteArray := ⟨#[]⟩
/-- A message. -/
structure Mg where
  me : ByteArray
  ta : ByteArray
  st : Int
  re : ByteArray
  ba : Bool
  fs : List Fd
  bo : ByteArray
def mg0 : Mg := ⟨⟨#[]⟩, ⟨#[]⟩, 0, ⟨#[]⟩, false, [], ⟨#[]⟩⟩
def reqQ (m : Mg) : Bool := methQ m.me && targQ m.ta && (m.st == 0) && eqB m.re ⟨#[]⟩ && !m.ba
def stQ (n : Int) : Bool := decide (200 ≤ n) && decide (n ≤ 599)
def bareSt (n : Int) : Bool := n == 204 || n == 304
def ansQ (m : Mg) : Bool := eqB m.ta ⟨#[]⟩ && stQ m.st && decide ((m.re.size : Int) ≤ 40) && plnB m.re
def bareQ (m : Mg) : Bool := if m.ba = true then eqB m.bo ⟨#[]⟩ else !bareSt m.st
def kindQ (m : Mg) : Bool := if eqB m.me ⟨#[]⟩ = true then ansQ m && bareQ m else reqQ m
/-- content-length, transfer-encoding, trailer. -/
def clN : ByteArray := ⟨#[99, 111, 110, 116, 101, 110, 116, 45, 108, 101, 110, 103, 116, 104]⟩
def teN : ByteArray := ⟨#[116, 114, 97, 110, 115, 102, 101, 114, 45, 101, 110, 99, 111, 100, 105, 110, 103]⟩
def trN : ByteArray := ⟨#[116, 114, 97, 105, 108, 101, 114]⟩
def clW : ByteArray := ⟨#[67, 111, 110, 116, 101, 110, 116, 45, 76, 101, 110, 103, 116, 104]⟩
def frmN (d : ByteArray) : Bool := eqB (foldB d) clN || eqB (foldB d) teN || eqB (foldB d) trN
def unfrL (l : List Fd) : List Fd := l.filter fun x => !frmN x.1
def frmL (l : List Fd) : Bool := l.any fun x => frmN x.1
theorem unfr_len {l : List Fd} : (unfrL l).length = l.length ↔ frmL l = false := by
  unfold unfrL frmL
  rw [List.length_filter_eq_length_iff, List.any_eq_false]
  constructor
  · intro h x hx; have := h x hx; simpa using this
  · intro h x hx; have := h x hx; simpa using this
/-- The first line. -/
def firstL (m : Mg) : List UInt8 := if eqB m.me ⟨#[]⟩ = true then [72, 84, 84, 80, 47, 49, 46, 49, 32] ++ (decT m.st).data.toList ++ [32] ++ m.re.data.toList else m.me.data.toList ++ [32] ++ m.ta.data.toList ++ [32, 72, 84, 84, 80, 47, 49, 46, 49]
def linesL (l : List Fd) : List UInt8 := (l.map fun x => (ftextB x).data.toList ++ [13, 10]).flatten
theorem linesL_nil : linesL [] = [] := rfl
theorem linesL_app (a b : List Fd) : linesL (a ++ b) = linesL a ++ linesL b := by simp [linesL]
theorem linesL_one (x : Fd) : linesL [x] = (ftextB x).data.toList ++ [13, 10] := by simp [linesL]
theorem linesL_next (l : List Fd) (k : Nat) (h : k < l.length) : linesL (l.take (k + 1)) = linesL (l.take k) ++ ((ftextB (fdAt l k)).data.toList ++ [13, 10]) := by
  rw [takeF_next l k h, linesL_app, linesL_one]
theorem ftextB_size {x : Fd} : (ftextB x).size ≤ 232 := by
  unfold ftextB
  split
  · rename_i h
    obtain ⟨h1, h2⟩ := fieldQ_sizes h
    show (x.1.data.toList ++ [58, 32] ++ x.2.data.toList).toArray.size ≤ _
    simp only [List.size_toArray, List.length_append, len_data, List.length_cons, List.length_nil]
    omega
  · show (0 : Nat) ≤ _; omega
theorem linesL_len (l : List Fd) : (linesL l).length ≤ l.length * 234 := by
  induction l with
  | nil => simp [linesL]
  | cons x l ih =>
    have h1 := ftextB_size (x := x)
    rw [← len_data] at h1
    rw [← List.singleton_append, linesL_app, linesL_one]
    simp only [List.length_append, List.length_cons, List.length_nil]
    omega
def tellsQ (m : Mg) : Bool := if eqB m.me ⟨#[]⟩ = true then !m.ba else !eqB m.bo ⟨#[]⟩
def lenL (m : Mg) : List UInt8 := if tellsQ m = true then clW.data.toList ++ [58, 32] ++ Lib.decDigits m.bo.size ++ [13, 10] else []
def headL (m : Mg) : List UInt8 := firstL m ++ [13, 10] ++ linesL m.fs ++ lenL m ++ [13, 10]
def headB (m : Mg) : ByteArray := ⟨(headL m).toArray⟩
def ownQ (l : List Fd) : Bool := fieldsQ l && decide (l.length < 20) && !frmL l
/-- May it be written, and read again? -/
def msgQ (m : Mg) : Bool := ownQ m.fs && decide ((m.bo.size : Int) ≤ 600) && kindQ m && decide (((headB m).size : Int) ≤ 1500)
def wheadB (m : Mg) : ByteArray := if msgQ m = true then headB m else ⟨#[]⟩
def wmsgB (m : Mg) : ByteArray := if msgQ m = true then headB m ++ m.bo else ⟨#[]⟩
theorem kindQ_req {m : Mg} (h : eqB m.me ⟨#[]⟩ = false) : kindQ m = reqQ m := by unfold kindQ; rw [h]; rfl
theorem kindQ_ans {m : Mg} (h : eqB m.me ⟨#[]⟩ = true) : kindQ m = (ansQ m && bareQ m) := by unfold kindQ; rw [if_pos h]
theorem methQ_iff {s : ByteArray} : methQ s = true ↔ tokB s = true ∧ s.size ≤ 20 := by
  unfold methQ; rw [Bool.and_eq_true, decide_eq_true_eq]; exact and_congr_right fun _ => by omega
theorem targQ_iff {s : ByteArray} : targQ s = true ↔ 1 ≤ s.size ∧ s.size ≤ 200 ∧ allB vis8 s = true := by
  unfold targQ; rw [Bool.and_eq_true, Bool.and_eq_true, decide_eq_true_eq, decide_eq_true_eq, and_assoc]
  constructor
  · rintro ⟨a, b, c⟩; exact ⟨by omega, by omega, c⟩
  · rintro ⟨a, b, c⟩; exact ⟨by omega, by omega, c⟩
theorem reqQ_iff {m : Mg} : reqQ m = true ↔ methQ m.me = true ∧ targQ m.ta = true ∧ m.st = 0 ∧ m.re = ⟨#[]⟩ ∧ m.ba = false := by
  unfold reqQ; simp [eqB_iff, and_assoc]
theorem stQ_iff {n : Int} : stQ n = true ↔ 200 ≤ n ∧ n ≤ 599 := by unfold stQ; simp
theorem ansQ_iff {m : Mg} : ansQ m = true ↔ m.ta = ⟨#[]⟩ ∧ stQ m.st = true ∧ m.re.size ≤ 40 ∧ plnB m.re = true := by
  unfold ansQ; rw [Bool.and_eq_true, Bool.and_eq_true, Bool.and_eq_true, decide_eq_true_eq, eqB_iff, and_assoc, and_assoc]
  constructor
  · rintro ⟨a, b, c, d⟩; exact ⟨a, b, by omega, d⟩
  · rintro ⟨a, b, c, d⟩; exact ⟨a, b, by omega, d⟩
theorem ownQ_iff {l : List Fd} : ownQ l = true ↔ fieldsQ l = true ∧ l.length < 20 ∧ frmL l = false := by
  unfold ownQ; simp [and_assoc]
theorem msgQ_iff {m : Mg} : msgQ m = true ↔ ownQ m.fs = true ∧ m.bo.size ≤ 600 ∧ kindQ m = true ∧ (headB m).size ≤ 1500 := by
  unfold msgQ; rw [Bool.and_eq_true, Bool.and_eq_true, Bool.and_eq_true, decide_eq_true_eq, decide_eq_true_eq, and_assoc, and_assoc]
  constructor
  · rintro ⟨a, b, c, d⟩; exact ⟨a, by omega, c, by omega⟩
  · rintro ⟨a, b, c, d⟩; exact ⟨a, by omega, c, by omega⟩
theorem headB_size (m : Mg) : (headB m).size = (headL m).length := by
  show (headL m).toArray.size = _; simp
theorem kindQ_sizes {m : Mg} (h : kindQ m = true) : m.me.size ≤ 20 ∧ m.ta.size ≤ 200 ∧ m.re.size ≤ 40 ∧ 0 ≤ m.st ∧ m.st ≤ 599 := by
  cases he : eqB m.me ⟨#[]⟩
  · rw [kindQ_req he, reqQ_iff] at h
    obtain ⟨h1, h2, h3, h4, _⟩ := h
    have z1 := (methQ_iff.1 h1).2
    have z2 := (targQ_iff.1 h2).2.1
    refine ⟨z1, z2, ?_, by omega, by omega⟩
    rw [h4]; show (0 : Nat) ≤ 40; omega
  · rw [kindQ_ans he, Bool.and_eq_true, ansQ_iff] at h
    obtain ⟨⟨h1, h2, h3, _⟩, _⟩ := h
    have z := stQ_iff.1 h2
    have e := eqB_iff.1 he
    refine ⟨?_, ?_, h3, by omega, by omega⟩
    · rw [e]; show (0 : Nat) ≤ 20; omega
    · rw [h1]; show (0 : Nat) ≤ 200; omega
end Go.Proofs.Ytaelopjalfapgac
