/-
  Chapter 5: the first value of a name; a field out of its line. Both sides.
-/
import Derived.Test.YtaelopjalfapgabF4
import Derived.Lib.IndexLaws
import Derived.Lib.Bytealg
import Derived.Deep.DeepCutAuto
namespace Go.Proofs.Ytaelopjalfapgab
set_option linter.unusedVariables false
set_option linter.unusedSimpArgs false
open Go.RowKit
def getB (l : List Fd) (n : ByteArray) : ByteArray := (valuesL l n).getD 0 ⟨#[]⟩
def getO (l : List Fd) (n : ByteArray) : Bool := decide (0 < (valuesL l n).length)
set_option maxHeartbeats 1000000 in
theorem Get_any (v : Value) (l : List Fd) (n : ByteArray) (w : World) (hv : SlF w v l) (hl : l.length ≤ 1048576) (ht : totF l ≤ 1099511627776) (hn : n.size ≤ maxLen) :
    Calls Try.prog 17 #[v, .string n] w fun e w' => e = .returned (.tuple #[.string (getB l n), .bool (getO l n)]) ∧ Below w.heap.size w w' := by
  have HV := hideB2 (Values_any v l n w hv hl ht hn)
  have hm := valuesL_len l n
  unfold getB getO
  generalize valuesL l n = L at *
  obtain ⟨a, c0, rfl⟩ := hv.form
  go_enter Try.func17, Try.ntmps17
  go_wp2_with fail
  refine HV.out.mono ?_
  rintro e w1 ⟨v1, rfl, hb1⟩
  obtain ⟨a1, c1, rfl, hr1⟩ := hb1.rows
  have HB := hideB2 hb1.below
  by_cases h0 : 0 < L.length
  · obtain ⟨g, rfl, hc⟩ := hr1.at h0
    have p0 := hc 0 h0
    have h1 : ((L.length : Int) == 0) = false := by rw [beq_eq_false_iff_ne]; omega
    have HD := hideB2 (decide_eq_true h0)
    generalize hx : L.getD 0 ⟨#[]⟩ = x at *
    have HX := hideB2 hx
    clear hx
    clear hc hb1 hr1 HV
    go_wp2
    go_ret2
    exact ⟨ret_sb HX.out HD.out, HB.out⟩
  · obtain rfl : L = [] := List.eq_nil_of_length_eq_zero (by omega)
    clear hb1 hr1 HV
    go_wp2
    go_ret2
    exact ⟨rfl, HB.out⟩
set_option maxHeartbeats 1000000 in
theorem sGet_any (v : Value) (l : List Fd) (n : ByteArray) (w : World) (hv : SlF w v l) (hl : l.length ≤ 1048576) (ht : totF l ≤ 1099511627776) (hn : n.size ≤ maxLen) :
    Calls Try.prog 11 #[v, .string n] w fun e w' => e = .returned (.tuple #[.string (getB l n), .bool (getO l n)]) ∧ Below w.heap.size w w' := by
  have HV := hideB2 (sValues_any v l n w hv hl ht hn)
  have hm := valuesL_len l n
  unfold getB getO
  generalize valuesL l n = L at *
  obtain ⟨a, c0, rfl⟩ := hv.form
  go_enter Try.func11, Try.ntmps11
  go_wp2_with fail
  refine HV.out.mono ?_
  rintro e w1 ⟨v1, rfl, hb1⟩
  obtain ⟨a1, c1, rfl, hr1⟩ := hb1.rows
  have HB := hideB2 hb1.below
  by_cases h0 : 0 < L.length
  · obtain ⟨g, rfl, hc⟩ := hr1.at h0
    have p0 := hc 0 h0
    have h1 : ((L.length : Int) == 0) = false := by rw [beq_eq_false_iff_ne]; omega
    have HD := hideB2 (decide_eq_true h0)
    generalize hx : L.getD 0 ⟨#[]⟩ = x at *
    have HX := hideB2 hx
    clear hx
    clear hc hb1 hr1 HV
    go_wp2
    go_ret2
    exact ⟨ret_sb HX.out HD.out, HB.out⟩
  · obtain rfl : L = [] := List.eq_nil_of_length_eq_zero (by omega)
    clear hb1 hr1 HV
    go_wp2
    go_ret2
    exact ⟨rfl, HB.out⟩
/-- Where the first ':' stands, or -1. -/
def idxC (s : ByteArray) : Int := Lib.indexByte s.data.toList 58
theorem idxC_some {s : ByteArray} {i : Nat} (h : idxC s = (i : Int)) : i < s.size ∧ at8 s i = 58 ∧ ∀ j, j < i → at8 s j ≠ 58 := by
  obtain ⟨h1, h2⟩ := Lib.indexByte_some h
  have hi : i < s.data.toList.length := (List.getElem?_eq_some_iff.1 h1).1
  rw [len_data] at hi
  refine ⟨hi, by unfold at8; rw [List.getD, h1]; rfl, fun j hj he => h2 j hj ?_⟩
  have hj' : j < s.data.toList.length := by rw [len_data]; omega
  unfold at8 at he
  rw [List.getD, List.getElem?_eq_getElem hj'] at he
  rw [List.getElem?_eq_getElem hj']
  simpa using he
theorem idxC_none {s : ByteArray} (h : idxC s = -1) : ∀ j, j < s.size → at8 s j ≠ 58 := by
  intro j hj he
  have hj' : j < s.data.toList.length := by rw [len_data]; omega
  refine Lib.indexByte_none h j ?_
  unfold at8 at he
  rw [List.getD, List.getElem?_eq_getElem hj'] at he
  rw [List.getElem?_eq_getElem hj']
  simpa using he
theorem idxC_cases (s : ByteArray) : idxC s = -1 ∨ ∃ i : Nat, idxC s = (i : Int) ∧ i < s.size := by
  have h := Lib.indexByte_ge s.data.toList 58
  by_cases h1 : idxC s = -1
  · exact .inl h1
  · right
    have h2 : -1 ≤ idxC s := h
    have h3 : idxC s = ((idxC s).toNat : Int) := by omega
    exact ⟨(idxC s).toNat, h3, (idxC_some h3).1⟩
theorem idxC_of {s : ByteArray} {i : Nat} (h1 : i < s.size) (h2 : at8 s i = 58) (h3 : ∀ j, j < i → at8 s j ≠ 58) : idxC s = (i : Int) := by
  rcases idxC_cases s with h | ⟨k, hk, _⟩
  · exact absurd h2 (idxC_none h i h1)
  · obtain ⟨g1, g2, g3⟩ := idxC_some hk
    rcases Nat.lt_trichotomy k i with h | h | h
    · exact absurd g2 (h3 k h)
    · rw [hk, h]
    · exact absurd h2 (g3 i h)
/-- What a line holds whose first ':' stands at i. -/
def cutF (s : ByteArray) (i : Nat) : Fd := (s.extract 0 i, trimB (s.extract (i + 1) s.size))
def readO (s : ByteArray) : Bool := decide (0 ≤ idxC s) && fieldQ (cutF s (idxC s).toNat)
def readF (s : ByteArray) : Fd := if readO s = true then cutF s (idxC s).toNat else fd0
theorem readO_none {s : ByteArray} (h : idxC s = -1) : readO s = false ∧ readF s = fd0 := by
  have h1 : readO s = false := by unfold readO; rw [h]; rfl
  exact ⟨h1, by unfold readF; rw [h1]; rfl⟩
theorem readO_some {s : ByteArray} {i : Nat} (h : idxC s = (i : Int)) : readO s = fieldQ (cutF s i) ∧ readF s = if fieldQ (cutF s i) = true then cutF s i else fd0 := by
  have h1 : readO s = fieldQ (cutF s i) := by unfold readO; rw [h]; simp
  refine ⟨h1, ?_⟩
  unfold readF; rw [h1, h]; rfl
theorem cutF_sizes (s : ByteArray) (i : Nat) (h : s.size ≤ maxLen) : (cutF s i).1.size ≤ maxLen ∧ (cutF s i).2.size ≤ maxLen := by
  constructor
  · show (s.extract 0 i).size ≤ _
    rw [ByteArray.size_extract]; omega
  · have h1 := trimB_size (s.extract (i + 1) s.size)
    rw [ByteArray.size_extract] at h1
    show (trimB _).size ≤ _
    omega
theorem cutF_big {s : ByteArray} {i : Nat} (h : 40 < i) (hi : i < s.size) : fieldQ (cutF s i) = false := by
  refine fieldQ_no1 ?_
  show ¬ ((s.extract 0 i).size : Int) ≤ 40
  rw [ByteArray.size_extract]; omega
theorem Try.infoField : (Try.prog.info? 41).map (·.size) = some 2 := by kernel_rfl
theorem below_alloc' {B : Nat} {w0 w : World} (h : Below B w0 w) (hB : B ≤ w0.heap.size) (o : Obj) : Below B w0 (w.alloc o) := h.alloc (Nat.le_trans hB h.size) o
end Go.Proofs.Ytaelopjalfapgab
