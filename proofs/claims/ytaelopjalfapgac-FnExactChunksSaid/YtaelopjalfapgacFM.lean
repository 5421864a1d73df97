/-
  Chapter 5: what fields are, on lists. No Go in sight.
-/
import Derived.Test.YtaelopjalfapgacM3
import Derived.Test.YtaelopjalfapgacM7
import Derived.Test.YtaelopjalfapgacF1
namespace Go.Proofs.Ytaelopjalfapgac
set_option linter.unusedVariables false
set_option linter.unusedSimpArgs false
open Go.RowKit
/-- All bytes are plain. -/
def plnB (s : ByteArray) : Bool := s.data.toList.all plain8
theorem plnB_no {s : ByteArray} {k : Nat} (hk : k < s.size) (h : plain8 (at8 s k) = false) : plnB s = false := by
  unfold plnB
  have hl : k < s.data.toList.length := by simpa using hk
  rw [List.all_eq_false]
  refine ⟨s.data.toList[k], List.getElem_mem hl, ?_⟩
  simp [at8, List.getD, List.getElem?_eq_getElem hl] at h
  simp [h]
theorem plnB_yes {s : ByteArray} (h : ∀ j, j < s.size → plain8 (at8 s j) = true) : plnB s = true := by
  unfold plnB
  rw [List.all_eq_true]
  intro x hx
  obtain ⟨j, hj, rfl⟩ := List.mem_iff_getElem.1 hx
  have := h j (by simpa using hj)
  simpa [at8, List.getD, List.getElem?_eq_getElem hj] using this
/-- May the value stand in a head? -/
def valQ (v : ByteArray) : Bool := decide (v.size ≤ 190) && plnB v && eqB (trimB v) v
/-- May the field? -/
def fieldQ (x : Fd) : Bool := decide (x.1.size ≤ 40) && tokB x.1 && valQ x.2
/-- May they all? -/
def fieldsQ (l : List Fd) : Bool := decide (l.length ≤ 20) && l.all fieldQ
theorem valQ_iff {v : ByteArray} : valQ v = true ↔ v.size ≤ 190 ∧ plnB v = true ∧ trimB v = v := by
  unfold valQ; rw [Bool.and_eq_true, Bool.and_eq_true, eqB_iff]; simp [and_assoc]
theorem fieldQ_iff {x : Fd} : fieldQ x = true ↔ x.1.size ≤ 40 ∧ tokB x.1 = true ∧ valQ x.2 = true := by
  unfold fieldQ; simp [and_assoc]
theorem fieldsQ_iff {l : List Fd} : fieldsQ l = true ↔ l.length ≤ 20 ∧ ∀ x ∈ l, fieldQ x = true := by
  unfold fieldsQ; simp
theorem fieldsQ_bad {l : List Fd} {k : Nat} (hk : k < l.length) (h : fieldQ (fdAt l k) = false) : fieldsQ l = false := by
  cases hh : fieldsQ l with
  | false => rfl
  | true =>
    have := (fieldsQ_iff.1 hh).2 _ (List.getElem_mem hk)
    rw [fdAt_get hk] at h
    rw [h] at this; cases this
theorem fieldsQ_all {l : List Fd} (hl : l.length ≤ 20) (h : ∀ j, j < l.length → fieldQ (fdAt l j) = true) : fieldsQ l = true := by
  rw [fieldsQ_iff]
  refine ⟨hl, fun x hx => ?_⟩
  obtain ⟨j, hj, rfl⟩ := List.mem_iff_getElem.1 hx
  have := h j hj
  rwa [fdAt_get hj] at this
theorem fieldsQ_at {l : List Fd} (h : fieldsQ l = true) {j : Nat} (hj : j < l.length) : fieldQ (fdAt l j) = true := by
  rw [fdAt_get hj]; exact (fieldsQ_iff.1 h).2 _ (List.getElem_mem hj)
theorem fieldQ_sizes {x : Fd} (h : fieldQ x = true) : x.1.size ≤ 40 ∧ x.2.size ≤ 190 := ⟨(fieldQ_iff.1 h).1, (valQ_iff.1 (fieldQ_iff.1 h).2.2).1⟩
/-- Has it that name? -/
def nameIs (n : ByteArray) (x : Fd) : Bool := eqB (foldB x.1) (foldB n)
/-- The values of that name. -/
def valsOf (l : List Fd) (n : ByteArray) : List ByteArray := (l.filter (nameIs n)).map (·.2)
def valuesL (l : List Fd) (n : ByteArray) : List ByteArray := if fieldsQ l = true then valsOf l n else []
def withoutL (l : List Fd) (n : ByteArray) : List Fd := if fieldsQ l = true then l.filter (fun x => !nameIs n x) else []
def withL (l : List Fd) (f : Fd) : List Fd := if fieldsQ l = true ∧ fieldQ f = true ∧ (l.filter (fun x => !nameIs f.1 x)).length < 20 then l.filter (fun x => !nameIs f.1 x) ++ [f] else []
theorem valsOf_next (l : List Fd) (n : ByteArray) (k : Nat) (h : k < l.length) : valsOf (l.take (k + 1)) n = valsOf (l.take k) n ++ (if nameIs n (fdAt l k) = true then [(fdAt l k).2] else []) := by
  unfold valsOf
  rw [takeF_next l k h, List.filter_append, List.map_append]
  cases hn : nameIs n (fdAt l k) <;> simp [hn]
theorem keepF_next (l : List Fd) (p : Fd → Bool) (k : Nat) (h : k < l.length) : (l.take (k + 1)).filter p = (l.take k).filter p ++ (if p (fdAt l k) = true then [fdAt l k] else []) := by
  rw [takeF_next l k h, List.filter_append]
  cases hn : p (fdAt l k) <;> simp [hn]
theorem valsOf_len (l : List Fd) (n : ByteArray) : (valsOf l n).length ≤ l.length := by
  unfold valsOf; rw [List.length_map]; exact List.length_filter_le _ _
theorem valuesL_len (l : List Fd) (n : ByteArray) : (valuesL l n).length ≤ 20 := by
  unfold valuesL
  split
  · rename_i h
    exact Nat.le_trans (valsOf_len l n) (fieldsQ_iff.1 h).1
  · simp
theorem valuesL_size {l : List Fd} {n v : ByteArray} (h : v ∈ valuesL l n) : v.size ≤ 190 := by
  unfold valuesL at h
  split at h
  · rename_i hq
    unfold valsOf at h
    rw [List.mem_map] at h
    obtain ⟨x, hx, rfl⟩ := h
    exact (fieldQ_sizes ((fieldsQ_iff.1 hq).2 x (List.mem_filter.1 hx).1)).2
  · simp at h
/-- With a comma and a blank between each two. -/
def joinL : List ByteArray → List UInt8
  | [] => []
  | [v] => v.data.toList
  | v :: r => v.data.toList ++ [44, 32] ++ joinL r
def joinB (l : List ByteArray) : ByteArray := ⟨(joinL l).toArray⟩
theorem joinL_two (a b : ByteArray) (r : List ByteArray) : joinL (a :: b :: r) = a.data.toList ++ [44, 32] ++ joinL (b :: r) := by
  rw [joinL]
  simp
theorem joinL_snoc (l : List ByteArray) (v : ByteArray) (h : l ≠ []) : joinL (l ++ [v]) = joinL l ++ [44, 32] ++ v.data.toList := by
  induction l with
  | nil => exact absurd rfl h
  | cons a l ih =>
    cases l with
    | nil => rw [List.singleton_append, joinL_two]; rfl
    | cons b r =>
      have := ih (by simp)
      rw [List.cons_append, List.cons_append, joinL_two, joinL_two, ← List.cons_append, this]
      simp only [List.append_assoc]
theorem joinL_len (l : List ByteArray) (m : Nat) (h : ∀ v ∈ l, v.size ≤ m) : (joinL l).length ≤ l.length * (m + 2) := by
  induction l with
  | nil => simp [joinL]
  | cons a l ih =>
    have ha := h a (by simp)
    have hl := ih (fun v hv => h v (by simp [hv]))
    cases l with
    | nil => simp [joinL, len_data]; omega
    | cons b r =>
      rw [joinL_two]
      simp only [List.length_append, List.length_cons, List.length_nil, len_data] at hl ⊢
      rw [Nat.add_mul, Nat.one_mul]
      omega
end Go.Proofs.Ytaelopjalfapgac
