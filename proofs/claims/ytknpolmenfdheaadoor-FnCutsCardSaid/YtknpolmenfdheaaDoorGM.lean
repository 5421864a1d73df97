/-
  Chapter 4: is it a store? As lists; the small functions.
-/
import Derived.Test.YtknpolmenfdheaaDoorG1
import Derived.Test.YtknpolmenfdheaaDoorGR
namespace Go.Proofs.YtknpolmenfdheaaDoor
set_option linter.unusedVariables false
set_option linter.unusedSimpArgs false
open Go.RowKit
/-- Is segment number j of n in order? -/
def rowQ (n j : Nat) (s : Sg) : Bool := decide (0 ≤ s.2 ∧ s.2 ≤ (s.1.size : Int) ∧ (j + 1 < n → 0 < s.1.size ∧ s.2 = (s.1.size : Int)))
/-- Is it a store? -/
def storeQ (l : List Sg) (c : Int) : Bool := decide (0 ≤ c ∧ c ≤ 60000 ∧ 1 ≤ l.length ∧ l.length ≤ 40 ∧ (∀ j, j < l.length → rowQ l.length j (sgAt l j) = true) ∧ (totG l : Int) ≤ c)
theorem storeQ_iff {l : List Sg} {c : Int} : storeQ l c = true ↔ 0 ≤ c ∧ c ≤ 60000 ∧ 1 ≤ l.length ∧ l.length ≤ 40 ∧ (∀ j, j < l.length → rowQ l.length j (sgAt l j) = true) ∧ (totG l : Int) ≤ c := by
  unfold storeQ; simp only [decide_eq_true_eq]
theorem storeQ_not {l : List Sg} {c : Int} (h : ¬ (0 ≤ c ∧ c ≤ 60000 ∧ 1 ≤ l.length ∧ l.length ≤ 40 ∧ (∀ j, j < l.length → rowQ l.length j (sgAt l j) = true) ∧ (totG l : Int) ≤ c)) : storeQ l c = false := by
  unfold storeQ; simp only [decide_eq_false_iff_not]; exact h
theorem storeQ_bad {l : List Sg} {c : Int} {k : Nat} (hk : k < l.length) (h : rowQ l.length k (sgAt l k) = false) : storeQ l c = false :=
  storeQ_not fun hh => by have := hh.2.2.2.2.1 k hk; rw [h] at this; cases this
theorem rowQ_iff {n j : Nat} {s : Sg} : rowQ n j s = true ↔ 0 ≤ s.2 ∧ s.2 ≤ (s.1.size : Int) ∧ (j + 1 < n → 0 < s.1.size ∧ s.2 = (s.1.size : Int)) := by
  unfold rowQ; simp only [decide_eq_true_eq]
theorem rowQ_not {n j : Nat} {s : Sg} (h : ¬ (0 ≤ s.2 ∧ s.2 ≤ (s.1.size : Int) ∧ (j + 1 < n → 0 < s.1.size ∧ s.2 = (s.1.size : Int)))) : rowQ n j s = false := by
  unfold rowQ; simp only [decide_eq_false_iff_not]; exact h
theorem size_nil {d : ByteArray} (h : d.size = 0) : d = ⟨#[]⟩ := by
  obtain ⟨x⟩ := d
  have : x = #[] := Array.eq_empty_of_size_eq_zero h
  rw [this]
theorem toList_ne {d : ByteArray} (h : ¬ d.size = 0) : (d.toList == []) = false := by
  cases hh : (d.toList == []) with
  | false => rfl
  | true =>
    have e : eqB d ⟨#[]⟩ = true := by
      unfold eqB
      rw [show (⟨#[]⟩ : ByteArray).toList = [] by rw [ByteArray.toList_eq]]
      exact hh
    have := eqB_iff.1 e
    subst this
    exact absurd rfl h
set_option maxHeartbeats 400000 in
theorem loose_any (d : ByteArray) (s : Int) (w : World) (h0 : 0 ≤ s) (h1 : s ≤ (d.size : Int)) (hd : d.size ≤ maxLen) :
    Calls Tryd.prog 43 #[.agg #[.string d, .int .i64 s]] w fun e w' => e = .returned (.int .i64 ((d.size : Int) - s)) ∧ Below w.heap.size w w' := by
  unfold maxLen at hd
  go_enter Tryd.func43, Tryd.ntmps43
  go_wp2
  go_ret
  exact ⟨rfl, below_a1 w _⟩
set_option maxHeartbeats 1000000 in
theorem size_any (v : Value) (l : List Sg) (c : Int) (w : World) (hv : SlG w v l) (hl : l.length ≤ 1048576) (ht : totG l ≤ 1099511627776) :
    Calls Tryd.prog 44 #[.agg #[v, .int .i64 c]] w fun e w' => e = .returned (.int .i64 (totG l)) ∧ Below w.heap.size w w' := by
  obtain ⟨a, c0, rfl⟩ := hv.form
  have HV := hideB2 hv
  clear hv
  generalize hn : l.length = n at *
  have HN := hideB2 hn
  clear hn
  have ha := below_a1 w (.cells #[.slice a n c0, .int .i64 c] 25)
  go_enter Tryd.func44, Tryd.ntmps44
  go_wp2
  go_loopw [3, 9] (fun x i wr => ∃ k : Nat, k ≤ n ∧ i = .int .i64 k ∧ x = .int .i64 (totG (l.take k)) ∧ Below w.heap.size w wr) (fun _ i _ => n - (intOf i).toNat)
  case atStart => exact ⟨0, Nat.zero_le _, rfl, by simp [totG], ha⟩
  case round =>
    obtain ⟨k, hk, rfl, rfl, hb⟩ := hrel
    clear ha
    by_cases hlt : k < n
    · obtain ⟨b, rfl, hr⟩ := HV.out.row (by rw [HN.out]; omega)
      have p0 := (hr.keep hb).dat k (by rw [HN.out]; exact hlt)
      have p1 := (hr.keep hb).saf k (by rw [HN.out]; exact hlt)
      have hnx := totG_next l k (by rw [HN.out]; exact hlt)
      have hat := totG_at l k (by rw [HN.out]; exact hlt)
      clear hr
      generalize sgAt l k = x at *
      obtain ⟨d, s⟩ := x
      simp only at p0 p1 hnx hat
      have HNX := hideB2 hnx
      have HBW := hideB2 hb
      clear hb hnx
      generalize totG (l.take k) = t at *
      go_wp2
      refine ⟨⟨k + 1, by omega, by go_num, by rw [HNX.out]; simp, ?_⟩, by simp [intOf]; omega⟩
      exact HBW.out.trans ((below_a1 wr _).mono HBW.out.size)
    · obtain rfl : k = n := by omega
      rw [List.take_of_length_le (by rw [HN.out]; exact Nat.le_refl _)]
      go_wp2
      go_ret
      exact ⟨rfl, hb⟩
end Go.Proofs.YtknpolmenfdheaaDoor
