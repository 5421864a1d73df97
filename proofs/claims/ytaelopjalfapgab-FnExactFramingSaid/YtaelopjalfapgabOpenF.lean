/-
  A slice of fields that came in, read at every index.
-/
import Derived.Test.YtaelopjalfapgabOpen
import Derived.Test.YtaelopjalfapgabF1
import Derived.Deep.SlicePairs
namespace Go.Proofs.Ytaelopjalfapgab
set_option linter.unusedVariables false
set_option linter.unusedSimpArgs false
open Go.ChangeShapes Go.WideShapes Go.ChangeAt Go.RowKit
theorem fdAt_map (f : Nat → Fd) (n j : Nat) (h : j < n) : fdAt ((List.range n).map f) j = f j := by
  rw [fdAt_get (by simpa using h)]; simp
theorem argF_of {H : Type} {enc : TypeId × Value → H} {w : World} {base fuel : Nat} {spare : Nat → Bool} {held : Bool} {cell : Value} {x : DataW H × List MemPlace}
    (h : DataW.trod enc Try.prog w base spare held fuel 22 [cell] = some x) :
    ∃ (a : Option Addr) (len cap : Nat) (l : List Fd), cell = .slice a len cap ∧ ArgF w a len l ∧ len ≤ maxLen ∧ ∀ j, j < len → ((fdAt l j).1.size ≤ maxLen ∧ (fdAt l j).2.size ≤ maxLen) := by
  rcases Deep.open_slice_pairs Try.underlying22 Try.underlying32 (by kernel_rfl) rfl rfl (by kernel_rfl) (by kernel_rfl) h with ⟨hcs, _⟩ | ⟨a, len, cap, m, n, V0, V1, D0, D1, P0, P1, hcs, _, hl, hm, hmm, _, hall⟩
  · simp at hcs
    exact ⟨none, 0, 0, [], hcs, ⟨rfl, .inl rfl⟩, Nat.zero_le _, fun j hj => absurd hj (by omega)⟩
  · simp at hcs
    have hlm : len ≤ m := by rw [hmm]; split <;> omega
    have each : ∀ i, i < len → ∃ s : Fd, w.cell? (a.add (i * 2)) = some (.string s.1) ∧ w.cell? (a.add (i * 2 + 1)) = some (.string s.2) ∧ s.1.size ≤ maxLen ∧ s.2.size ≤ maxLen := by
      intro i hi
      obtain ⟨h0, h1, g0, g1⟩ := hall i (by omega)
      obtain ⟨s, es, _, ws⟩ := DataW.trod_string Try.underlying9 g0
      obtain ⟨q, en, _, wq⟩ := DataW.trod_string Try.underlying9 g1
      simp at es en
      exact ⟨(s, q), by rw [h0, es], by rw [h1, en], ws, wq⟩
    obtain ⟨f, hf⟩ := Deep.choose_lt each
    refine ⟨some a, len, cap, (List.range len).map f, hcs, ⟨by simp, ?_⟩, Nat.le_trans hl hm, fun j hj => by rw [fdAt_map f len j hj]; exact (hf j hj).2.2⟩
    by_cases h0 : len = 0
    · exact .inl h0
    · right
      obtain ⟨b, off, spot⟩ := a
      have hc := (hf 0 (by omega)).1
      have hspot : spot = none := by simpa [Addr.add] using World.cell?_spot hc
      subst hspot
      refine ⟨b, off, rfl, ?_, fun i hi => ?_⟩
      · have := World.block_lt_of_cell? _ _ hc
        simpa [Addr.add] using this
      · obtain ⟨c0, c1, _⟩ := hf i hi
        rw [Addr.add_lit] at c0 c1
        rw [fdAt_map f len i hi]
        exact ⟨c0, by rw [← Nat.add_assoc] at c1; exact c1⟩
theorem argF_in {H : Type} {enc : TypeId × Value → H} {w : World} {base : Nat} {spare : Nat → Bool} {held : Bool} {a : Option Addr} {len cap : Nat} {x : DataW H × List MemPlace}
    (h : ∃ fuel, DataW.trod enc Try.prog w base spare held fuel 22 (Value.slice a len cap).cells.toList = some x) :
    ∃ l : List Fd, ArgF w a len l ∧ len ≤ maxLen ∧ ∀ j, j < len → ((fdAt l j).1.size ≤ maxLen ∧ (fdAt l j).2.size ≤ maxLen) := by
  obtain ⟨fuel, hf⟩ := h
  have hf' : DataW.trod enc Try.prog w base spare held fuel 22 [Value.slice a len cap] = some x := hf
  obtain ⟨a', len', cap', l, e, h1, h2, h3⟩ := argF_of hf'
  injection e with e1 e2 e3
  subst e1 e2
  exact ⟨l, h1, h2, h3⟩
end Go.Proofs.Ytaelopjalfapgab
