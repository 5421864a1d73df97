/-
  Stores that are handed back, as the exact laws look at them.
-/
import Derived.Test.YtknpolmenfdheabG15
import Derived.Test.YtknpolmenfdheabG16
import Derived.Test.YtknpolmenfdheabG17
namespace Go.Proofs.Ytknpolmenfdheab
set_option linter.unusedVariables false
set_option linter.unusedSimpArgs false
open Go.RowKit
def outL (r : Option (List Sg)) : List Sg := r.getD []
def outC (r : Option (List Sg)) (c : Int) : Int := if r.isSome then c else 0
/-- What an answer is to its caller: a value, its list, its room; memory of its own. -/
def Ans (w0 w' : World) (s : Value) (L : List Sg) : Prop := SlG w' s L ∧ ∀ g, s.ownBlock = some g → w0.heap.size ≤ g
theorem Out.ans {w0 w' : World} {v : Value} {r : Option (List Sg)} {c : Int} (h : Out w0 w' v r c) : ∃ s, v = .agg #[s, .int .i64 (outC r c)] ∧ Ans w0 w' s (outL r) := by
  cases r with
  | none => exact ⟨.slice none 0 0, h, .inl ⟨rfl, rfl⟩, fun g hg => by cases hg⟩
  | some l =>
    obtain ⟨g, cap, e, h1, h2⟩ := h
    exact ⟨_, e, .inr ⟨g, cap, rfl, h2.row⟩, fun g' hg => by injection hg with hg; subst hg; exact h1⟩
theorem SlG.own_lt {w : World} {s : Value} {l : List Sg} (h : SlG w s l) {g : Nat} (hg : s.ownBlock = some g) : g < w.heap.size := by
  rcases h with ⟨rfl, _⟩ | ⟨b, cap, rfl, hr⟩
  · cases hg
  · injection hg with hg; subst hg; exact hr.lt
theorem Blk.gb {w w' : World} {b : Nat} {c : Array Value} {t : TypeId} {r : Option Nat} (h : Blk w b c t) (k : w.grownBy w' r) (hne : r ≠ some b) : Blk w' b c t := by
  unfold Blk at *
  rw [k.block b (Array.getElem?_eq_some_iff.1 h).1 (fun e => hne e.symm)]
  exact h
theorem RowG.gb {w w' : World} {b : Nat} {l : List Sg} {r : Option Nat} (h : RowG w b l) (k : w.grownBy w' r) (hne : r ≠ some b) : RowG w' b l := by
  have hb : w'.heap[b]? = w.heap[b]? := k.block b h.lt (fun e => hne e.symm)
  refine ⟨fun j hj => ?_, fun j hj => ?_, fun j => ?_, Nat.lt_of_lt_of_le h.lt k.size⟩
  · exact (World.cell?_of_block (w := w) hb).trans (h.dat j hj)
  · exact (World.cell?_of_block (w := w) hb).trans (h.saf j hj)
  · have hf := h.free j
    unfold World.frozen? at *
    rw [hb]; exact hf
theorem SlG.gb {w w' : World} {s : Value} {l : List Sg} {r : Option Nat} (h : SlG w s l) (k : w.grownBy w' r) (hne : ∀ g, s.ownBlock = some g → r ≠ some g) : SlG w' s l := by
  rcases h with h | ⟨b, cap, rfl, hr⟩
  · exact .inl h
  · exact .inr ⟨b, cap, rfl, hr.gb k (hne b rfl)⟩
theorem grown_below {w w1 w2 : World} {B : Nat} {r : Option Nat} (h : Below B w w1) (k : w1.grownBy w2 r) (hr : ∀ g, r = some g → B ≤ g) (hB : B ≤ w1.heap.size) : Below B w w2 :=
  h.trans ⟨k.os, k.tape, k.output, k.size, fun b hb => k.block b (by omega) (fun e => by have := hr b e.symm; omega)⟩
end Go.Proofs.Ytknpolmenfdheab
