/-
  Chapter 4: what an operation hands back; sync, shorten; Append, Sync, Roll, Cut, Crash (the program's side).
-/
import Derived.Test.YtknpolmenfdheabG7
import Derived.Deep.DeepCutAuto
namespace Go.Proofs.Ytknpolmenfdheab
set_option linter.unusedVariables false
set_option linter.unusedSimpArgs false
open Go.RowKit
/-- The last segment; another one in its place. -/
def lastG (l : List Sg) : Sg := sgAt l (l.length - 1)
def putLast (l : List Sg) (x : Sg) : List Sg := l.set (l.length - 1) x
theorem putLast_len (l : List Sg) (x : Sg) : (putLast l x).length = l.length := by simp [putLast]
/-- What an operation hands back: a store of its own, or none. -/
def Out (w0 w' : World) (v : Value) (r : Option (List Sg)) (c : Int) : Prop :=
  match r with
  | none => v = noStore
  | some l => ∃ g cap, v = .agg #[.slice (some ⟨g, 0, none⟩) l.length cap, .int .i64 c] ∧ w0.heap.size ≤ g ∧ GB w' g cap l
theorem Out.form {w0 w' : World} {v : Value} {r : Option (List Sg)} {c : Int} (h : Out w0 w' v r c) : ∃ a k cp c', v = .agg #[.slice a k cp, .int .i64 c'] := by
  cases r with
  | none => exact ⟨_, _, _, _, h⟩
  | some l => obtain ⟨g, cap, rfl, _⟩ := h; exact ⟨_, _, _, _, rfl⟩
theorem Out.later {w0 w' w'' : World} {v : Value} {r : Option (List Sg)} {c : Int} (h : Out w0 w' v r c) (k : Below w'.heap.size w' w'') : Out w0 w'' v r c := by
  cases r with
  | none => exact h
  | some l => obtain ⟨g, cap, e, h1, h2⟩ := h; exact ⟨g, cap, e, h1, h2.later k⟩
theorem Out.oth2 {w0 w' : World} {v : Value} {r : Option (List Sg)} {c : Int} {b : Nat} {cs : Array Value} {t : TypeId} (h : Out w0 w' v r c) (hb : Blk w' b cs t) (ht : t ≠ 41) (x y : Value) : Out w0 ((w'.setCell ⟨b, 0, none⟩ x).setCell ⟨b, 1, none⟩ y) v r c := by
  cases r with
  | none => exact h
  | some l => obtain ⟨g, cap, e, h1, h2⟩ := h; exact ⟨g, cap, e, h1, h2.oth2 (h2.ne hb ht) _ _⟩
theorem Out.from {w0 w1 w' : World} {v : Value} {r : Option (List Sg)} {c : Int} (h : Out w1 w' v r c) (k : w0.heap.size ≤ w1.heap.size) : Out w0 w' v r c := by
  cases r with
  | none => exact h
  | some l => obtain ⟨g, cap, e, h1, h2⟩ := h; exact ⟨g, cap, e, Nat.le_trans k h1, h2⟩
theorem store_ne_seg : (29 : TypeId) ≠ 41 := by decide
def syncL (l : List Sg) : List Sg := putLast l ((lastG l).1, ((lastG l).1.size : Int))
def syncR (l : List Sg) (c : Int) : Option (List Sg) := if storeQ l c = true then some (syncL l) else none
end Go.Proofs.Ytknpolmenfdheab
