/-
  Chapter 4: what an operation hands back; sync, shorten; Append, Sync, Roll, Cut, Crash (the program's side).
-/
import Derived.Test.YtknpolmenfdheacDoorG7
import Derived.Deep.DeepCutAuto
namespace Go.Proofs.YtknpolmenfdheacDoor
set_option linter.unusedVariables false
set_option linter.unusedSimpArgs false
open Go.RowKit
/-- The last segment; another one in its place. -/
def lastG (l : List Sg) : Sg := sgAt l (l.length - 1)
def putLast (l : List Sg) (x : Sg) : List Sg := l.set (l.length - 1) x
theorem putLast_len (l : List Sg) (x : Sg) : (putLast l x).length = l.length := by simp [putLast]
/-- What an operation hands back: a store of its own, or none. -/
def Out (w0 w' : World) (v : Value) (r : Option (List Sg)) (c : Int) : Prop :=
  match r with
  | none => v = noStore
  | some l => ∃ g cap, v = .agg #[.slice (some ⟨g, 0, none⟩) l.length cap, .int .i64 c] ∧ w0.heap.size ≤ g ∧ GB w' g cap l
theorem Out.form {w0 w' : World} {v : Value} {r : Option (List Sg)} {c : Int} (h : Out w0 w' v r c) : ∃ a k cp c', v = .agg #[.slice a k cp, .int .i64 c'] := by
  cases r with
  | none => exact ⟨_, _, _, _, h⟩
  | some l => obtain ⟨g, cap, rfl, _⟩ := h; exact ⟨_, _, _, _, rfl⟩
theorem Out.later {w0 w' w'' : World} {v : Value} {r : Option (List Sg)} {c : Int} (h : Out w0 w' v r c) (k : Below w'.heap.size w' w'') : Out w0 w'' v r c := by
  cases r with
  | none => exact h
  | some l => obtain ⟨g, cap, e, h1, h2⟩ := h; exact ⟨g, cap, e, h1, h2.later k⟩
theorem Out.oth2 {w0 w' : World} {v : Value} {r : Option (List Sg)} {c : Int} {b : Nat} {cs : Array Value} {t : TypeId} (h : Out w0 w' v r c) (hb : Blk w' b cs t) (ht : t ≠ 40) (x y : Value) : Out w0 ((w'.setCell ⟨b, 0, none⟩ x).setCell ⟨b, 1, none⟩ y) v r c := by
  cases r with
  | none => exact h
  | some l => obtain ⟨g, cap, e, h1, h2⟩ := h; exact ⟨g, cap, e, h1, h2.oth2 (h2.ne hb ht) _ _⟩
theorem Out.from {w0 w1 w' : World} {v : Value} {r : Option (List Sg)} {c : Int} (h : Out w1 w' v r c) (k : w0.heap.size ≤ w1.heap.size) : Out w0 w' v r c := by
  cases r with
  | none => exact h
  | some l => obtain ⟨g, cap, e, h1, h2⟩ := h; exact ⟨g, cap, e, Nat.le_trans k h1, h2⟩
/-- The error of a code. -/
def ErrV (ev : Value) (code : Int) : Prop := (code = 0 ∧ ev = .nilIface) ∨ ∃ y, ev = seI code y
theorem store_ne_seg : (28 : TypeId) ≠ 40 := by decide
set_option maxHeartbeats 400000 in
theorem sync_any (g o : Nat) (d : ByteArray) (s0 : Value) (w : World) (h0 : w.cell? ⟨g, o, none⟩ = some (.string d)) (h1 : w.cell? ⟨g, o + 1, none⟩ = some s0) (hf : w.frozen? ⟨g, o + 1, none⟩ = false) :
    Calls Tryd.prog 29 #[.pointer (some ⟨g, o, none⟩)] w fun e w' => e = .returned (.tuple #[]) ∧ w' = w.setCell ⟨g, o + 1, none⟩ (.int .i64 (d.size : Int)) := by
  go_enter Tryd.func29, Tryd.ntmps29
  go_wp2
  go_end0
  exact ⟨rfl, rfl⟩
set_option maxHeartbeats 1000000 in
theorem shorten_any (g o : Nat) (d : ByteArray) (s0 : Value) (n : Int) (w : World) (h0 : w.cell? ⟨g, o, none⟩ = some (.string d)) (h1 : w.cell? ⟨g, o + 1, none⟩ = some s0) (hf0 : w.frozen? ⟨g, o, none⟩ = false) (hf : w.frozen? ⟨g, o + 1, none⟩ = false) (hn : 0 ≤ n) (hd : n ≤ (d.size : Int)) (hm : d.size ≤ 1099511627776) :
    Calls Tryd.prog 34 #[.pointer (some ⟨g, o, none⟩), .int .i64 n] w fun e w' => e = .returned (.tuple #[]) ∧ w' = (w.setCell ⟨g, o, none⟩ (.string (d.extract 0 n.toNat))).setCell ⟨g, o + 1, none⟩ (.int .i64 n) := by
  obtain ⟨k, rfl⟩ : ∃ k : Nat, n = (k : Int) := ⟨n.toNat, by omega⟩
  have hk : k ≤ d.size := by omega
  have hx : (d.extract 0 k).size = k := by simp [ByteArray.size_extract]; omega
  have c0 : (w.setCell ⟨g, o, none⟩ (.string (d.extract 0 k))).cell? ⟨g, o, none⟩ = some (.string (d.extract 0 k)) := World.cell?_setCell_same _ _ _ h0
  have c1 : (w.setCell ⟨g, o, none⟩ (.string (d.extract 0 k))).cell? ⟨g, o + 1, none⟩ = some s0 := by
    rw [World.cell?_setCell_other _ _ _ _ (by intro hh; injection hh with _ h2; omega)]; exact h1
  have g1 : (w.setCell ⟨g, o, none⟩ (.string (d.extract 0 k))).frozen? ⟨g, o + 1, none⟩ = false := by
    rw [World.frozen?_setCell]; exact hf
  have HS := hideB2 (sync_any g o _ s0 _ c0 c1 g1)
  have HX := hideB2 hx
  clear c0 c1 g1 hx
  go_enter Tryd.func34, Tryd.ntmps34
  go_wp2_with fail
  refine HS.out.mono ?_
  rintro e w1 ⟨rfl, rfl⟩
  go_wp2
  go_end0
  refine ⟨rfl, ?_⟩
  rw [Int.toNat_natCast]
theorem storeCode_any (ev : Value) (code : Int) (w : World) (hg : EG w) (h : ErrV ev code) : Calls Tryd.prog 19 #[ev] w fun e w' => e = .returned (.int .i64 code) ∧ Below w.heap.size w w' := by
  rcases h with ⟨rfl, rfl⟩ | ⟨y, rfl⟩
  · exact storeCode_nil w
  · exact storeCode_hit code y w hg
def syncL (l : List Sg) : List Sg := putLast l ((lastG l).1, ((lastG l).1.size : Int))
def syncR (l : List Sg) (c : Int) : Option (List Sg) := if storeQ l c = true then some (syncL l) else none
end Go.Proofs.YtknpolmenfdheacDoor
