/-
  The drawing functions of chapter 3: bytes, texts to be digested, a word and a turn.
-/
import Derived.Test.YtknpolmenfdheaaDoorWD4
import Derived.Test.YtknpolmenfdheaaDoorD1
namespace Go.Proofs.YtknpolmenfdheaaDoor
set_option linter.unusedVariables false
set_option linter.unusedSimpArgs false
open Go.RowKit
theorem cell_newP (w : World) (c : Array Value) (t : TypeId) (Q : Int → Prop) (j : Nat) (z : Int) (h : c[j]? = some (.int .i64 z)) (hq : Q z) : ∃ z : Int, Q z ∧ (w.alloc (.cells c t)).cell? ⟨w.heap.size, j, none⟩ = some (.int .i64 z) :=
  ⟨z, hq, by simp only [World.cell?, heap_alloc_new]; exact h⟩
set_option maxHeartbeats 1000000 in
theorem l1PickInt_of (Q : Int → Prop) (p b n cap : Nat) (w : World) (hd : Drw w p) (hne : b ≠ p) (hc : ∀ j, j < n → ∃ z : Int, Q z ∧ w.cell? ⟨b, j, none⟩ = some (.int .i64 z)) (h0 : 0 < n) (h1 : n ≤ 1000) :
    Calls Tryd.prog 53 #[.pointer (some ⟨p, 0, none⟩), .slice (some ⟨b, 0, none⟩) n cap] w fun e w' => (∃ z : Int, Q z ∧ e = .returned (.int .i64 z)) ∧ Kp p w w' ∧ Drw w' p := by
  go_enter Tryd.func53, Tryd.ntmps53
  go_wp2_with fail
  refine (l1Below_any p (n : Int) _ hd (by omega)).mono ?_
  rintro e w1 ⟨⟨m, hm, _, _, rfl⟩, hk1, hd1⟩
  have hmn : (m : Int) < (n : Int) := hm (by omega)
  obtain ⟨z, hz1, hcz⟩ := hc m (by omega)
  have hcz1 := hk1.cell hcz hne
  have HZ := hideB2 hz1
  clear hc hcz hm hz1
  go_wp2
  go_ret
  exact ⟨⟨z, HZ.out, rfl⟩, hk1, hd1⟩
set_option maxHeartbeats 1000000 in
theorem at_any (a : Option Addr) (len cap : Nat) (i : Nat) (w : World) (hc : Code w a len) (hi : i ≤ 1000) :
    Calls Tryd.prog 23 #[.slice a len cap, .int .i64 (i : Int)] w fun e w' => (∃ n : Nat, n ≤ 255 ∧ e = .returned (.int .i64 (n : Int))) ∧ ∃ m, w' = w.drewN m := by
  have hmax := hc.max
  unfold maxLen at hmax
  by_cases h0 : len = 0
  · subst h0
    go_enter Tryd.func23, Tryd.ntmps23
    go_wp2
    go_ret
    exact ⟨⟨0, by omega, rfl⟩, 0, rfl⟩
  · have hne : ((len : Int) == 0) = false := by rw [beq_eq_false_iff_ne]; omega
    rcases hc.row with h | ⟨b, off, rfl, hb, hcs⟩
    · exact absurd h h0
    · have hml : i % len < len := Nat.mod_lt _ (by omega)
      obtain ⟨z, hz, hcz⟩ := hcs (i % len) hml
      have hm : (i : Int) % (len : Int) = ((i % len : Nat) : Int) := by simp
      have hpos : (0 : Int) < (len : Int) := by omega
      clear hcs
      generalize i % len = q at *
      go_enter Tryd.func23, Tryd.ntmps23
      go_wp2
      go_ret
      exact ⟨⟨z, hz, rfl⟩, 0, rfl⟩
end Go.Proofs.YtknpolmenfdheaaDoor
