/-
  A region that draws its order, whose operations only read and whose callees may make memory of their own: one walk of the lexical order serves every order. (The library's theorem over a class of worlds, at the class of the worlds that have grown out of one.)
-/
import Derived.Test.YtaelopjalfapgacDoorWC1
namespace Go.Proofs.YtaelopjalfapgacDoor
set_option linter.unusedVariables false
set_option linter.unusedSimpArgs false
open Go.RowKit

/-- A world that has grown out of W. -/
structure Gr (W : World) where
  w : World
  h : Below W.heap.size W w
def grw (W : World) (V : Gr W) : World := V.w
theorem grw_below (W : World) (V : Gr W) : Below W.heap.size W (grw W V) := V.h
theorem grw_cell {W : World} {b : Nat} (o : Nat) (h : b < W.heap.size) (V : Gr W) : (grw W V).cell? ⟨b, o, none⟩ = W.cell? ⟨b, o, none⟩ := (grw_below W V).cell (p := ⟨b, o, none⟩) h
theorem grw_some {W : World} {b o : Nat} {v : Value} (h : W.cell? ⟨b, o, none⟩ = some v) (V : Gr W) : (grw W V).cell? ⟨b, o, none⟩ = some v := by
  rw [grw_cell o (World.block_lt_of_cell? _ _ h) V]; exact h
theorem wp_region_grow {P : Program} {id : Nat} {Q : Exit → Act → World → Prop} {a : Act} {w : World} {l : List Oper} (hm : P.follows .mixedOrders = true) (hB : Region.lexB .any l.toArray = true)
    (h : Nonempty (Gr w) → wpQuiet P l.toArray (fun w' => ∃ V, w' = grw w V) (fun a' => ∀ w', (∃ V, w' = grw w V) → Q .normal a' w') l a) : (Code.region id l.toArray true).wp P Q a w :=
  wp_region_quiet (C := fun w' => ∃ V, w' = grw w V) hm hB ⟨⟨w.drew, (Below.refl _ w).drew⟩, rfl⟩ (by simpa using h ⟨⟨w, Below.refl _ _⟩⟩)
theorem grow_call {P : Program} {f : FuncId} {args : Array Value} {W : World} {V : Gr W} {v : Value}
    (h : Calls P f args (grw W V) fun e w' => e = .returned v ∧ Below (grw W V).heap.size (grw W V) w') : Calls P f args (grw W V) fun e w'' => e = .returned v ∧ ∃ V', w'' = grw W V' :=
  h.mono fun _ w'' ⟨he, hb⟩ => ⟨he, ⟨w'', below_then (grw_below W V) hb⟩, rfl⟩
theorem grow_same {P : Program} {f : FuncId} {args : Array Value} {W : World} {V : Gr W} {v : Value}
    (h : Calls P f args (grw W V) fun e w' => e = .returned v ∧ w' = grw W V) : Calls P f args (grw W V) fun e w'' => e = .returned v ∧ ∃ V', w'' = grw W V' :=
  h.mono fun _ w'' ⟨he, hb⟩ => ⟨he, V, hb⟩
end Go.Proofs.YtaelopjalfapgacDoor
