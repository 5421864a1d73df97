/-
  The class of the worlds that have grown out of one: for regions that draw their order and whose callees make memory of their own.
-/
import Derived.Test.YtenjbgpndkodmabD1
import Derived.Test.YtenjbgpndkodmabQT
namespace Go.Proofs.Ytenjbgpndkodmab
set_option linter.unusedVariables false
set_option linter.unusedSimpArgs false
open Go.RowKit
structure Gr (W : World) where
  w : World
  h : Below W.heap.size W w
def grw (W : World) (V : Gr W) : World := V.w
theorem grw_below (W : World) (V : Gr W) : Below W.heap.size W (grw W V) := V.h
theorem grw_cell {W : World} {b : Nat} (o : Nat) (h : b < W.heap.size) (V : Gr W) : (grw W V).cell? ⟨b, o, none⟩ = W.cell? ⟨b, o, none⟩ := (grw_below W V).cell (p := ⟨b, o, none⟩) h
theorem grw_some {W : World} {b o : Nat} {v : Value} (h : W.cell? ⟨b, o, none⟩ = some v) (V : Gr W) : (grw W V).cell? ⟨b, o, none⟩ = some v := by
  rw [grw_cell o (World.block_lt_of_cell? _ _ h) V]; exact h
theorem grow_drawn (w : World) : ∃ V : Gr w, { w with drawn := w.drawn + 1 } = grw w V := ⟨⟨w.drew, (Below.refl _ w).drew⟩, rfl⟩
theorem wp_region_grow {P : Program} {id : Nat} {Q : Exit → Act → World → Prop} {a : Act} {w : World} {l : List Oper} (hm : P.follows .mixedOrders = true) (hB : Region.lexB .any l.toArray = true)
    (h : Nonempty (Gr w) → wpQuiet P l.toArray (fun w' => ∃ V, w' = grw w V) (fun a' => ∀ w', (∃ V, w' = grw w V) → Q .normal a' w') l a) : (Code.region id l.toArray true).wp P Q a w :=
  wp_region_quiet (C := fun w' => ∃ V, w' = grw w V) hm hB (grow_drawn w) (by simpa using h ⟨⟨w, Below.refl _ _⟩⟩)
theorem wp_region_grow_tail {P : Program} {id : Nat} {Q : Exit → Act → World → Prop} {a : Act} {w : World} {l : List Oper} (n : Nat) (hm : P.follows .mixedOrders = true) (hB : Region.lexTailB .any l.toArray n = true)
    (h : Nonempty (Gr w) → wpQuiet P l.toArray (fun w' => ∃ V, w' = grw w V) (fun a' => ∀ w', (∃ V, w' = grw w V) → wpList P l.toArray Q (l.drop n) a' w') (l.take n) a) : (Code.region id l.toArray true).wp P Q a w :=
  wp_region_quiet_tail (fun w' => ∃ V, w' = grw w V) n hm hB (grow_drawn w) (h ⟨⟨w, Below.refl _ _⟩⟩)
theorem grow_call {P : Program} {f : FuncId} {args : Array Value} {W : World} {V : Gr W} {v : Value}
    (h : Calls P f args (grw W V) fun e w' => e = .returned v ∧ Below (grw W V).heap.size (grw W V) w') : Calls P f args (grw W V) fun e w'' => e = .returned v ∧ ∃ V', w'' = grw W V' :=
  h.mono fun _ w'' ⟨he, hb⟩ => ⟨he, ⟨w'', below_then (grw_below W V) hb⟩, rfl⟩
theorem grow_same {P : Program} {f : FuncId} {args : Array Value} {W : World} {V : Gr W} {v : Value}
    (h : Calls P f args (grw W V) fun e w' => e = .returned v ∧ w' = grw W V) : Calls P f args (grw W V) fun e w'' => e = .returned v ∧ ∃ V', w'' = grw W V' :=
  h.mono fun _ w'' ⟨he, hb⟩ => ⟨he, V, hb⟩
theorem grow_drew {P : Program} {f : FuncId} {args : Array Value} {W : World} {V : Gr W} {v : Value}
    (h : Calls P f args (grw W V) fun e w' => e = .returned v ∧ ∃ m, w' = (grw W V).drewN m) : Calls P f args (grw W V) fun e w'' => e = .returned v ∧ ∃ V', w'' = grw W V' :=
  h.mono fun _ w'' ⟨he, m, hb⟩ => ⟨he, ⟨w'', by rw [hb]; exact (grw_below W V).trans ⟨rfl, rfl, rfl, Nat.le_refl _, fun _ _ => rfl⟩⟩, rfl⟩
end Go.Proofs.Ytenjbgpndkodmab
