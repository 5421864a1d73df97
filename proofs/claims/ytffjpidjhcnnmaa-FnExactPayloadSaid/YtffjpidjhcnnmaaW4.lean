/-
  The walks over chapter 1: spec.DecText, ReadDec.
-/
import Derived.Test.YtffjpidjhcnnmaaW2
import Derived.Test.YtffjpidjhcnnmaaM4
import Derived.Deep.RegionWith
namespace Go.Proofs.Ytffjpidjhcnnmaa
set_option linter.unusedVariables false
set_option linter.unusedSimpArgs false
open Go.RowKit

theorem below_call_alloc {w w1 : World} {o : Obj} (hb : Below w.drew.heap.size w.drew w1) : Below w.heap.size w (w1.alloc o) := by
  have h : Below w.heap.size w w1 := (Below.drew (Below.refl _ w)).trans (hb.mono (by simp))
  exact h.alloc h.size _
theorem below_alloc_call {w w1 : World} {o : Obj} (hb : Below (w.alloc o).drew.heap.size (w.alloc o).drew w1) : Below w.heap.size w w1 :=
  (((Below.refl _ w).alloc (Nat.le_refl _) o).drew).trans (hb.mono (by simp))
end Go.Proofs.Ytffjpidjhcnnmaa
