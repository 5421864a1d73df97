/-
  Chapter 5: the values of a name. Both sides.
-/
import Derived.Test.YtaelopjalfapgabDoorF3
import Derived.Test.YtaelopjalfapgabDoorAS
import Derived.Test.YtaelopjalfapgabDoorW1b
import Derived.Test.YtaelopjalfapgabDoorWR
namespace Go.Proofs.YtaelopjalfapgabDoor
set_option linter.unusedVariables false
set_option linter.unusedSimpArgs false
open Go.RowKit
theorem valuesL_yes {l : List Fd} {n : ByteArray} (h : fieldsQ l = true) : valuesL l n = valsOf l n := by unfold valuesL; rw [if_pos h]
theorem valuesL_no {l : List Fd} {n : ByteArray} (h : fieldsQ l = false) : valuesL l n = [] := by unfold valuesL; rw [h]; rfl
theorem BufS.set2 {w0 w : World} {v : Value} {l : List ByteArray} (h : BufS w0 w v l) {g : Nat} {x y : Value} (hb : Below w.heap.size w ((w.setCell ⟨g, 0, none⟩ x).setCell ⟨g, 1, none⟩ y)) : BufS w0 ((w.setCell ⟨g, 0, none⟩ x).setCell ⟨g, 1, none⟩ y) v l := h.later hb
end Go.Proofs.YtaelopjalfapgabDoor
