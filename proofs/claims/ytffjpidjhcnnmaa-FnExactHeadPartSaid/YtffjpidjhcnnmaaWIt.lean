/-
  impl.DecText by strconv.Itoa's contract; what it asks of the world comes of the row's listed tables.
-/
import Derived.Test.YtffjpidjhcnnmaaW4
import Derived.Shelf.Strconv.Itoa3
import Derived.Shelf.Lay
import Derived.Lib.LaidTab
import Derived.Lib.AppendIntMem
import Derived.LaidLaws
namespace Go.Proofs.Ytffjpidjhcnnmaa
set_option linter.unusedVariables false
set_option linter.unusedSimpArgs false
open Go.RowKit
def decT (n : Int) : ByteArray := if 0 ≤ n ∧ n ≤ 999999999999999 then decB n.toNat else ⟨#[]⟩
theorem below_grow (w : World) (q : Nat) (os : Array Obj) : Below w.heap.size w (Sort.grow (w.drewN q) os) :=
  ⟨rfl, rfl, rfl, by simp [Sort.grow], fun k hk => by simp [Sort.grow, Array.getElem?_append_left, hk]⟩
end Go.Proofs.Ytffjpidjhcnnmaa
