/-
  The walks over chapter 1: Fold, SameFold.
-/
import Derived.Test.YtenjbgpndkodmabW1
namespace Go.Proofs.Ytenjbgpndkodmab
set_option linter.unusedVariables false
set_option linter.unusedSimpArgs false
open Go.RowKit

theorem fold_round {s : ByteArray} {k : Nat} {w wr : World} (hlt : k < s.size) (hrow : Hid (Row8 wr w.heap.size (foldTo s k))) (hbel : Hid (Below w.heap.size w wr)) :
    Row8 (wr.setCell ⟨w.heap.size, k, none⟩ (.int .u8 (lowI ((nums s).getD k 0)))) w.heap.size (foldTo s (k + 1)) ∧ Below w.heap.size w (wr.setCell ⟨w.heap.size, k, none⟩ (.int .u8 (lowI ((nums s).getD k 0)))) := by
  refine ⟨?_, hbel.out.setCell (by simp) _⟩
  rw [foldTo_succ s k hlt]
  exact hrow.out.set k _ (by rw [foldTo_length]; exact hlt)

end Go.Proofs.Ytenjbgpndkodmab
