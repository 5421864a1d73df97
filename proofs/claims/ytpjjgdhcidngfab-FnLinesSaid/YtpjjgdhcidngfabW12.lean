/-
  The walks over chapter 1: spec.TakeLine.
-/
import Derived.Test.YtpjjgdhcidngfabW10
import Derived.Deep.RegionWith
namespace Go.Proofs.Ytpjjgdhcidngfab
set_option linter.unusedVariables false
set_option linter.unusedSimpArgs false
open Go.RowKit

theorem tlE_of {s : ByteArray} {k m : Nat} (h : eolLen s k = m) : tlE s k = k + m := by unfold tlE; rw [h]

end Go.Proofs.Ytpjjgdhcidngfab
