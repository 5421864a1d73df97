/-
  The walks over chapter 1: bits.
-/
import Derived.Test.YtohdfdbpmmeidaaDoorA8
import Derived.Test.YtohdfdbpmmeidaaDoorM10
namespace Go.Proofs.YtohdfdbpmmeidaaDoor
set_option linter.unusedVariables false
set_option linter.unusedSimpArgs false
open Go.RowKit

theorem bit_eq (b e : Nat) (hb : b < 256) : bits .and .i64 ((b : Int) / 2 ^ e) 1 = ((b / 2 ^ e % 2 : Nat) : Int) := by
  have h1 : (b : Int) / 2 ^ e = ((b / 2 ^ e : Nat) : Int) := by simp
  rw [h1]
  have h2 : b / 2 ^ e ≤ b := Nat.div_le_self _ _
  generalize b / 2 ^ e = x at *
  have := and_i64 1 (by decide) (x : Int) (by omega) (by omega)
  simpa using this
end Go.Proofs.YtohdfdbpmmeidaaDoor
