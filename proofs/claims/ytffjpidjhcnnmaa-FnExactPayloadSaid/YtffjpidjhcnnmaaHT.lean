/-
  Digits in tens by the library's table, and how long they are.
-/
import Derived.Test.YtffjpidjhcnnmaaWIt
namespace Go.Proofs.Ytffjpidjhcnnmaa
set_option linter.unusedVariables false
set_option linter.unusedSimpArgs false
open Go.RowKit
abbrev Tab10 (w : World) : Prop := Lib.TabIs Try.prog w "internal/strconv.uint64pow10" .u64 Lib.pow10Tab
theorem decT_size (n : Int) : (decT n).size ≤ 15 := by
  unfold decT
  split
  · rename_i h
    have := decDigits_len n.toNat (by omega)
    show (Lib.decDigits n.toNat).toArray.size ≤ 15
    simpa using this
  · show (0 : Nat) ≤ 15; omega
theorem tab_later {w w' : World} (h : Tab10 w) (hb : Below w.heap.size w w') : Tab10 w' := by
  unfold Tab10 Lib.TabIs World.var? at *
  cases hg : Try.prog.globalNamed "internal/strconv.uint64pow10" with
  | none => rw [hg] at h; cases h
  | some g =>
    rw [hg] at h
    simp only [Option.bind_some] at h ⊢
    have hlt : g < w.heap.size := by
      rcases Nat.lt_or_ge g w.heap.size with h1 | h1
      · exact h1
      · rw [Array.getElem?_eq_none h1] at h; cases h
    rw [hb.block g hlt]; exact h
end Go.Proofs.Ytffjpidjhcnnmaa
