/-
  The three listed tables of chapter 2, out of the row's condition.
-/
import Derived.Test.YtohaghlhdkfkbaaDoorOpenD
import Derived.Test.YtohaghlhdkfkbaaDoorWT2
namespace Go.Proofs.YtohaghlhdkfkbaaDoor
set_option linter.unusedVariables false
set_option linter.unusedSimpArgs false
open Go.ChangeShapes Go.WideShapes Go.ChangeAt Go.RowKit
theorem stab_of_laid {P : Program} {W : World} {l : List (String × DataW Unit)} {n : String} {zs : List (List UInt8)} {g : Nat} {t e : TypeId} {c : Nat} (hm : (n, stabData zs) ∈ l) (h : laidMet P l W)
    (hg : P.globalNamed n = some g) (ht : (P.globals[g]?).map (·.type) = some t) (ha : P.underlying t = some (.array c e)) (he : P.underlying e = some .string) (hce : P.cellsOf e = 1) (hct : P.cellsOf t = c) (i : Nat) (hi : i < zs.length) :
    W.cell? ⟨g, i, none⟩ = some (.string ⟨(zs.getD i []).toArray⟩) := by
  obtain ⟨ps, hl, _⟩ := h
  obtain ⟨g', t', cs, fuel, p, h1, h2, h3, h4⟩ := laid_mem hl _ _ hm
  obtain rfl := Option.some.inj (hg.symm.trans h1)
  obtain rfl := Option.some.inj (ht.symm.trans h2)
  have hc := cells_of_stab ha he hce hct h4
  have := World.var?_cell hg h3 i
  rw [this, ← Array.getElem?_toList, hc]
  simp [List.getD, hi]
theorem tabs_of_laid {W : World} {l : List (String × DataW Unit)} (h0 : ("loop.example/g00651/impl.dayNames", Rows.laid_loop_example_g00651_impl_dayNames) ∈ l) (h1 : ("loop.example/g00651/impl.monthNames", Rows.laid_loop_example_g00651_impl_monthNames) ∈ l)
    (h2 : ("loop.example/g00651/impl.monthLengths", Rows.laid_loop_example_g00651_impl_monthLengths) ∈ l) (h : laidMet Tryd.prog l W) : Tabs W := by
  refine ⟨montab_of_laid h2 h, fun k hk => ?_, fun k hk => ?_⟩
  · exact stab_of_laid (zs := [[77, 111, 110, 100, 97, 121], [84, 117, 101, 115, 100, 97, 121], [87, 101, 100, 110, 101, 115, 100, 97, 121], [84, 104, 117, 114, 115, 100, 97, 121], [70, 114, 105, 100, 97, 121], [83, 97, 116, 117, 114, 100, 97, 121], [83, 117, 110, 100, 97, 121]]) h0 h
      (by kernel_rfl) (by kernel_rfl) Tryd.underlying58 Tryd.underlying9 (by kernel_rfl) (by kernel_rfl) k hk
  · exact stab_of_laid (zs := [[], [74, 97, 110], [70, 101, 98], [77, 97, 114], [65, 112, 114], [77, 97, 121], [74, 117, 110], [74, 117, 108], [65, 117, 103], [83, 101, 112], [79, 99, 116], [78, 111, 118], [68, 101, 99]]) h1 h
      (by kernel_rfl) (by kernel_rfl) Tryd.underlying54 Tryd.underlying9 (by kernel_rfl) (by kernel_rfl) k hk
end Go.Proofs.YtohaghlhdkfkbaaDoor
