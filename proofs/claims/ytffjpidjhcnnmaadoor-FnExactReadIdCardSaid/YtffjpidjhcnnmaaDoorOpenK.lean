/-
  The listed table of the kinds' words, out of the row's condition.
-/
import Derived.Test.YtffjpidjhcnnmaaDoorOpenL
import Derived.Test.YtffjpidjhcnnmaaDoorR1
namespace Go.Proofs.YtffjpidjhcnnmaaDoor
set_option linter.unusedVariables false
set_option linter.unusedSimpArgs false
open Go.ChangeShapes Go.WideShapes Go.ChangeAt Go.RowKit
def KindTab (w : World) : Prop := ∀ k : Nat, k < 5 → w.cell? ⟨0, k, none⟩ = some (.string (kindB (k : Int)))
theorem KindTab.below {w w' : World} (h : KindTab w) (hb : Below w.heap.size w w') : KindTab w' := by
  intro k hk
  rw [hb.cell (p := ⟨0, k, none⟩) (World.block_lt_of_cell? _ _ (h k hk))]; exact h k hk
/-- A table of texts as a row lists it, and what its cells hold. -/
def stabDataK {H : Type} (zs : List (List UInt8)) : DataW H := .agg (zs.map fun z => .lit (.string z))
theorem cells_of_stabK {H : Type} {enc : TypeId × Value → H} {P : Program} {w : World} {base : Nat} {sp : Nat → Bool} {held : Bool} {fuel : Nat} {t e : TypeId} {n : Nat} {cs : List Value} {zs : List (List UInt8)} {p : List MemPlace}
    (ht : P.underlying t = some (.array n e)) (he : P.underlying e = some .string) (hce : P.cellsOf e = 1) (hct : P.cellsOf t = n)
    (h : DataW.trod enc P w base sp held fuel t cs = some (stabDataK zs, p)) : cs = zs.map fun z => Value.string ⟨z.toArray⟩ := by
  cases fuel with
  | zero => simp [DataW.trod] at h
  | succ fuel =>
    simp only [DataW.trod, ht, hce, hct, Nat.mul_one] at h
    split at h
    · rename_i hl
      obtain ⟨xs, hm, hx⟩ := Option.map_eq_some_iff.1 h
      have hxs : xs.map (·.1) = zs.map fun z => (DataW.lit (.string z) : DataW H) := by
        have := congrArg Prod.fst hx
        simpa [stabDataK] using this
      have hxl : xs.length = n := by simpa using Lib.mapM_length hm
      have hzl : zs.length = n := by
        have := congrArg List.length hxs
        simp at this
        omega
      apply List.ext_getElem?
      intro i
      by_cases hi : i < n
      · obtain ⟨b, hb, hf⟩ := Lib.mapM_at hm i i (by simp [hi])
        obtain ⟨z, hc, rfl, _⟩ := DataW.trod_string he hf
        have h1 : cs[i]? = some (.string z) := by
          have := congrArg (·[0]?) hc
          simpa [List.getElem?_take, List.getElem?_drop] using this
        have h2 : (xs.map (·.1))[i]? = some (DataW.lit (.string z.data.toList) : DataW H) := by simp [hb]
        rw [hxs] at h2
        simp only [List.getElem?_map, Option.map_eq_some_iff, DataW.lit.injEq, Lit.string.injEq] at h2
        obtain ⟨z', hz', rfl⟩ := h2
        simp [h1, hz']
      · rw [List.getElem?_eq_none (by omega), List.getElem?_eq_none (by simp; omega)]
    · cases h
theorem stab_of_laidK {P : Program} {W : World} {l : List (String × DataW Unit)} {n : String} {zs : List (List UInt8)} {g : Nat} {t e : TypeId} {c : Nat} (hm : (n, stabDataK zs) ∈ l) (h : laidMet P l W)
    (hg : P.globalNamed n = some g) (ht : (P.globals[g]?).map (·.type) = some t) (ha : P.underlying t = some (.array c e)) (he : P.underlying e = some .string) (hce : P.cellsOf e = 1) (hct : P.cellsOf t = c) (i : Nat) (hi : i < zs.length) :
    W.cell? ⟨g, i, none⟩ = some (.string ⟨(zs.getD i []).toArray⟩) := by
  obtain ⟨ps, hl, _⟩ := h
  obtain ⟨g', t', cs, fuel, p, h1, h2, h3, h4⟩ := laid_mem hl _ _ hm
  obtain rfl := Option.some.inj (hg.symm.trans h1)
  obtain rfl := Option.some.inj (ht.symm.trans h2)
  have hc := cells_of_stabK ha he hce hct h4
  have := World.var?_cell hg h3 i
  rw [this, ← Array.getElem?_toList, hc]
  simp [List.getD, hi]
def kindZ : List (List UInt8) := [[119, 97, 114, 99, 105, 110, 102, 111], [114, 101, 113, 117, 101, 115, 116], [114, 101, 115, 112, 111, 110, 115, 101], [114, 101, 118, 105, 115, 105, 116], [109, 101, 116, 97, 100, 97, 116, 97]]
theorem kindZ_at : ∀ k : Nat, k < 5 → (⟨(kindZ.getD k []).toArray⟩ : ByteArray) = kindB (k : Int)
  | 0, _ => rfl
  | 1, _ => rfl
  | 2, _ => rfl
  | 3, _ => rfl
  | 4, _ => rfl
  | _ + 5, h => by omega
theorem kindtab_of_laid {W : World} {l : List (String × DataW Unit)} (hm : ("loop.example/g00651/impl.kindNames", Rows.laid_loop_example_g00651_impl_kindNames) ∈ l) (h : laidMet Tryd.prog l W) : KindTab W := by
  intro k hk
  rw [← kindZ_at k hk]
  exact stab_of_laidK (zs := kindZ) hm h (by kernel_rfl) (by kernel_rfl) Tryd.underlying28 Tryd.underlying9 (by kernel_rfl) (by kernel_rfl) k hk
end Go.Proofs.YtffjpidjhcnnmaaDoor
