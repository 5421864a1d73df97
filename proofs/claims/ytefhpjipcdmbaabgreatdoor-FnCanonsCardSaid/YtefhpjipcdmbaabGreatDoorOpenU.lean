/-
  An address that comes in by value, opened; copies and sizes in the laws.
-/
import Derived.Test.YtefhpjipcdmbaabGreatDoorOpen
import Derived.Test.YtefhpjipcdmbaabGreatDoorU7
import Derived.Test.YtefhpjipcdmbaabGreatDoorBK2
import Derived.Deep.SlicePairs
namespace Go.Proofs.YtefhpjipcdmbaabGreatDoor
set_option linter.unusedVariables false
set_option linter.unusedSimpArgs false
open Go.ChangeShapes Go.WideShapes Go.ChangeAt Go.RowKit
/-- What is asked of an address that came in. -/
structure ArgU (ho pa qu : ByteArray) : Prop where
  zho : ho.size ≤ maxLen
  zpa : pa.size ≤ maxLen
  zqu : qu.size ≤ maxLen
theorem array5 {α : Type} {cs : Array α} (h : cs.size = 5) : ∃ c0 c1 c2 c3 c4, cs = #[c0, c1, c2, c3, c4] := by
  obtain ⟨l⟩ := cs
  match l, h with
  | [c0, c1, c2, c3, c4], _ => exact ⟨c0, c1, c2, c3, c4, rfl⟩
set_option maxRecDepth 100000 in
theorem open_url {H : Type} {enc : TypeId × Value → H} {w : World} {base : Nat} {spare : Nat → Bool} {held : Bool} {r : Reach} {b0 : Nat} {t : TypeId} {f0 f1 f2 f3 f4 : Field} {v : Value} {d : DataW H} {p : List MemPlace}
    (hs : Tryz.prog.underlying t = some (.struct #[f0, f1, f2, f3, f4])) (hone : Go.Deep.oneCellFields Tryz.prog #[f0, f1, f2, f3, f4] = true) (hC : Tryz.prog.cellsOf t = 5)
    (e0 : Tryz.prog.underlying f0.type = some .string) (e1 : Tryz.prog.underlying f1.type = some (.int .i64)) (e2 : Tryz.prog.underlying f2.type = some .string) (e3 : Tryz.prog.underlying f3.type = some .string) (e4 : Tryz.prog.underlying f4.type = some .bool)
    (hv : Value.okWide Tryz.prog w r b0 t v) (h : DataW.Trod enc Tryz.prog w base spare held t v d p) :
    ∃ (ho pa qu : ByteArray) (po : Int) (hq : Bool), v = .agg #[.string ho, .int .i64 po, .string pa, .string qu, .bool hq] ∧ ArgU ho pa qu := by
  obtain ⟨cs, rfl, hsz⟩ := okWide_struct hs hv
  obtain ⟨c0, c1, c2, c3, c4, rfl⟩ := array5 (hsz.trans hC)
  obtain ⟨fuel, hf⟩ := h
  obtain ⟨xs, n, _, _, hl, hlen, hf⟩ := DataW.trod_struct hs hf
  obtain ⟨o0, k0⟩ := Go.Deep.hone_of hone 0 f0 rfl
  obtain ⟨o1, k1⟩ := Go.Deep.hone_of hone 1 f1 rfl
  obtain ⟨o2, k2⟩ := Go.Deep.hone_of hone 2 f2 rfl
  obtain ⟨o3, k3⟩ := Go.Deep.hone_of hone 3 f3 rfl
  obtain ⟨o4, k4⟩ := Go.Deep.hone_of hone 4 f4 rfl
  have g : ∀ j, j < 5 → ∃ y, xs[j]? = some y := by
    intro j hj
    have : xs.length = 5 := by simpa using hlen
    exact ⟨_, List.getElem?_eq_getElem (by omega)⟩
  have str : ∀ {ty : TypeId} {c : Value} {x : Option (DataW H × List MemPlace)}, Tryz.prog.underlying ty = some .string → (∃ y, x = some y) → DataW.trod enc Tryz.prog w base spare held n ty [c] = x → ∃ z : ByteArray, c = .string z ∧ z.size ≤ maxLen := by
    intro ty c x hu ⟨y, hy⟩ ht
    rw [hy] at ht
    obtain ⟨z, hz, _, hw⟩ := DataW.trod_string hu ht
    exact ⟨z, by simpa using hz, hw⟩
  obtain ⟨ho, rfl, z0⟩ := str e0 (g 0 (by omega)) (by simpa [Value.cells, o0, k0] using hf 0 f0 rfl)
  obtain ⟨y1, hy1⟩ := g 1 (by omega)
  have t1 : DataW.trod enc Tryz.prog w base spare held n f1.type [c1] = xs[1]? := by simpa [Value.cells, o1, k1] using hf 1 f1 rfl
  rw [hy1] at t1
  obtain ⟨po, hst, _, _⟩ := DataW.trod_int e1 t1
  obtain rfl : c1 = .int .i64 po := by simpa using hst
  obtain ⟨pa, rfl, z2⟩ := str e2 (g 2 (by omega)) (by simpa [Value.cells, o2, k2] using hf 2 f2 rfl)
  obtain ⟨qu, rfl, z3⟩ := str e3 (g 3 (by omega)) (by simpa [Value.cells, o3, k3] using hf 3 f3 rfl)
  obtain ⟨y4, hy4⟩ := g 4 (by omega)
  have t4 : DataW.trod enc Tryz.prog w base spare held n f4.type [c4] = xs[4]? := by simpa [Value.cells, o4, k4] using hf 4 f4 rfl
  rw [hy4] at t4
  obtain ⟨hq, hba, _⟩ := DataW.trod_bool e4 t4
  obtain rfl : c4 = .bool hq := by simpa using hba
  exact ⟨ho, pa, qu, po, hq, rfl, z0, z2, z3⟩
theorem Tryz.infoUrl : (Tryz.prog.info? 23).map (·.size) = some 5 := by kernel_rfl
end Go.Proofs.YtefhpjipcdmbaabGreatDoor
