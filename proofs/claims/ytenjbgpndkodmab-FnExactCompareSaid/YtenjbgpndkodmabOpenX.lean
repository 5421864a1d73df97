/-
  A line that comes in by value, and a slice of lines that comes in, opened at every index.
-/
import Derived.Test.YtenjbgpndkodmabOpen
import Derived.Test.YtenjbgpndkodmabN4
import Derived.Deep.Slices
namespace Go.Proofs.Ytenjbgpndkodmab
set_option linter.unusedVariables false
set_option linter.unusedSimpArgs false
open Go.ChangeShapes Go.WideShapes Go.ChangeAt Go.RowKit
theorem list10 {α : Type} {cs : List α} (h : cs.length = 10) : ∃ c0 c1 c2 c3 c4 c5 c6 c7 c8 c9, cs = [c0, c1, c2, c3, c4, c5, c6, c7, c8, c9] := by
  match cs, h with
  | [c0, c1, c2, c3, c4, c5, c6, c7, c8, c9], _ => exact ⟨c0, c1, c2, c3, c4, c5, c6, c7, c8, c9, rfl⟩
set_option maxRecDepth 100000 in
set_option maxHeartbeats 2000000 in
theorem line_of {H : Type} {enc : TypeId × Value → H} {w : World} {base fuel : Nat} {spare : Nat → Bool} {held : Bool} {t : TypeId} {f0 f1 f2 f3 f4 f5 f6 f7 f8 f9 : Field} {cs : List Value} {y : DataW H × List MemPlace}
    (hs : Try.prog.underlying t = some (.struct #[f0, f1, f2, f3, f4, f5, f6, f7, f8, f9]))
    (o0 : f0.offset = 0) (k0 : Try.prog.cellsOf f0.type = 1) (o1 : f1.offset = 1) (k1 : Try.prog.cellsOf f1.type = 1) (o2 : f2.offset = 2) (k2 : Try.prog.cellsOf f2.type = 1) (o3 : f3.offset = 3) (k3 : Try.prog.cellsOf f3.type = 1) (o4 : f4.offset = 4) (k4 : Try.prog.cellsOf f4.type = 1) (o5 : f5.offset = 5) (k5 : Try.prog.cellsOf f5.type = 1) (o6 : f6.offset = 6) (k6 : Try.prog.cellsOf f6.type = 1) (o7 : f7.offset = 7) (k7 : Try.prog.cellsOf f7.type = 1) (o8 : f8.offset = 8) (k8 : Try.prog.cellsOf f8.type = 1) (o9 : f9.offset = 9) (k9 : Try.prog.cellsOf f9.type = 1)
    (e0 : Try.prog.underlying f0.type = some .string) (e1 : Try.prog.underlying f1.type = some (.int .i64)) (e2 : Try.prog.underlying f2.type = some (.int .i64)) (e3 : Try.prog.underlying f3.type = some .string) (e4 : Try.prog.underlying f4.type = some (.int .i64)) (e5 : Try.prog.underlying f5.type = some .string) (e6 : Try.prog.underlying f6.type = some .bool) (e7 : Try.prog.underlying f7.type = some (.int .i64)) (e8 : Try.prog.underlying f8.type = some (.int .i64)) (e9 : Try.prog.underlying f9.type = some (.int .i64))
    (hlen : cs.length = 10) (h : DataW.trod enc Try.prog w base spare held fuel t cs = some y) : ∃ x : Lx, cs = (lxC x).toList ∧ ZX x := by
  obtain ⟨c0, c1, c2, c3, c4, c5, c6, c7, c8, c9, rfl⟩ := list10 hlen
  obtain ⟨xs, n, _, _, _, hl, hf⟩ := DataW.trod_struct hs h
  have hx : xs.length = 10 := by simpa using hl
  have str : ∀ {ty : TypeId} {c : Value} {j : Nat}, Try.prog.underlying ty = some .string → j < 10 → DataW.trod enc Try.prog w base spare held n ty [c] = xs[j]? → ∃ z : ByteArray, c = .string z ∧ z.size ≤ maxLen := by
    intro ty c j hu hj ht
    rw [List.getElem?_eq_getElem (by omega)] at ht
    obtain ⟨z, hz, _, hw⟩ := DataW.trod_string hu ht
    exact ⟨z, by simpa using hz, hw⟩
  have num : ∀ {ty : TypeId} {c : Value} {j : Nat}, Try.prog.underlying ty = some (.int .i64) → j < 10 → DataW.trod enc Try.prog w base spare held n ty [c] = xs[j]? → ∃ z : Int, c = .int .i64 z := by
    intro ty c j hu hj ht
    rw [List.getElem?_eq_getElem (by omega)] at ht
    obtain ⟨z, hz, _, hw⟩ := DataW.trod_int hu ht
    exact ⟨z, by simpa using hz⟩
  have boo : ∀ {ty : TypeId} {c : Value} {j : Nat}, Try.prog.underlying ty = some .bool → j < 10 → DataW.trod enc Try.prog w base spare held n ty [c] = xs[j]? → ∃ z : Bool, c = .bool z := by
    intro ty c j hu hj ht
    rw [List.getElem?_eq_getElem (by omega)] at ht
    obtain ⟨z, hz, _⟩ := DataW.trod_bool hu ht
    exact ⟨z, by simpa using hz⟩
  obtain ⟨ke, rfl, z0⟩ := str (j := 0) e0 (by omega) (by simpa [o0, k0] using hf 0 f0 rfl)
  obtain ⟨ti, rfl⟩ := num (j := 1) e1 (by omega) (by simpa [o1, k1] using hf 1 f1 rfl)
  obtain ⟨si, rfl⟩ := num (j := 2) e2 (by omega) (by simpa [o2, k2] using hf 2 f2 rfl)
  obtain ⟨me, rfl, z3⟩ := str (j := 3) e3 (by omega) (by simpa [o3, k3] using hf 3 f3 rfl)
  obtain ⟨st, rfl⟩ := num (j := 4) e4 (by omega) (by simpa [o4, k4] using hf 4 f4 rfl)
  obtain ⟨la, rfl, z5⟩ := str (j := 5) e5 (by omega) (by simpa [o5, k5] using hf 5 f5 rfl)
  obtain ⟨rv, rfl⟩ := boo (j := 6) e6 (by omega) (by simpa [o6, k6] using hf 6 f6 rfl)
  obtain ⟨se, rfl⟩ := num (j := 7) e7 (by omega) (by simpa [o7, k7] using hf 7 f7 rfl)
  obtain ⟨wh, rfl⟩ := num (j := 8) e8 (by omega) (by simpa [o8, k8] using hf 8 f8 rfl)
  obtain ⟨sz, rfl⟩ := num (j := 9) e9 (by omega) (by simpa [o9, k9] using hf 9 f9 rfl)
  exact ⟨⟨ke, ti, si, me, st, la, rv, se, wh, sz⟩, rfl, z0, z3, z5⟩
set_option maxRecDepth 100000 in
theorem line_in {H : Type} {enc : TypeId × Value → H} {w : World} {base fuel : Nat} {spare : Nat → Bool} {held : Bool} {cs : List Value} {y : DataW H × List MemPlace} (hlen : cs.length = 10) (h : DataW.trod enc Try.prog w base spare held fuel 23 cs = some y) : ∃ x : Lx, cs = (lxC x).toList ∧ ZX x :=
  line_of Try.underlying23 rfl (by kernel_rfl) rfl (by kernel_rfl) rfl (by kernel_rfl) rfl (by kernel_rfl) rfl (by kernel_rfl) rfl (by kernel_rfl) rfl (by kernel_rfl) rfl (by kernel_rfl) rfl (by kernel_rfl) rfl (by kernel_rfl) Try.underlying9 Try.underlying3 Try.underlying3 Try.underlying9 Try.underlying3 Try.underlying9 Try.underlying4 Try.underlying3 Try.underlying3 Try.underlying3 hlen h
set_option maxRecDepth 100000 in
theorem open_line {H : Type} {enc : TypeId × Value → H} {w : World} {base : Nat} {spare : Nat → Bool} {held : Bool} {r : Reach} {b0 : Nat} {v : Value} {d : DataW H} {p : List MemPlace}
    (hv : Value.okWide Try.prog w r b0 23 v) (h : DataW.Trod enc Try.prog w base spare held 23 v d p) : ∃ x : Lx, v = lxV x ∧ ZX x := by
  obtain ⟨cs, rfl, hsz⟩ := okWide_struct Try.underlying23 hv
  obtain ⟨fuel, hf⟩ := h
  have hsz2 : cs.size = 10 := hsz.trans (by kernel_rfl)
  have hf' : DataW.trod enc Try.prog w base spare held fuel 23 cs.toList = some (d, p) := hf
  obtain ⟨x, hx, hz⟩ := line_in (by simpa using hsz2) hf'
  refine ⟨x, ?_, hz⟩
  show Value.agg cs = Value.agg (lxC x)
  rw [Array.toList_inj.1 hx]
end Go.Proofs.Ytenjbgpndkodmab
