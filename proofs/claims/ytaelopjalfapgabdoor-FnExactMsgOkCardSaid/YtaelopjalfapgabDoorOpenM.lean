/-
  A message that comes in by value, opened.
-/
import Derived.Test.YtaelopjalfapgabDoorOpenF
import Derived.Test.YtaelopjalfapgabDoorH6
namespace Go.Proofs.YtaelopjalfapgabDoor
set_option linter.unusedVariables false
set_option linter.unusedSimpArgs false
open Go.ChangeShapes Go.WideShapes Go.ChangeAt Go.RowKit
theorem array7 {α : Type} {cs : Array α} (h : cs.size = 7) : ∃ c0 c1 c2 c3 c4 c5 c6, cs = #[c0, c1, c2, c3, c4, c5, c6] := by
  obtain ⟨l⟩ := cs
  match l, h with
  | [c0, c1, c2, c3, c4, c5, c6], _ => exact ⟨c0, c1, c2, c3, c4, c5, c6, rfl⟩
set_option maxRecDepth 100000 in
theorem open_msg {H : Type} {enc : TypeId × Value → H} {w : World} {base : Nat} {spare : Nat → Bool} {held : Bool} {r : Reach} {b0 : Nat} {t : TypeId} {f0 f1 f2 f3 f4 f5 f6 : Field} {v : Value} {d : DataW H} {p : List MemPlace}
    (hs : Tryd.prog.underlying t = some (.struct #[f0, f1, f2, f3, f4, f5, f6])) (hone : Go.Deep.oneCellFields Tryd.prog #[f0, f1, f2, f3, f4, f5, f6] = true) (hC : Tryd.prog.cellsOf t = 7)
    (e0 : Tryd.prog.underlying f0.type = some .string) (e1 : Tryd.prog.underlying f1.type = some .string) (e2 : Tryd.prog.underlying f2.type = some (.int .i64)) (e3 : Tryd.prog.underlying f3.type = some .string) (e4 : Tryd.prog.underlying f4.type = some .bool) (e5 : f5.type = 22) (e6 : Tryd.prog.underlying f6.type = some .string)
    (hv : Value.okWide Tryd.prog w r b0 t v) (h : DataW.Trod enc Tryd.prog w base spare held t v d p) :
    ∃ (me ta re bo : ByteArray) (st : Int) (ba : Bool) (fa : Option Addr) (fn fc : Nat) (fs : List Fd), v = .agg #[.string me, .string ta, .int .i64 st, .string re, .bool ba, .slice fa fn fc, .string bo] ∧ ArgM w me ta re bo fa fn fs := by
  obtain ⟨cs, rfl, hsz⟩ := okWide_struct hs hv
  obtain ⟨c0, c1, c2, c3, c4, c5, c6, rfl⟩ := array7 (hsz.trans hC)
  obtain ⟨fuel, hf⟩ := h
  obtain ⟨xs, n, _, _, hl, hlen, hf⟩ := DataW.trod_struct hs hf
  obtain ⟨o0, k0⟩ := Go.Deep.hone_of hone 0 f0 rfl
  obtain ⟨o1, k1⟩ := Go.Deep.hone_of hone 1 f1 rfl
  obtain ⟨o2, k2⟩ := Go.Deep.hone_of hone 2 f2 rfl
  obtain ⟨o3, k3⟩ := Go.Deep.hone_of hone 3 f3 rfl
  obtain ⟨o4, k4⟩ := Go.Deep.hone_of hone 4 f4 rfl
  obtain ⟨o5, k5⟩ := Go.Deep.hone_of hone 5 f5 rfl
  obtain ⟨o6, k6⟩ := Go.Deep.hone_of hone 6 f6 rfl
  have g : ∀ j, j < 7 → ∃ y, xs[j]? = some y := by
    intro j hj
    have : xs.length = 7 := by simpa using hlen
    exact ⟨_, List.getElem?_eq_getElem (by omega)⟩
  have str : ∀ {ty : TypeId} {c : Value} {x : Option (DataW H × List MemPlace)}, Tryd.prog.underlying ty = some .string → (∃ y, x = some y) → DataW.trod enc Tryd.prog w base spare held n ty [c] = x → ∃ z : ByteArray, c = .string z ∧ z.size ≤ maxLen := by
    intro ty c x hu ⟨y, hy⟩ ht
    rw [hy] at ht
    obtain ⟨z, hz, _, hw⟩ := DataW.trod_string hu ht
    exact ⟨z, by simpa using hz, hw⟩
  obtain ⟨me, rfl, z0⟩ := str e0 (g 0 (by omega)) (by simpa [Value.cells, o0, k0] using hf 0 f0 rfl)
  obtain ⟨ta, rfl, z1⟩ := str e1 (g 1 (by omega)) (by simpa [Value.cells, o1, k1] using hf 1 f1 rfl)
  obtain ⟨y2, hy2⟩ := g 2 (by omega)
  have t2 : DataW.trod enc Tryd.prog w base spare held n f2.type [c2] = xs[2]? := by simpa [Value.cells, o2, k2] using hf 2 f2 rfl
  rw [hy2] at t2
  obtain ⟨st, hst, _, _⟩ := DataW.trod_int e2 t2
  obtain rfl : c2 = .int .i64 st := by simpa using hst
  obtain ⟨re, rfl, z3⟩ := str e3 (g 3 (by omega)) (by simpa [Value.cells, o3, k3] using hf 3 f3 rfl)
  obtain ⟨y4, hy4⟩ := g 4 (by omega)
  have t4 : DataW.trod enc Tryd.prog w base spare held n f4.type [c4] = xs[4]? := by simpa [Value.cells, o4, k4] using hf 4 f4 rfl
  rw [hy4] at t4
  obtain ⟨ba, hba, _⟩ := DataW.trod_bool e4 t4
  obtain rfl : c4 = .bool ba := by simpa using hba
  obtain ⟨y5, hy5⟩ := g 5 (by omega)
  have t5 : DataW.trod enc Tryd.prog w base spare held n f5.type [c5] = xs[5]? := by simpa [Value.cells, o5, k5] using hf 5 f5 rfl
  rw [hy5, e5] at t5
  obtain ⟨fa, fn, fc, fs, rfl, hrow, hln, hea⟩ := argF_of t5
  obtain ⟨bo, rfl, z6⟩ := str e6 (g 6 (by omega)) (by simpa [Value.cells, o6, k6] using hf 6 f6 rfl)
  exact ⟨me, ta, re, bo, st, ba, fa, fn, fc, fs, rfl, hrow, hln, hea, z0, z1, z3, z6⟩
end Go.Proofs.YtaelopjalfapgabDoor
