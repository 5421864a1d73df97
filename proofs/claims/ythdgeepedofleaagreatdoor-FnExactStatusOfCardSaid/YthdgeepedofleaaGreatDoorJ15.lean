/-
  An exchange that comes in by value. · What a card of a door seat of chapter 1 needs: the listed tables. · What a card of a door seat of chapter 6 needs: the table of the powers of ten.
-/
import Derived.Test.YthdgeepedofleaaGreatDoorJ14
import Derived.Test.YthdgeepedofleaaGreatDoorJ8
import Derived.Deep.Slices
import Derived.Lib.LaidTab
import Derived.LaidLaws
import Derived.LaidHandle
import Derived.ChangeVars
import Derived.OpenVars
import Derived.SevenTiedAt
import Derived.Test.YthdgeepedofleaaGreatDoorJ4
namespace Go.Proofs.YthdgeepedofleaaGreatDoor
set_option linter.unusedVariables false
set_option linter.unusedSimpArgs false
open Go.ChangeShapes Go.WideShapes Go.ChangeAt Go.RowKit
theorem list6 {α : Type} {cs : List α} (h : cs.length = 6) : ∃ c0 c1 c2 c3 c4 c5, cs = [c0, c1, c2, c3, c4, c5] := by
  match cs, h with
  | [c0, c1, c2, c3, c4, c5], _ => exact ⟨c0, c1, c2, c3, c4, c5, rfl⟩
set_option maxRecDepth 100000 in
set_option maxHeartbeats 2000000 in
theorem exch_of {H : Type} {enc : TypeId × Value → H} {w : World} {base fuel : Nat} {spare : Nat → Bool} {held : Bool} {t : TypeId} {f0 f1 f2 f3 f4 f5 : Field} {cs : List Value} {y : DataW H × List MemPlace}
    (hs : Tryz.prog.underlying t = some (.struct #[f0, f1, f2, f3, f4, f5]))
    (o0 : f0.offset = 0) (k0 : Tryz.prog.cellsOf f0.type = 1) (o1 : f1.offset = 1) (k1 : Tryz.prog.cellsOf f1.type = 1) (o2 : f2.offset = 2) (k2 : Tryz.prog.cellsOf f2.type = 1) (o3 : f3.offset = 3) (k3 : Tryz.prog.cellsOf f3.type = 1) (o4 : f4.offset = 4) (k4 : Tryz.prog.cellsOf f4.type = 1) (o5 : f5.offset = 5) (k5 : Tryz.prog.cellsOf f5.type = 1)
    (e0 : Tryz.prog.underlying f0.type = some (.int .i64)) (e1 : Tryz.prog.underlying f1.type = some (.int .i64)) (e2 : Tryz.prog.underlying f2.type = some (.int .i64)) (e3 : Tryz.prog.underlying f3.type = some .string) (e4 : Tryz.prog.underlying f4.type = some .string) (e5 : Tryz.prog.underlying f5.type = some .string)
    (hlen : cs.length = 6) (h : DataW.trod enc Tryz.prog w base spare held fuel t cs = some y) : ∃ x : Ex, cs = (exC6 x).toList ∧ ZE x := by
  obtain ⟨c0, c1, c2, c3, c4, c5, rfl⟩ := list6 hlen
  obtain ⟨xs, n, _, _, _, hl, hf⟩ := DataW.trod_struct hs h
  have hx : xs.length = 6 := by simpa using hl
  have str : ∀ {ty : TypeId} {c : Value} {j : Nat}, Tryz.prog.underlying ty = some .string → j < 6 → DataW.trod enc Tryz.prog w base spare held n ty [c] = xs[j]? → ∃ z : ByteArray, c = .string z ∧ z.size ≤ maxLen := by
    intro ty c j hu hj ht
    rw [List.getElem?_eq_getElem (by omega)] at ht
    obtain ⟨z, hz, _, hw⟩ := DataW.trod_string hu ht
    exact ⟨z, by simpa using hz, hw⟩
  have num : ∀ {ty : TypeId} {c : Value} {j : Nat}, Tryz.prog.underlying ty = some (.int .i64) → j < 6 → DataW.trod enc Tryz.prog w base spare held n ty [c] = xs[j]? → ∃ z : Int, c = .int .i64 z := by
    intro ty c j hu hj ht
    rw [List.getElem?_eq_getElem (by omega)] at ht
    obtain ⟨z, hz, _, hw⟩ := DataW.trod_int hu ht
    exact ⟨z, by simpa using hz⟩
  obtain ⟨si, rfl⟩ := num (j := 0) e0 (by omega) (by simpa [o0, k0] using hf 0 f0 rfl)
  obtain ⟨ak, rfl⟩ := num (j := 1) e1 (by omega) (by simpa [o1, k1] using hf 1 f1 rfl)
  obtain ⟨wh, rfl⟩ := num (j := 2) e2 (by omega) (by simpa [o2, k2] using hf 2 f2 rfl)
  obtain ⟨ur, rfl, z3⟩ := str (j := 3) e3 (by omega) (by simpa [o3, k3] using hf 3 f3 rfl)
  obtain ⟨rq, rfl, z4⟩ := str (j := 4) e4 (by omega) (by simpa [o4, k4] using hf 4 f4 rfl)
  obtain ⟨an, rfl, z5⟩ := str (j := 5) e5 (by omega) (by simpa [o5, k5] using hf 5 f5 rfl)
  exact ⟨⟨si, ak, wh, ur, rq, an⟩, rfl, z3, z4, z5⟩
set_option maxRecDepth 100000 in
theorem exch_in {H : Type} {enc : TypeId × Value → H} {w : World} {base fuel : Nat} {spare : Nat → Bool} {held : Bool} {cs : List Value} {y : DataW H × List MemPlace} (hlen : cs.length = 6) (h : DataW.trod enc Tryz.prog w base spare held fuel 42 cs = some y) : ∃ x : Ex, cs = (exC6 x).toList ∧ ZE x :=
  exch_of Tryz.underlying42 rfl (by kernel_rfl) rfl (by kernel_rfl) rfl (by kernel_rfl) rfl (by kernel_rfl) rfl (by kernel_rfl) rfl (by kernel_rfl) Tryz.underlying3 Tryz.underlying3 Tryz.underlying3 Tryz.underlying9 Tryz.underlying9 Tryz.underlying9 hlen h
set_option maxRecDepth 100000 in
theorem open_exch {H : Type} {enc : TypeId × Value → H} {w : World} {base : Nat} {spare : Nat → Bool} {held : Bool} {r : Reach} {b0 : Nat} {v : Value} {d : DataW H} {p : List MemPlace}
    (hv : Value.okWide Tryz.prog w r b0 42 v) (h : DataW.Trod enc Tryz.prog w base spare held 42 v d p) : ∃ x : Ex, v = exV x ∧ ZE x := by
  obtain ⟨cs, rfl, hsz⟩ := okWide_struct Tryz.underlying42 hv
  obtain ⟨fuel, hf⟩ := h
  have hsz2 : cs.size = 6 := hsz.trans (by kernel_rfl)
  have hf' : DataW.trod enc Tryz.prog w base spare held fuel 42 cs.toList = some (d, p) := hf
  obtain ⟨x, hx, hz⟩ := exch_in (by simpa using hsz2) hf'
  refine ⟨x, ?_, hz⟩
  show Value.agg cs = Value.agg (exC6 x)
  rw [Array.toList_inj.1 hx]
end Go.Proofs.YthdgeepedofleaaGreatDoor
namespace Go.Proofs.YthdgeepedofleaaGreatDoor
set_option linter.unusedVariables false
set_option linter.unusedSimpArgs false
open Go.ChangeShapes Go.WideShapes Go.ChangeAt Go.RowKit

/-- A block's cells, laid anew. -/
def laidRow (cs : Array Value) : Obj → Obj
  | .cells _ t frozen => .cells cs t frozen
  | o => o
theorem laid_mem {P : Program} {w : World} : ∀ {l : List (String × DataW Unit)} {ps : List MemPlace}, DataW.LaidVars P w l ps → ∀ (n : String) (d : DataW Unit), (n, d) ∈ l →
    ∃ g t cs fuel p, P.globalNamed n = some g ∧ (P.globals[g]?).map (·.type) = some t ∧ w.var? P n = some cs ∧ DataW.trod (fun _ => ()) P w 0 (fun _ => true) false fuel t cs.toList = some (d, p)
  | [], _, _, n, d, hm => by simp at hm
  | (n0, d0) :: r, ps, h, n, d, hm => by
    obtain ⟨g, t, cs, fuel, p, q, h1, h2, h3, h4, h5, _⟩ := h
    rcases List.mem_cons.1 hm with e | e
    · cases e
      exact ⟨g, t, cs, fuel, p, h1, h2, h3, h4⟩
    · exact laid_mem h5 n d e
end Go.Proofs.YthdgeepedofleaaGreatDoor
namespace Go.Proofs.YthdgeepedofleaaGreatDoor
set_option linter.unusedVariables false
set_option linter.unusedSimpArgs false
open Go.ChangeShapes Go.WideShapes Go.ChangeAt Go.RowKit
theorem dectab_of_laid {W : World} {l : List (String × DataW Unit)} (hm : ("internal/strconv.uint64pow10", Rows.laid_internal_strconv_uint64pow10) ∈ l) (h : laidMet Tryz.prog l W) : Tab10 W := by
  obtain ⟨ps, hl, _⟩ := h
  obtain ⟨g, t, cs, fuel, p, h1, h2, h3, h4⟩ := laid_mem hl _ _ hm
  have hg : Tryz.prog.globalNamed "internal/strconv.uint64pow10" = some 1 := by kernel_rfl
  have ht : (Tryz.prog.globals[1]?).map (·.type) = some 233 := by kernel_rfl
  obtain rfl := Option.some.inj (hg.symm.trans h1)
  obtain rfl := Option.some.inj (ht.symm.trans h2)
  have hc := Lib.cells_of_tab (k := .u64) (zs := Lib.pow10Tab) Tryz.underlying233 Tryz.underlying207 (by kernel_rfl) (by kernel_rfl) h4
  unfold Tab10 Lib.TabIs
  rw [h3, ← hc]
end Go.Proofs.YthdgeepedofleaaGreatDoor
