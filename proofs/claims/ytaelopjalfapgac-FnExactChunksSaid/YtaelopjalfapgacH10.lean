/-
  Chapter 6: a reader that gives up; a head's line; a field out of it. The program's side.
-/
import Derived.Test.YtaelopjalfapgacMR6
import Derived.Test.YtaelopjalfapgacW13
namespace Go.Proofs.Ytaelopjalfapgac
set_option linter.unusedVariables false
set_option linter.unusedSimpArgs false
open Go.RowKit
/-- A reader has given up with a code. -/
def gone (c : Int) : List PanicEntry := [{ v := .iface 54 (.int .i64 c), recovered := false }]
set_option maxHeartbeats 400000 in
theorem refuseIf_no (c : Int) (w : World) : Calls Try.prog 35 #[.bool false, .int .i64 c] w fun e w' => e = .returned (.tuple #[]) ∧ w' = w := by
  go_enter Try.func35, Try.ntmps35
  go_wp2
  go_end0
  exact ⟨rfl, rfl⟩
set_option maxHeartbeats 400000 in
theorem refuseIf_yes (c : Int) (w : World) : Calls Try.prog 35 #[.bool true, .int .i64 c] w fun e w' => e = .panicked (gone c) ∧ w' = w := by
  go_enter Try.func35, Try.ntmps35
  go_wp2
  exact ⟨rfl, rfl, rfl⟩
/-- What comes of a refusal, or of none. -/
def refE : Bool → Int → Ending
  | true, c => .panicked (gone c)
  | false, _ => .returned (.tuple #[])
theorem refuseIf_any (b : Bool) (c : Int) (w : World) : Calls Try.prog 35 #[.bool b, .int .i64 c] w fun e w' => e = refE b c ∧ w' = w := by
  cases b
  · exact refuseIf_no c w
  · exact refuseIf_yes c w
theorem Try.infoCur : (Try.prog.info? 35).map (·.size) = some 2 := by kernel_rfl
theorem results_tmpC {fn : Func} {p u : Tmp} {ty : TypeId} (h : fn.results = #[.tmp u, .cell p ty]) (tmps : Array Value) (P : Program) (w : World) {b : Nat} {c : Array Value} {t : TypeId} {fs : Array Field} (hp : tmps.getD p undef = .pointer (some ⟨b, 0, none⟩)) (hB : Blk w b c t)
    (hu : P.underlying ty = some (.struct fs)) (hi : (P.info? ty).map (·.size) = some c.size) : (results fn tmps).run P w = .ok (.tuple #[tmps.getD u undef, .agg c]) w := by
  have hrun := run_loadVar_row (P := P) w b t ty c (0, 0) _ hB hu rfl hi
  have ha : (asAddr (tmps.getD p undef)).run P w = .ok ⟨b, 0, none⟩ w := by rw [hp]; rfl
  have he : (results fn tmps).run P w = ((asAddr (tmps.getD p undef)).run P w).andThen fun a w₁ => ((loadVar ty a).run P w₁).andThen fun v w₂ => .ok (.tuple #[tmps.getD u undef, v]) w₂ := by
    simp only [results, h]
    simp [Sem.run_bind, Result.andThen]
  rw [he, ha]
  show ((loadVar ty ⟨b, 0, none⟩).run P w).andThen _ = _
  rw [hrun]
  rfl
end Go.Proofs.Ytaelopjalfapgac
