/-
  Chapter 6: a reader's panic is caught at the face.
-/
import Derived.Test.YtaelopjalfapgacH10
import Derived.Defers
import Derived.Recover
import Derived.Stop.Asserts
namespace Go.Proofs.Ytaelopjalfapgac
set_option linter.unusedVariables false
set_option linter.unusedSimpArgs false
open Go.RowKit
/-- The panic, when it has been recovered. -/
def goneR (c : Int) : List PanicEntry := [{ v := .iface 54 (.int .i64 c), recovered := true }]
theorem catch_panicking (g : Nat) (x c : Int) (w : World) (hc : w.cell? ⟨g, 0, none⟩ = some (.int .i64 x)) (hz : w.frozen? ⟨g, 0, none⟩ = false) :
    CallsD Try.prog 33 #[.pointer (some ⟨g, 0, none⟩)] (.panicking (gone c)) w fun e u' w' =>
      e = .returned (.tuple #[]) ∧ u' = .panicking (goneR c) ∧ w' = w.setCell ⟨g, 0, none⟩ (.int .i64 c) := by
  unfold gone goneR
  refine callsD_of_wpS Try.func33 rfl fun c₀ cs hu => ?_
  apply wpS_seq
  apply wpS_region
  simp [wpOpsS, go_sem, recoverD, hu, Try.ntmps33, Exit.thenS]
  refine wpS_of_wp ?_
  rw [show (#[Value.pointer (some { block := g, off := 0 })] ++ ((Array.replicate 6 undef).setIfInBounds 1 (Value.iface 54 (.int .i64 c))).setIfInBounds 0 (Value.iface 54 (.int .i64 c))) = #[Value.pointer (some { block := g, off := 0 }), Value.iface 54 (.int .i64 c), Value.iface 54 (.int .i64 c), undef, undef, undef, undef] from rfl]
  have hta : ∀ (c : Int) (w : World), (Instr.typeAssert (.iface 54 (.int .i64 c)) 20 54 false).run Try.prog w = .ok (.int .i64 c) w := fun c w => by kernel_rfl
  go_wp2
  simp [bodyPostS, results, Try.results33, go_sem]
theorem catch_idle (g : Nat) (w : World) :
    CallsD Try.prog 33 #[.pointer (some ⟨g, 0, none⟩)] .returning w fun e u' w' => e = .returned (.tuple #[]) ∧ u' = .returning ∧ w' = w := by
  refine callsD_of_wpS Try.func33 rfl fun c₀ cs hu => ?_
  apply wpS_seq
  apply wpS_region
  simp [wpOpsS, go_sem, recoverD, hu, Try.ntmps33, Exit.thenS]
  refine wpS_of_wp ?_
  rw [show (#[Value.pointer (some { block := g, off := 0 })] ++ ((Array.replicate 6 undef).setIfInBounds 1 Value.nilIface).setIfInBounds 0 Value.nilIface) = #[Value.pointer (some { block := g, off := 0 }), Value.nilIface, Value.nilIface, undef, undef, undef, undef] from rfl]
  go_wp2
  cases c₀
  simp_all [bodyPostS, results, Try.results33]
end Go.Proofs.Ytaelopjalfapgac
