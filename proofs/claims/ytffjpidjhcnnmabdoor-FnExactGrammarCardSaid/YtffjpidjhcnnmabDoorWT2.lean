/-
  The walks over chapter 2: clockText, blankedDay, shortDay of impl.
-/
import Derived.Test.YtffjpidjhcnnmabDoorWT1
namespace Go.Proofs.YtffjpidjhcnnmabDoor
set_option linter.unusedVariables false
set_option linter.unusedSimpArgs false
open Go.RowKit

/-- A day and hour lies at the head of block b. -/
def CivAt (W : World) (b : Nat) (y m d h i s : Int) : Prop :=
  W.cell? ⟨b, 0, none⟩ = some (.int .i64 y) ∧ W.cell? ⟨b, 1, none⟩ = some (.int .i64 m) ∧ W.cell? ⟨b, 2, none⟩ = some (.int .i64 d) ∧ W.cell? ⟨b, 3, none⟩ = some (.int .i64 h) ∧ W.cell? ⟨b, 4, none⟩ = some (.int .i64 i) ∧ W.cell? ⟨b, 5, none⟩ = some (.int .i64 s)
theorem civAt_new (w : World) (y m d h i s : Int) (T : TypeId) : CivAt (w.alloc (.cells #[.int .i64 y, .int .i64 m, .int .i64 d, .int .i64 h, .int .i64 i, .int .i64 s] T)) w.heap.size y m d h i s := by
  unfold CivAt
  simp [go_sem]
theorem CivAt.grw {W : World} {b : Nat} {y m d h i s : Int} (k : CivAt W b y m d h i s) : (∀ V, (grw W V).cell? ⟨b, 0, none⟩ = some (.int .i64 y)) ∧ (∀ V, (grw W V).cell? ⟨b, 1, none⟩ = some (.int .i64 m)) ∧ (∀ V, (grw W V).cell? ⟨b, 2, none⟩ = some (.int .i64 d)) ∧ (∀ V, (grw W V).cell? ⟨b, 3, none⟩ = some (.int .i64 h)) ∧ (∀ V, (grw W V).cell? ⟨b, 4, none⟩ = some (.int .i64 i)) ∧ (∀ V, (grw W V).cell? ⟨b, 5, none⟩ = some (.int .i64 s)) :=
  ⟨grw_some k.1, grw_some k.2.1, grw_some k.2.2.1, grw_some k.2.2.2.1, grw_some k.2.2.2.2.1, grw_some k.2.2.2.2.2⟩
theorem CivAt.below {W W' : World} {b : Nat} {y m d h i s : Int} (k : CivAt W b y m d h i s) (hb : Below W.heap.size W W') : CivAt W' b y m d h i s := by
  have g := k.grw
  exact ⟨g.1 ⟨W', hb⟩, g.2.1 ⟨W', hb⟩, g.2.2.1 ⟨W', hb⟩, g.2.2.2.1 ⟨W', hb⟩, g.2.2.2.2.1 ⟨W', hb⟩, g.2.2.2.2.2 ⟨W', hb⟩⟩
set_option maxHeartbeats 2000000 in
theorem clockText_any (y m d : Int) (h i s : Nat) (w : World) (hh : h ≤ 1000) (hi : i ≤ 1000) (hs : s ≤ 1000) :
    Calls Tryd.prog 70 #[civ y m d h i s] w fun e w' => e = .returned (.string (clockB h i s)) ∧ Below w.heap.size w w' := by
  unfold clockB
  have hsz := digB_size
  have hA := below_a1 w (.cells #[.int .i64 y, .int .i64 m, .int .i64 d, .int .i64 h, .int .i64 i, .int .i64 s] 62)
  have gc := civAt_new w y m d h i s 62
  go_enter Tryd.func70, Tryd.ntmps70
  go_wp2
  generalize w.alloc (.cells #[.int .i64 y, .int .i64 m, .int .i64 d, .int .i64 h, .int .i64 i, .int .i64 s] 62) = W at *
  obtain ⟨g0, g1, g2, g3, g4, g5⟩ := gc.grw
  clear gc
  refine wp_region_grow ?_ ?_ ?_
  · kernel_rfl
  · kernel_rfl
  · intro hne
    repeat (go_big_quiet_step ((go_at_call 69; exact grow_call (digits_any _ 2 _ (by omega) (by omega) (by omega)))))
    refine wpQuiet_nil ?_
    rintro _ ⟨V, rfl⟩
    have hb := below_then hA (grw_below W V)
    go_wp2
    go_ret
    exact ⟨rfl, hb⟩
end Go.Proofs.YtffjpidjhcnnmabDoor
