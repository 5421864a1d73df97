/-
  The walks over chapter 2: impl.timeWritten.
-/
import Derived.Test.YtffjpidjhcnnmabDoorWT3
import Derived.Test.YtffjpidjhcnnmabDoorRd
namespace Go.Proofs.YtffjpidjhcnnmabDoor
set_option linter.unusedVariables false
set_option linter.unusedSimpArgs false
open Go.RowKit
/-- A text and a day and hour lie at the head of block b. -/
def WrtAt (W : World) (b : Nat) (a : ByteArray) (y m d h i s : Int) : Prop :=
  W.cell? ⟨b, 0, none⟩ = some (.string a) ∧ W.cell? ⟨b, 1, none⟩ = some (.int .i64 y) ∧ W.cell? ⟨b, 2, none⟩ = some (.int .i64 m) ∧ W.cell? ⟨b, 3, none⟩ = some (.int .i64 d) ∧ W.cell? ⟨b, 4, none⟩ = some (.int .i64 h) ∧ W.cell? ⟨b, 5, none⟩ = some (.int .i64 i) ∧ W.cell? ⟨b, 6, none⟩ = some (.int .i64 s)
theorem wrtAt_new (w : World) (a : ByteArray) (y m d h i s : Int) (T : TypeId) : WrtAt (w.alloc (.cells #[.string a, .int .i64 y, .int .i64 m, .int .i64 d, .int .i64 h, .int .i64 i, .int .i64 s] T)) w.heap.size a y m d h i s := by
  unfold WrtAt
  simp [go_sem]
theorem WrtAt.grw {W : World} {b : Nat} {a : ByteArray} {y m d h i s : Int} (k : WrtAt W b a y m d h i s) : (∀ V, (grw W V).cell? ⟨b, 0, none⟩ = some (.string a)) ∧ (∀ V, (grw W V).cell? ⟨b, 1, none⟩ = some (.int .i64 y)) ∧ (∀ V, (grw W V).cell? ⟨b, 2, none⟩ = some (.int .i64 m)) ∧ (∀ V, (grw W V).cell? ⟨b, 3, none⟩ = some (.int .i64 d)) ∧ (∀ V, (grw W V).cell? ⟨b, 4, none⟩ = some (.int .i64 h)) ∧ (∀ V, (grw W V).cell? ⟨b, 5, none⟩ = some (.int .i64 i)) ∧ (∀ V, (grw W V).cell? ⟨b, 6, none⟩ = some (.int .i64 s)) :=
  ⟨grw_some k.1, grw_some k.2.1, grw_some k.2.2.1, grw_some k.2.2.2.1, grw_some k.2.2.2.2.1, grw_some k.2.2.2.2.2.1, grw_some k.2.2.2.2.2.2⟩
set_option maxHeartbeats 2000000 in
theorem timeWrittenWarcDate_no (a : ByteArray) (y m d h i s : Int) (w : World) (hM : MonTab w) (hv : vldB y m d h i s = false) :
    Calls Tryd.prog 52 #[.string a, civ y m d h i s, .func (.func 54) #[] #[]] w fun e w' => e = .returned (.tuple #[.int .i64 0, .bool false]) ∧ Below w.heap.size w w' := by
  have HH := hideB2 (fun o => SecondsOf_no y m d h i s (w.alloc o) (hM.alloc o) hv)
  clear hM hv
  go_enter Tryd.func52, Tryd.ntmps52
  go_wp2_with fail
  refine (HH.out _).mono ?_
  rintro e w1 ⟨rfl, hb1⟩
  have BW := below_then (below_a1 w _) hb1
  clear hb1 HH
  go_wp2
  go_ret2
  exact ⟨rfl, BW⟩
set_option maxHeartbeats 4000000 in
theorem timeWrittenWarcDate_yes (a x : ByteArray) (y m d h i s : Nat) (t : Int) (w : World) (hM : MonTab w) (hv : vld y m d h i s) (ht : t = secs y m d h i s)
    (hf : ∀ W, Below w.heap.size w W → Calls Tryd.prog 54 #[.int .i64 t] W fun e w' => e = .returned (.string x) ∧ Below W.heap.size W w') :
    Calls Tryd.prog 52 #[.string a, civ y m d h i s, .func (.func 54) #[] #[]] w fun e w' => e = .returned (.tuple #[.int .i64 (rdT a x t), .bool (eqB a x)]) ∧ Below w.heap.size w w' := by
  have HH := hideB2 (fun o => SecondsOf_yes y m d h i s (w.alloc o) (hM.alloc o) (vldB_iff.2 hv))
  have HC := hideB2 (fun W hW => CivilOf_yes t y m d h i s W hW hv ht)
  have HF := hideB2 hf
  rw [← ht] at HH
  clear hf hv ht
  go_enter Tryd.func52, Tryd.ntmps52
  go_wp2_with fail
  refine (HH.out _).mono ?_
  rintro e w1 ⟨rfl, hb1⟩
  have BW := below_then (below_a1 w _) hb1
  have gc := (civAt_new w y m d h i s 62).below hb1
  have hM1 := hM.below BW
  clear hb1 HH hM
  go_wp2_with fail
  refine (HC.out _ hM1).mono ?_
  rintro e w2 ⟨rfl, hb2⟩
  have gc2 := gc.below hb2
  have BW2 := below_then BW hb2
  clear gc BW hb2 hM1 HC
  have hz : w.heap.size < w2.heap.size := World.block_lt_of_cell? _ _ gc2.1
  have gc3 := fun o => gc2.below (below_a1 w2 o)
  have c0 := fun o => (gc3 o).1
  have c1 := fun o => (gc3 o).2.1
  have c2 := fun o => (gc3 o).2.2.1
  have c3 := fun o => (gc3 o).2.2.2.1
  have c4 := fun o => (gc3 o).2.2.2.2.1
  have c5 := fun o => (gc3 o).2.2.2.2.2
  clear gc2 gc3
  go_wp2_with fail
  have hA := below_a2 w2 (.cells #[.int .i64 y, .int .i64 m, .int .i64 d, .int .i64 h, .int .i64 i, .int .i64 s] 62) (.cells #[.string a, .int .i64 y, .int .i64 m, .int .i64 d, .int .i64 h, .int .i64 i, .int .i64 s] 76)
  have k1 := civAt_new w2 y m d h i s 62 |>.below (below_a1 _ (.cells #[.string a, .int .i64 y, .int .i64 m, .int .i64 d, .int .i64 h, .int .i64 i, .int .i64 s] 76))
  have k2 := wrtAt_new (w2.alloc (.cells #[.int .i64 y, .int .i64 m, .int .i64 d, .int .i64 h, .int .i64 i, .int .i64 s] 62)) a y m d h i s 76
  rw [show (w2.alloc (.cells #[.int .i64 y, .int .i64 m, .int .i64 d, .int .i64 h, .int .i64 i, .int .i64 s] 62)).heap.size = w2.heap.size + 1 by simp] at k2
  clear c0 c1 c2 c3 c4 c5
  generalize (w2.alloc (.cells #[.int .i64 y, .int .i64 m, .int .i64 d, .int .i64 h, .int .i64 i, .int .i64 s] 62)).alloc (.cells #[.string a, .int .i64 y, .int .i64 m, .int .i64 d, .int .i64 h, .int .i64 i, .int .i64 s] 76) = W at *
  have BW3 := below_then BW2 hA
  obtain ⟨g0, g1, g2, g3, g4, g5⟩ := k1.grw
  obtain ⟨q0, q1, q2, q3, q4, q5, q6⟩ := k2.grw
  clear k1 k2 BW2 hA hz
  cases he : eqB a x
  · have HE : Hid (rdT a x t = 0 ∧ eqB a x = false) := ⟨by unfold rdT; rw [he]; rfl, he⟩
    unfold eqB at he
    refine wp_region_grow ?_ ?_ ?_
    · kernel_rfl
    · kernel_rfl
    · intro hne
      repeat (go_big_quiet_step ((exact grow_call (HF.out _ (below_then BW3 (grw_below W _))))))
      refine wpQuiet_nil ?_
      rintro _ ⟨V, rfl⟩
      have hb := below_then BW3 (grw_below W V)
      clear g0 g1 g2 g3 g4 g5 q0 q1 q2 q3 q4 q5 q6 HF
      go_wp2
      go_ret2
      exact ⟨ret_ib2 HE.out.1 HE.out.2, hb⟩
  · have HE : Hid (rdT a x t = t ∧ eqB a x = true) := ⟨by unfold rdT; rw [he]; rfl, he⟩
    unfold eqB at he
    refine wp_region_grow ?_ ?_ ?_
    · kernel_rfl
    · kernel_rfl
    · intro hne
      repeat (go_big_quiet_step ((exact grow_call (HF.out _ (below_then BW3 (grw_below W _))))))
      refine wpQuiet_nil ?_
      rintro _ ⟨V, rfl⟩
      have hb := below_then BW3 (grw_below W V)
      clear g0 g1 g2 g3 g4 g5 q0 q1 q2 q3 q4 q5 q6 HF
      go_wp2
      go_ret2
      exact ⟨ret_ib2 HE.out.1 HE.out.2, hb⟩
end Go.Proofs.YtffjpidjhcnnmabDoor
