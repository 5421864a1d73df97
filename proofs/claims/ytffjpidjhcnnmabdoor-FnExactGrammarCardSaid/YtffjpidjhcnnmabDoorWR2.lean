/-
  The walks over chapter 2: the parts of a text, as impl reads them.
-/
import Derived.Test.YtffjpidjhcnnmabDoorWR1
import Derived.Deep.DeepCutAuto
namespace Go.Proofs.YtffjpidjhcnnmabDoor
set_option linter.unusedVariables false
set_option linter.unusedSimpArgs false
open Go.RowKit
theorem below_a4 (w : World) (o o' o'' p : Obj) : Below w.heap.size w ((((w.alloc o).alloc o').alloc o'').alloc p) := (below_a3 w o o' o'').alloc (by simp; omega) p
set_option maxHeartbeats 1000000 in
theorem warcParts_no (s : ByteArray) (w : World) (hs : s.size ≠ 20) :
    Calls Tryd.prog 53 #[.string s] w fun e w' => e = .returned (civ 0 0 0 0 0 0) ∧ Below w.heap.size w w' := by
  have hb : ((s.size : Int) != 20) = true := by rw [bne_iff_ne]; omega
  clear hs
  go_enter Tryd.func53, Tryd.ntmps53
  go_wp2
  exact bodyPost_ret (v := civ 0 0 0 0 0 0) (by simp [results, Tryd.results53, go_sem]) rfl ⟨rfl, below_a1 _ _⟩
set_option maxHeartbeats 8000000 in
theorem warcParts_yes (s : ByteArray) (w : World) (hs : s.size = 20) :
    Calls Tryd.prog 53 #[.string s] w fun e w' => e = .returned (civ (nval (s.extract 0 4)) (nval (s.extract 5 7)) (nval (s.extract 8 10)) (nval ((s.extract 11 19).extract 0 2)) (nval ((s.extract 11 19).extract 3 5)) (nval ((s.extract 11 19).extract 6 8))) ∧ Below w.heap.size w w' := by
  have e0 : ((s.extract 0 4)).size ≤ 8 := by rw [ext_size s 0 4 (by omega) (by omega)]; omega
  have e1 : ((s.extract 5 7)).size ≤ 8 := by rw [ext_size s 5 7 (by omega) (by omega)]; omega
  have e2 : ((s.extract 8 10)).size ≤ 8 := by rw [ext_size s 8 10 (by omega) (by omega)]; omega
  have E3 : Hid (((s.extract 11 19)).size = 8) := by show _ = _; rw [ext_size s 11 19 (by omega) (by omega)]
  go_enter Tryd.func53, Tryd.ntmps53
  go_wp2
  go_cut [3] (fun c wc => c = .pointer (some ⟨w.heap.size + 1, 0, none⟩) ∧ wc = ((w.alloc (.cells #[.int .i64 0, .int .i64 0, .int .i64 0, .int .i64 0, .int .i64 0, .int .i64 0] 62)).alloc (.cells #[.int .i64 (nval (s.extract 0 4)), .int .i64 (nval (s.extract 5 7)), .int .i64 (nval (s.extract 8 10)), .int .i64 0, .int .i64 0, .int .i64 0] 62)).drew)
  case first =>
    go_region_with (first
      | (go_at_call 67; refine (number_any _ _ (by assumption)).mono ?_; rintro e w' ⟨rfl, rfl⟩))
    all_goals
      go_wp2_with fail
      go_meet
      exact ⟨rfl, rfl⟩
  case rest =>
    obtain ⟨rfl, rfl⟩ := hcut
    go_wp2
    go_region_with (go_at_call 68; refine (atClock_any _ _ _ _ _ E3.out).mono ?_; rintro e w1 ⟨rfl, o1, o2, rfl⟩)
    go_wp2
    exact bodyPost_ret (v := civ (nval (s.extract 0 4)) (nval (s.extract 5 7)) (nval (s.extract 8 10)) (nval ((s.extract 11 19).extract 0 2)) (nval ((s.extract 11 19).extract 3 5)) (nval ((s.extract 11 19).extract 6 8))) (by simp [results, Tryd.results53, go_sem]) rfl ⟨rfl, (below_a4 _ _ _ _ _).drew.drew.drew⟩
end Go.Proofs.YtffjpidjhcnnmabDoor
