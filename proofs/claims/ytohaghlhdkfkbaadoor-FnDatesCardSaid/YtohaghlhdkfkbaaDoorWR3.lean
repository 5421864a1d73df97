/-
  The walks over chapter 2: the parts of a text, as impl reads them.
-/
import Derived.Test.YtohaghlhdkfkbaaDoorWR2
import Derived.Deep.DeepCutAuto
namespace Go.Proofs.YtohaghlhdkfkbaaDoor
set_option linter.unusedVariables false
set_option linter.unusedSimpArgs false
open Go.RowKit
set_option maxHeartbeats 1000000 in
theorem httpParts_no (s : ByteArray) (w : World) (hs : s.size ≠ 29) :
    Calls Tryd.prog 50 #[.string s] w fun e w' => e = .returned (civ 0 0 0 0 0 0) ∧ Below w.heap.size w w' := by
  have hb : ((s.size : Int) != 29) = true := by rw [bne_iff_ne]; omega
  clear hs
  go_enter Tryd.func50, Tryd.ntmps50
  go_wp2
  exact bodyPost_ret (v := civ 0 0 0 0 0 0) (by simp [results, Tryd.results50, go_sem]) rfl ⟨rfl, below_a1 _ _⟩
set_option maxHeartbeats 8000000 in
theorem httpParts_yes (s : ByteArray) (w : World) (hs : s.size = 29) (hN : NamTab w) :
    Calls Tryd.prog 50 #[.string s] w fun e w' => e = .returned (civ (nval (s.extract 12 16)) (monOf (s.extract 8 11)) (nval (s.extract 5 7)) (nval ((s.extract 17 25).extract 0 2)) (nval ((s.extract 17 25).extract 3 5)) (nval ((s.extract 17 25).extract 6 8))) ∧ Below w.heap.size w w' := by
  have e0 : ((s.extract 12 16)).size ≤ 8 := by rw [ext_size s 12 16 (by omega) (by omega)]; omega
  have e1 : ((s.extract 8 11)).size ≤ 8 := by rw [ext_size s 8 11 (by omega) (by omega)]; omega
  have e2 : ((s.extract 5 7)).size ≤ 8 := by rw [ext_size s 5 7 (by omega) (by omega)]; omega
  have E3 : Hid (((s.extract 17 25)).size = 8) := by show _ = _; rw [ext_size s 17 25 (by omega) (by omega)]
  go_enter Tryd.func50, Tryd.ntmps50
  go_wp2
  go_cut [3] (fun c wc => c = .pointer (some ⟨w.heap.size + 1, 0, none⟩) ∧ wc = ((w.alloc (.cells #[.int .i64 0, .int .i64 0, .int .i64 0, .int .i64 0, .int .i64 0, .int .i64 0] 30)).alloc (.cells #[.int .i64 (nval (s.extract 12 16)), .int .i64 (monOf (s.extract 8 11)), .int .i64 (nval (s.extract 5 7)), .int .i64 0, .int .i64 0, .int .i64 0] 30)).drew)
  case first =>
    go_region_with (first
      | (go_at_call 71; refine (number_any _ _ (by assumption)).mono ?_; rintro e w' ⟨rfl, rfl⟩)
      | (go_at_call 72; refine (monthNamed_any _ _ (by first | exact (hN.al _).dr | exact ((hN.al _).al _).dr)).mono ?_; rintro e w' ⟨rfl, rfl⟩))
    all_goals
      go_wp2_with fail
      go_meet
      exact ⟨rfl, rfl⟩
  case rest =>
    obtain ⟨rfl, rfl⟩ := hcut
    go_wp2
    go_region_with (go_at_call 73; refine (atClock_any _ _ _ _ _ E3.out).mono ?_; rintro e w1 ⟨rfl, o1, o2, rfl⟩)
    go_wp2
    exact bodyPost_ret (v := civ (nval (s.extract 12 16)) (monOf (s.extract 8 11)) (nval (s.extract 5 7)) (nval ((s.extract 17 25).extract 0 2)) (nval ((s.extract 17 25).extract 3 5)) (nval ((s.extract 17 25).extract 6 8))) (by simp [results, Tryd.results50, go_sem]) rfl ⟨rfl, (below_a4 _ _ _ _ _).drew.drew.drew⟩
set_option maxHeartbeats 1000000 in
theorem lineParts_no (s : ByteArray) (w : World) (hs : s.size ≠ 24) :
    Calls Tryd.prog 52 #[.string s] w fun e w' => e = .returned (civ 0 0 0 0 0 0) ∧ Below w.heap.size w w' := by
  have hb : ((s.size : Int) != 24) = true := by rw [bne_iff_ne]; omega
  clear hs
  go_enter Tryd.func52, Tryd.ntmps52
  go_wp2
  exact bodyPost_ret (v := civ 0 0 0 0 0 0) (by simp [results, Tryd.results52, go_sem]) rfl ⟨rfl, below_a1 _ _⟩
set_option maxHeartbeats 8000000 in
theorem lineParts_yes (s : ByteArray) (w : World) (hs : s.size = 24) (hN : NamTab w) :
    Calls Tryd.prog 52 #[.string s] w fun e w' => e = .returned (civ (nval (s.extract 20 24)) (monOf (s.extract 4 7)) (nval (s.extract 8 10)) (nval ((s.extract 11 19).extract 0 2)) (nval ((s.extract 11 19).extract 3 5)) (nval ((s.extract 11 19).extract 6 8))) ∧ Below w.heap.size w w' := by
  have e0 : ((s.extract 20 24)).size ≤ 8 := by rw [ext_size s 20 24 (by omega) (by omega)]; omega
  have e1 : ((s.extract 4 7)).size ≤ 8 := by rw [ext_size s 4 7 (by omega) (by omega)]; omega
  have e2 : ((s.extract 8 10)).size ≤ 8 := by rw [ext_size s 8 10 (by omega) (by omega)]; omega
  have E3 : Hid (((s.extract 11 19)).size = 8) := by show _ = _; rw [ext_size s 11 19 (by omega) (by omega)]
  go_enter Tryd.func52, Tryd.ntmps52
  go_wp2
  go_cut [3] (fun c wc => c = .pointer (some ⟨w.heap.size + 1, 0, none⟩) ∧ wc = ((w.alloc (.cells #[.int .i64 0, .int .i64 0, .int .i64 0, .int .i64 0, .int .i64 0, .int .i64 0] 30)).alloc (.cells #[.int .i64 (nval (s.extract 20 24)), .int .i64 (monOf (s.extract 4 7)), .int .i64 (nval (s.extract 8 10)), .int .i64 0, .int .i64 0, .int .i64 0] 30)).drew)
  case first =>
    go_region_with (first
      | (go_at_call 71; refine (number_any _ _ (by assumption)).mono ?_; rintro e w' ⟨rfl, rfl⟩)
      | (go_at_call 72; refine (monthNamed_any _ _ (by first | exact (hN.al _).dr | exact ((hN.al _).al _).dr)).mono ?_; rintro e w' ⟨rfl, rfl⟩))
    all_goals
      go_wp2_with fail
      go_meet
      exact ⟨rfl, rfl⟩
  case rest =>
    obtain ⟨rfl, rfl⟩ := hcut
    go_wp2
    go_region_with (go_at_call 73; refine (atClock_any _ _ _ _ _ E3.out).mono ?_; rintro e w1 ⟨rfl, o1, o2, rfl⟩)
    go_wp2
    exact bodyPost_ret (v := civ (nval (s.extract 20 24)) (monOf (s.extract 4 7)) (nval (s.extract 8 10)) (nval ((s.extract 11 19).extract 0 2)) (nval ((s.extract 11 19).extract 3 5)) (nval ((s.extract 11 19).extract 6 8))) (by simp [results, Tryd.results52, go_sem]) rfl ⟨rfl, (below_a4 _ _ _ _ _).drew.drew.drew⟩
end Go.Proofs.YtohaghlhdkfkbaaDoor
