/-
  The walks over chapter 2: the parts of a text, as impl reads them.
-/
import Derived.Test.YtohaghlhdkfkbaaDoorWR2
import Derived.Deep.DeepCutAuto
namespace Go.Proofs.YtohaghlhdkfkbaaDoor
set_option linter.unusedVariables false
set_option linter.unusedSimpArgs false
open Go.RowKit
set_option maxHeartbeats 1000000 in
theorem longParts_no (s : ByteArray) (w : World) (hs : s.size < 24) :
    Calls Tryd.prog 51 #[.string s] w fun e w' => e = .returned (civ 0 0 0 0 0 0) ∧ Below w.heap.size w w' := by
  have hb : ((s.size : Int) - 24) < 0 := by omega
  go_enter Tryd.func51, Tryd.ntmps51
  go_wp2
  exact bodyPost_ret (v := civ 0 0 0 0 0 0) (by simp [results, Tryd.results51, go_sem]) rfl ⟨rfl, below_a1 _ _⟩
set_option maxHeartbeats 8000000 in
theorem longParts_yes (s : ByteArray) (q : Nat) (w : World) (hq : s.size = q + 24) (hm : s.size ≤ maxLen) (hN : NamTab w) :
    Calls Tryd.prog 51 #[.string s] w fun e w' => e = .returned (civ (yOf (nval ((s.extract q s.size).extract 9 11))) (monOf ((s.extract q s.size).extract 5 8)) (nval ((s.extract q s.size).extract 2 4)) (nval (((s.extract q s.size).extract 12 20).extract 0 2)) (nval (((s.extract q s.size).extract 12 20).extract 3 5)) (nval (((s.extract q s.size).extract 12 20).extract 6 8))) ∧ Below w.heap.size w w' := by
  unfold maxLen at hm
  have hx : (s.extract q s.size).size = 24 := by rw [ext_size s q s.size (by omega) (by omega)]; omega
  have hsub : (s.size : Int) - 24 = (q : Int) := by omega
  have h1 : (q : Int) ≤ (s.size : Int) := by omega
  have h2 : (s.size : Int) ≤ 9223372036854775807 := by omega
  have h3 : ¬ (q : Int) < 0 := by omega
  have HX := hideB2 hx
  clear hx hq
  go_enter Tryd.func51, Tryd.ntmps51
  go_wp2

  generalize hr : s.extract q s.size = r at HX ⊢
  have HR := hideB2 hr
  clear hr
  have hx := HX.out
  clear hsub h1 h2 hm HX
  have HL := hideB2 (nval_2 (r.extract 9 11) (by rw [ext_size _ 9 11 (by omega) (by omega)]; omega))
  have e0 : (r.extract 9 11).size ≤ 8 := by rw [ext_size r 9 11 (by omega) (by omega)]; omega
  have e1 : (r.extract 5 8).size ≤ 8 := by rw [ext_size r 5 8 (by omega) (by omega)]; omega
  have e2 : (r.extract 2 4).size ≤ 8 := by rw [ext_size r 2 4 (by omega) (by omega)]; omega
  have E3 : Hid ((r.extract 12 20).size = 8) := by show _ = _; rw [ext_size r 12 20 (by omega) (by omega)]
  go_cut [4] (fun c wc => c = .pointer (some ⟨w.heap.size + 1, 0, none⟩) ∧ wc = ((w.alloc (.cells #[.int .i64 0, .int .i64 0, .int .i64 0, .int .i64 0, .int .i64 0, .int .i64 0] 30)).alloc (.cells #[.int .i64 (yOf (nval (r.extract 9 11))), .int .i64 (monOf (r.extract 5 8)), .int .i64 (nval (r.extract 2 4)), .int .i64 0, .int .i64 0, .int .i64 0] 30)).drew)
  case first =>
    go_region_with (first
      | (go_at_call 71; refine (number_any _ _ (by assumption)).mono ?_; rintro e w' ⟨rfl, rfl⟩)
      | (go_at_call 72; refine (monthNamed_any _ _ (by first | exact (hN.al _).dr | exact ((hN.al _).al _).dr)).mono ?_; rintro e w' ⟨rfl, rfl⟩)
      | (go_at_call 74; refine (longYear_any _ _ HL.out).mono ?_; rintro e w' ⟨rfl, rfl⟩))
    all_goals
      go_wp2_with fail
      go_meet
      exact ⟨rfl, rfl⟩
  case rest =>
    obtain ⟨rfl, rfl⟩ := hcut
    go_wp2
    go_region_with (go_at_call 73; refine (atClock_any _ _ _ _ _ E3.out).mono ?_; rintro e w1 ⟨rfl, o1, o2, rfl⟩)
    go_wp2
    exact bodyPost_ret (v := civ (yOf (nval (r.extract 9 11))) (monOf (r.extract 5 8)) (nval (r.extract 2 4)) (nval ((r.extract 12 20).extract 0 2)) (nval ((r.extract 12 20).extract 3 5)) (nval ((r.extract 12 20).extract 6 8))) (by simp [results, Tryd.results51, go_sem]) rfl ⟨by rw [HR.out], (below_a4 _ _ _ _ _).drew.drew.drew⟩
end Go.Proofs.YtohaghlhdkfkbaaDoor
