/-
  The walks over chapter 2: spec.ReadWarcDate, ReadStamp.
-/
import Derived.Test.YtffjpidjhcnnmabDoorWS1
import Derived.Test.YtffjpidjhcnnmabDoorRd
namespace Go.Proofs.YtffjpidjhcnnmabDoor
set_option linter.unusedVariables false
set_option linter.unusedSimpArgs false
open Go.RowKit
/-- The walk of spec.ReadWarcDate, once it is known what its parts make. -/
theorem sReadWarcDate_at (a x : ByteArray) (t : Int) (w : World) (hsz : a.size = 20) (hxs : x.size ≤ 100)
    (hat : ∀ w, Calls Tryd.prog 27 #[.int .i64 (nS (a.extract 0 4)), .int .i64 (nS (a.extract 5 7)), .int .i64 (nS (a.extract 8 10)), .string (a.extract 11 19)] w fun e w' => e = .returned (.int .i64 t) ∧ Below w.heap.size w w')
    (hwr : ∀ w, Calls Tryd.prog 29 #[.int .i64 t] w fun e w' => e = .returned (.string x) ∧ Below w.heap.size w w') :
    Calls Tryd.prog 15 #[.string a] w fun e w' => e = .returned (.tuple #[.int .i64 (rdT x a t), .bool (eqB x a)]) ∧ Below w.heap.size w w' := by
  have e0 : ((a.extract 0 4)).size ≤ 8 := by rw [ext_size a 0 4 (by omega) (by omega)]; omega
  have e1 : ((a.extract 5 7)).size ≤ 8 := by rw [ext_size a 5 7 (by omega) (by omega)]; omega
  have e2 : ((a.extract 8 10)).size ≤ 8 := by rw [ext_size a 8 10 (by omega) (by omega)]; omega
  have hcs : (a.extract 11 19).size = 8 := by rw [ext_size a 11 19 (by omega) (by omega)]
  have HA := hideB2 hat
  have HW := hideB2 hwr
  clear hat hwr
  have hb : ((a.size : Int) != 20) = false := by rw [bne_eq_false_iff_eq]; omega
  go_enter Tryd.func15, Tryd.ntmps15
  go_wp2
  refine wp_region_grow ?_ ?_ ?_
  · kernel_rfl
  · kernel_rfl
  · intro hne
    repeat (go_big_quiet_step (first
      | (go_at_call 28; exact grow_same (l2num_any _ _ (by assumption)))
      | (go_at_call 27; exact grow_call (HA.out _))))
    refine wpQuiet_nil ?_
    rintro _ ⟨V, rfl⟩
    have hb2 := grw_below w V
    generalize grw w V = W at *
    clear HA
    go_wp2_with fail
    refine (HW.out _).mono ?_
    rintro e w2 ⟨rfl, hb3⟩
    have hb4 := below_then hb2 hb3
    clear hb2 hb3 HW
    cases he : eqB x a
    · have HE : Hid (rdT x a t = 0 ∧ eqB x a = false) := ⟨by unfold rdT; rw [he]; rfl, he⟩
      unfold eqB at he
      go_wp2
      go_ret2
      exact ⟨ret_ib2 HE.out.1 HE.out.2, hb4⟩
    · have HE : Hid (rdT x a t = t ∧ eqB x a = true) := ⟨by unfold rdT; rw [he]; rfl, he⟩
      unfold eqB at he
      go_wp2
      go_ret2
      exact ⟨ret_ib2 HE.out.1 HE.out.2, hb4⟩
set_option maxHeartbeats 1000000 in
theorem sReadWarcDate_size (a : ByteArray) (w : World) (hsz : a.size ≠ 20) :
    Calls Tryd.prog 15 #[.string a] w fun e w' => e = .returned (.tuple #[.int .i64 0, .bool false]) ∧ Below w.heap.size w w' := by
  have hb : ((a.size : Int) != 20) = true := by rw [bne_iff_ne]; omega
  clear hsz
  go_enter Tryd.func15, Tryd.ntmps15
  go_wp2
  go_ret2
  exact ⟨rfl, Below.refl _ _⟩
theorem sReadWarcDate_ex (a : ByteArray) : ∃ t b, Res (IsF 9999 warcF a) t b ∧ ∀ w, Calls Tryd.prog 15 #[.string a] w fun e w' => e = .returned (.tuple #[.int .i64 t, .bool b]) ∧ Below w.heap.size w w' := by
  by_cases hsz : a.size = 20
  · have hr := warc_readsS a
    have e0 : ((a.extract 0 4)).size ≤ 8 := by rw [ext_size a 0 4 (by omega) (by omega)]; omega
    have e1 : ((a.extract 5 7)).size ≤ 8 := by rw [ext_size a 5 7 (by omega) (by omega)]; omega
    have e2 : ((a.extract 8 10)).size ≤ 8 := by rw [ext_size a 8 10 (by omega) (by omega)]; omega
    have hcs : (a.extract 11 19).size = 8 := by rw [ext_size a 11 19 (by omega) (by omega)]
    cases hv : vldB (nS (a.extract 0 4)) (nS (a.extract 5 7)) (nS (a.extract 8 10)) (nS ((a.extract 11 19).extract 0 2)) (nS ((a.extract 11 19).extract 3 5)) (nS ((a.extract 11 19).extract 6 8))
    · have hC := fun w => sReadWarcDate_at a ⟨#[]⟩ (-1) w hsz (by decide) (fun w => l2at_no _ _ _ _ w hcs (by exact hv)) (fun w => sWarcDate_no (-1) w (by omega))
      have hne : eqB ⟨#[]⟩ a = false := Bool.eq_false_iff.2 fun hh => by
        have := congrArg ByteArray.size (eqB_iff.1 hh)
        rw [hsz] at this
        cases this
      refine ⟨0, false, .inr ⟨rfl, rfl, hr.none_of hv⟩, fun w => ?_⟩
      have h' := hC w
      rw [hne, show rdT ⟨#[]⟩ a (-1) = 0 by unfold rdT; rw [hne]; rfl] at h'
      exact h'
    · obtain ⟨y, m, d, h, i, s, e1, e2, e3, e4, e5, e6, v⟩ := nats_of hv
      have hat : ∀ w, Calls Tryd.prog 27 #[.int .i64 (nS (a.extract 0 4)), .int .i64 (nS (a.extract 5 7)), .int .i64 (nS (a.extract 8 10)), .string (a.extract 11 19)] w fun e w' => e = .returned (.int .i64 (secs y m d h i s)) ∧ Below w.heap.size w w' := by
        intro w
        rw [e1, e2, e3]
        exact l2at_yes y m d h i s _ w hcs (by exact e4) (by exact e5) (by exact e6) (vldB_iff.2 v)
      have hC := fun w => sReadWarcDate_at a (warcB y m d h i s) (secs y m d h i s) w hsz (by rw [warc_size]; omega) hat (fun w => sWarcDate_yes _ y m d h i s w v rfl)
      rw [e1, e2, e3, e4, e5, e6] at hr
      cases he : eqB (warcB y m d h i s) a
      · refine ⟨0, false, .inr ⟨rfl, rfl, hr.none_ne fun hh => ?_⟩, fun w => ?_⟩
        · rw [hh] at he
          have := eqB_self (warcB y m d h i s)
          unfold warcF at he
          rw [this] at he
          cases he
        · have h' := hC w
          rw [he, show rdT (warcB y m d h i s) a (secs y m d h i s) = 0 by unfold rdT; rw [he]; rfl] at h'
          exact h'
      · refine ⟨secs y m d h i s, true, .inl ⟨rfl, y, m, d, h, i, s, v, by have := (vbd v).2.1; omega, rfl, (eqB_iff.1 he).symm⟩, fun w => ?_⟩
        have h' := hC w
        rw [he, show rdT (warcB y m d h i s) a (secs y m d h i s) = secs y m d h i s by unfold rdT; rw [he]; rfl] at h'
        exact h'
  · exact ⟨0, false, .inr ⟨rfl, rfl, fun t ⟨y, m, d, h, i, s, _, _, _, ea⟩ => hsz (by rw [ea]; exact warc_size _ _ _ _ _ _)⟩, fun w => sReadWarcDate_size a w hsz⟩
end Go.Proofs.YtffjpidjhcnnmabDoor
