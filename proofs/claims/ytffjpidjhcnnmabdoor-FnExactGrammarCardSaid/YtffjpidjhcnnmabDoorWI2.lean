/-
  The walks over chapter 2: impl.ReadWarcDate, ReadStamp.
-/
import Derived.Test.YtffjpidjhcnnmabDoorWR2
import Derived.Test.YtffjpidjhcnnmabDoorWR5
import Derived.Test.YtffjpidjhcnnmabDoorMY
namespace Go.Proofs.YtffjpidjhcnnmabDoor
set_option linter.unusedVariables false
set_option linter.unusedSimpArgs false
open Go.RowKit
set_option maxHeartbeats 1000000 in
theorem ReadWarcDate_at (a : ByteArray) (Y M D H I S t : Int) (b : Bool) (w : World) (hM : MonTab w)
    (hp : ∀ w, Calls Tryd.prog 53 #[.string a] w fun e w' => e = .returned (civ Y M D H I S) ∧ Below w.heap.size w w')
    (ht : ∀ w, MonTab w → Calls Tryd.prog 52 #[.string a, civ Y M D H I S, .func (.func 54) #[] #[]] w fun e w' => e = .returned (.tuple #[.int .i64 t, .bool b]) ∧ Below w.heap.size w w') :
    Calls Tryd.prog 38 #[.string a] w fun e w' => e = .returned (.tuple #[.int .i64 t, .bool b]) ∧ Below w.heap.size w w' := by
  have HP := hideB2 hp
  have HT := hideB2 ht
  clear hp ht
  go_enter Tryd.func38, Tryd.ntmps38
  go_wp2_with fail
  refine (HP.out _).mono ?_
  rintro e w1 ⟨rfl, hb1⟩
  have hM1 := hM.below hb1
  go_wp2_with fail
  refine (HT.out _ hM1).mono ?_
  rintro e w2 ⟨rfl, hb2⟩
  have hb := below_then hb1 hb2
  clear hb1 hb2 hM hM1 HP HT
  go_wp2
  go_ret2
  exact ⟨rfl, hb⟩
theorem ReadWarcDate_ex (a : ByteArray) : ∃ t b, Res (IsF 9999 warcF a) t b ∧ ∀ w, MonTab w → Calls Tryd.prog 38 #[.string a] w fun e w' => e = .returned (.tuple #[.int .i64 t, .bool b]) ∧ Below w.heap.size w w' := by
  by_cases hsz : a.size = 20
  · have hr := warc_reads a
    have hp := fun w => warcParts_yes a w hsz
    cases hv : vldB (nval (a.extract 0 4)) (nval (a.extract 5 7)) (nval (a.extract 8 10)) (nval ((a.extract 11 19).extract 0 2)) (nval ((a.extract 11 19).extract 3 5)) (nval ((a.extract 11 19).extract 6 8))
    · exact ⟨0, false, .inr ⟨rfl, rfl, hr.none_of hv⟩, fun w hM => ReadWarcDate_at a _ _ _ _ _ _ 0 false w hM hp (fun w hM => timeWrittenWarcDate_no a _ _ _ _ _ _ w hM hv)⟩
    · obtain ⟨y, m, d, h, i, s, e1, e2, e3, e4, e5, e6, v⟩ := nats_of hv
      rw [e1, e2, e3, e4, e5, e6] at hr
      have hp' : ∀ w, Calls Tryd.prog 53 #[.string a] w fun e w' => e = .returned (civ y m d h i s) ∧ Below w.heap.size w w' := by
        intro w
        have := hp w
        rw [e1, e2, e3, e4, e5, e6] at this
        exact this
      have ht := fun w (hM : MonTab w) => timeWrittenWarcDate_yes a (warcB y m d h i s) y m d h i s _ w hM v rfl (fun W hW => WarcDate_yes _ y m d h i s W (hM.below hW) v rfl)
      have hC := fun w hM => ReadWarcDate_at a _ _ _ _ _ _ _ _ w hM hp' ht
      cases he : eqB a (warcB y m d h i s)
      · refine ⟨0, false, .inr ⟨rfl, rfl, hr.none_ne fun hh => ?_⟩, fun w hM => ?_⟩
        · rw [hh] at he
          have := eqB_self (warcB y m d h i s)
          unfold warcF at he
          rw [this] at he
          cases he
        · have h' := hC w hM
          rw [he, show rdT a (warcB y m d h i s) (secs y m d h i s) = 0 by unfold rdT; rw [he]; rfl] at h'
          exact h'
      · refine ⟨secs y m d h i s, true, .inl ⟨rfl, y, m, d, h, i, s, v, by have := (vbd v).2.1; omega, rfl, eqB_iff.1 he⟩, fun w hM => ?_⟩
        have h' := hC w hM
        rw [he, show rdT a (warcB y m d h i s) (secs y m d h i s) = secs y m d h i s by unfold rdT; rw [he]; rfl] at h'
        exact h'
  · have hp := fun w => warcParts_no a w hsz
    exact ⟨0, false, .inr ⟨rfl, rfl, fun t ⟨y, m, d, h, i, s, _, _, _, ea⟩ => hsz (by rw [ea]; exact warc_size _ _ _ _ _ _)⟩, fun w hM => ReadWarcDate_at a _ _ _ _ _ _ 0 false w hM hp (fun w hM => timeWrittenWarcDate_no a 0 0 0 0 0 0 w hM (by decide))⟩
end Go.Proofs.YtffjpidjhcnnmabDoor
