/-
  The walks over chapter 1: impl.TakeN.
-/
import Derived.Test.YtffjpidjhcnnmabDoorW11
namespace Go.Proofs.YtffjpidjhcnnmabDoor
set_option linter.unusedVariables false
set_option linter.unusedSimpArgs false
open Go.RowKit

set_option maxHeartbeats 1000000 in
theorem TakeN_any (s : ByteArray) (n m : Int) (w : World) (hs : s.size ≤ maxLen) (hm : m ≤ 9223372036854775807) :
    Calls Tryd.prog 21 #[.agg #[.string s, .int .i64 n], .int .i64 m] w fun e w' => e = .returned (tnV s n m) ∧ Below w.heap.size w w' := by
  have hs' := hs
  unfold maxLen at hs'
  cases hc : curOk s n
  · rw [tnV_no (by simp [tnOk, hc])]
    go_enter Tryd.func21, Tryd.ntmps21
    go_wp2_with (go_at_call 32; refine (inside_any s _ _).mono ?_; rintro e w' ⟨rfl, rfl⟩)
    refine bodyPost_ret (v := .tuple #[.string ⟨#[]⟩, curZ, .bool false]) (by simp [results, Tryd.results21, go_sem, curZ]) rfl ⟨rfl, ?_⟩
    exact (by repeat (first | exact Below.refl _ _ | refine Below.drew ?_ | refine Below.alloc ?_ (by simp <;> omega) _ | refine Below.setCell ?_ (by simp <;> omega) _))
  · obtain ⟨h0, h1⟩ := curOk_iff.1 hc
    obtain ⟨k, rfl⟩ := Int.eq_ofNat_of_zero_le h0
    have hk : k ≤ s.size := by omega
    by_cases hm0 : m < 0
    · rw [tnV_no (by simp [tnOk]; omega)]
      go_enter Tryd.func21, Tryd.ntmps21
      go_wp2_with (first | (go_at_call 32; refine (inside_any s _ _).mono ?_; rintro e w' ⟨rfl, rfl⟩) | (go_at_call 7; refine (left_any s k _ hs hk).mono ?_; rintro e w' ⟨rfl, rfl⟩))
      refine bodyPost_ret (v := .tuple #[.string ⟨#[]⟩, curZ, .bool false]) (by simp [results, Tryd.results21, go_sem, curZ]) rfl ⟨rfl, ?_⟩
      exact (by repeat (first | exact Below.refl _ _ | refine Below.drew ?_ | refine Below.alloc ?_ (by simp <;> omega) _ | refine Below.setCell ?_ (by simp <;> omega) _))
    · obtain ⟨j, rfl⟩ := Int.eq_ofNat_of_zero_le (show 0 ≤ m by omega)
      by_cases hbig : (s.size : Int) - (k : Int) < (j : Int)
      · rw [tnV_no (by simp [tnOk]; omega)]
        go_enter Tryd.func21, Tryd.ntmps21
        go_wp2_with (first | (go_at_call 32; refine (inside_any s _ _).mono ?_; rintro e w' ⟨rfl, rfl⟩) | (go_at_call 7; refine (left_any s k _ hs hk).mono ?_; rintro e w' ⟨rfl, rfl⟩))
        refine bodyPost_ret (v := .tuple #[.string ⟨#[]⟩, curZ, .bool false]) (by simp [results, Tryd.results21, go_sem, curZ]) rfl ⟨rfl, ?_⟩
        exact (by repeat (first | exact Below.refl _ _ | refine Below.drew ?_ | refine Below.alloc ?_ (by simp <;> omega) _ | refine Below.setCell ?_ (by simp <;> omega) _))
      · rw [tnV_yes (by omega)]
        have hkj2 : k + j ≤ s.size := by omega
        go_enter Tryd.func21, Tryd.ntmps21
        go_wp2_with (first | (go_at_call 32; refine (inside_any s _ _).mono ?_; rintro e w' ⟨rfl, rfl⟩) | (go_at_call 7; refine (left_any s k _ hs hk).mono ?_; rintro e w' ⟨rfl, rfl⟩))
        go_region_with (first | (go_at_call 36; refine (part_any s k j _ hs hkj2).mono ?_; rintro e w' ⟨rfl, rfl⟩) | (go_at_call 34; refine (behind_any s k j _ hs hkj2).mono ?_; rintro e w2 ⟨rfl, hb2⟩; obtain ⟨hcc, hff⟩ := bcell hb2; have hzz := hb2.size))
        all_goals go_wp2
        all_goals
          refine bodyPost_ret (v := .tuple #[.string (s.extract k (k + j)), .agg #[.string s, .int .i64 ((k : Int) + j)], .bool true]) (by simp [results, Tryd.results21, go_sem, hcc]) rfl ⟨rfl, ?_⟩
        all_goals exact (by repeat (first | exact Below.refl _ _ | refine Below.drew ?_ | refine Below.alloc ?_ (by simp <;> omega) _ | refine Below.setCell ?_ (by simp <;> omega) _ | refine Below.trans ?_ (Below.mono hb2 (by simp <;> omega))))
end Go.Proofs.YtffjpidjhcnnmabDoor
