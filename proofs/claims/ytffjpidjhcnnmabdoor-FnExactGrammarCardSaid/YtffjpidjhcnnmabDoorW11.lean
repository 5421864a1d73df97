/-
  The walks over chapter 1: TakeN.
-/
import Derived.Test.YtffjpidjhcnnmabDoorW10
import Derived.Deep.RegionWith
namespace Go.Proofs.YtffjpidjhcnnmabDoor
set_option linter.unusedVariables false
set_option linter.unusedSimpArgs false
open Go.RowKit

/-- What TakeN answers. -/
def tnOk (s : ByteArray) (n m : Int) : Bool := curOk s n && decide (0 ≤ m) && decide (m ≤ (s.size : Int) - n)
def tnV (s : ByteArray) (n m : Int) : Value := if tnOk s n m = true then .tuple #[.string (s.extract n.toNat (n.toNat + m.toNat)), .agg #[.string s, .int .i64 (n + m)], .bool true] else .tuple #[.string ⟨#[]⟩, curZ, .bool false]
theorem tnV_no {s : ByteArray} {n m : Int} (h : tnOk s n m = false) : tnV s n m = .tuple #[.string ⟨#[]⟩, curZ, .bool false] := by simp [tnV, h]
theorem tnV_yes {s : ByteArray} {k m : Nat} (h : k + m ≤ s.size) : tnV s (k : Int) (m : Int) = .tuple #[.string (s.extract k (k + m)), .agg #[.string s, .int .i64 ((k : Int) + m)], .bool true] := by
  have : tnOk s (k : Int) (m : Int) = true := by
    unfold tnOk
    simp [curOk]
    omega
  unfold tnV
  rw [if_pos this, Int.toNat_natCast, Int.toNat_natCast]

set_option maxHeartbeats 1000000 in
theorem sTakeN_any (s : ByteArray) (n m : Int) (w : World) (hs : s.size ≤ maxLen) (hm : m ≤ 9223372036854775807) :
    Calls Tryd.prog 17 #[.agg #[.string s, .int .i64 n], .int .i64 m] w fun e w' => e = .returned (tnV s n m) ∧ Below w.heap.size w w' := by
  have hs' := hs
  unfold maxLen at hs'
  cases hc : curOk s n
  · rw [tnV_no (by simp [tnOk, hc])]
    go_enter Tryd.func17, Tryd.ntmps17
    go_wp2_with (go_at_call 22; refine (sCurOk_any s n _).mono ?_; rintro e w' ⟨rfl, rfl⟩)
    refine bodyPost_ret (v := .tuple #[.string ⟨#[]⟩, curZ, .bool false]) (by simp [results, Tryd.results17, go_sem, curZ]) rfl ⟨rfl, ?_⟩
    exact (by repeat (first | exact Below.refl _ _ | refine Below.drew ?_ | refine Below.alloc ?_ (by simp <;> omega) _ | refine Below.setCell ?_ (by simp <;> omega) _))
  · obtain ⟨h0, h1⟩ := curOk_iff.1 hc
    obtain ⟨k, rfl⟩ := Int.eq_ofNat_of_zero_le h0
    have hk : k ≤ s.size := by omega
    by_cases hm0 : m < 0
    · rw [tnV_no (by simp [tnOk]; omega)]
      go_enter Tryd.func17, Tryd.ntmps17
      go_wp2_with (go_at_call 22; refine (sCurOk_any s k _).mono ?_; rintro e w' ⟨rfl, rfl⟩)
      refine bodyPost_ret (v := .tuple #[.string ⟨#[]⟩, curZ, .bool false]) (by simp [results, Tryd.results17, go_sem, curZ]) rfl ⟨rfl, ?_⟩
      exact (by repeat (first | exact Below.refl _ _ | refine Below.drew ?_ | refine Below.alloc ?_ (by simp <;> omega) _ | refine Below.setCell ?_ (by simp <;> omega) _))
    · obtain ⟨j, rfl⟩ := Int.eq_ofNat_of_zero_le (show 0 ≤ m by omega)
      by_cases hbig : (s.size : Int) - (k : Int) < (j : Int)
      · rw [tnV_no (by simp [tnOk]; omega)]
        go_enter Tryd.func17, Tryd.ntmps17
        go_wp2_with (go_at_call 22; refine (sCurOk_any s k _).mono ?_; rintro e w' ⟨rfl, rfl⟩)
        refine bodyPost_ret (v := .tuple #[.string ⟨#[]⟩, curZ, .bool false]) (by simp [results, Tryd.results17, go_sem, curZ]) rfl ⟨rfl, ?_⟩
        exact (by repeat (first | exact Below.refl _ _ | refine Below.drew ?_ | refine Below.alloc ?_ (by simp <;> omega) _ | refine Below.setCell ?_ (by simp <;> omega) _))
      · rw [tnV_yes (by omega)]
        have e1 : IntKind.i64.wrap ((k : Int) + (j : Int)) = (k : Int) + (j : Int) := by rw [IntKind.wrap_i64]; omega
        have hkj : k ≤ k + j := by omega
        have hkj2 : k + j ≤ s.size := by omega
        go_enter Tryd.func17, Tryd.ntmps17
        go_wp2_with (go_at_call 22; refine (sCurOk_any s k _).mono ?_; rintro e w' ⟨rfl, rfl⟩)
        go_region
        go_wp2
        refine bodyPost_ret (v := .tuple #[.string (s.extract k (k + j)), .agg #[.string s, .int .i64 ((k : Int) + j)], .bool true]) (by simp [results, Tryd.results17, go_sem]) rfl ⟨rfl, ?_⟩
        exact (by repeat (first | exact Below.refl _ _ | refine Below.drew ?_ | refine Below.alloc ?_ (by simp <;> omega) _ | refine Below.setCell ?_ (by simp <;> omega) _))
end Go.Proofs.YtffjpidjhcnnmabDoor
