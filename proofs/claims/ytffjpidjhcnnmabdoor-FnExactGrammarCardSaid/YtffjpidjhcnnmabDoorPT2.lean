/-
  Plain texts; both sides.
-/
import Derived.Test.YtffjpidjhcnnmabDoorPT
import Derived.Test.YtffjpidjhcnnmabDoorW7
namespace Go.Proofs.YtffjpidjhcnnmabDoor
set_option linter.unusedVariables false
set_option linter.unusedSimpArgs false
open Go.RowKit
set_option maxHeartbeats 1000000 in
theorem plainText_any (s : ByteArray) (w : World) (hs : s.size ≤ maxLen) :
    Calls Tryd.prog 51 #[.string s] w fun e w' => e = .returned (.bool (plnB s)) ∧ w' = w := by
  unfold maxLen at hs
  go_enter Tryd.func51, Tryd.ntmps51
  go_wp2
  go_loop [6] (fun i => ∃ k : Nat, k ≤ s.size ∧ i = .int .i64 k ∧ ∀ j, j < k → plain8 (at8 s j) = true) (fun i => s.size - (intOf i).toNat)
  case atStart => exact ⟨0, Nat.zero_le _, rfl, fun j hj => by omega⟩
  case round =>
    obtain ⟨k, hk, rfl, hall⟩ := hrel
    have Hall : Hid (∀ j, j < k → plain8 (at8 s j) = true) := hall
    clear hall
    by_cases hlt : k < s.size
    · cases hg0 : plain8 (at8 s k)
      · have hg : plainP (s[k].toNat : Int) = false := by rw [at8_eq s k hlt]; exact hg0
        have hfin : Hid (plnB s = false) := plnB_no hlt hg0
        clear hg0
        go_wp2_with (go_at_call 64; refine (plainByte_any _ _).mono ?_; rintro e w' ⟨rfl, rfl⟩)
        go_ret
        exact ⟨ret_bool hfin.out, rfl⟩
      · have hg : plainP (s[k].toNat : Int) = true := by rw [at8_eq s k hlt]; exact hg0
        have Hg : Hid (plain8 (at8 s k) = true) := hg0
        clear hg0
        go_wp2_with (go_at_call 64; refine (plainByte_any _ _).mono ?_; rintro e w' ⟨rfl, rfl⟩)
        go_round
        case rel => exact ⟨k + 1, by omega, by go_num, all_succ Hall.out Hg.out⟩
        case measure => simp [intOf]; omega
    · have hfin : Hid (plnB s = true) := plnB_yes (fun j hj => Hall.out j (by omega))
      go_wp2
      go_ret
      exact ⟨ret_bool hfin.out, rfl⟩
set_option maxHeartbeats 1000000 in
theorem l5plain_any (s : ByteArray) (w : World) (hs : s.size ≤ maxLen) :
    Calls Tryd.prog 13 #[.string s] w fun e w' => e = .returned (.bool (plnB s)) ∧ w' = w := by
  unfold maxLen at hs
  go_enter Tryd.func13, Tryd.ntmps13
  go_wp2
  go_loop [3] (fun i => ∃ k : Nat, k ≤ s.size ∧ i = .int .i64 k ∧ ∀ j, j < k → plain8 (at8 s j) = true) (fun i => s.size - (intOf i).toNat)
  case atStart => exact ⟨0, Nat.zero_le _, rfl, fun j hj => by omega⟩
  case round =>
    obtain ⟨k, hk, rfl, hall⟩ := hrel
    have Hall : Hid (∀ j, j < k → plain8 (at8 s j) = true) := hall
    clear hall
    by_cases hlt : k < s.size
    · cases hg0 : plain8 (at8 s k)
      · have hg : plainP (s[k].toNat : Int) = false := by rw [at8_eq s k hlt]; exact hg0
        have hfin : Hid (plnB s = false) := plnB_no hlt hg0
        clear hg0
        go_wp2_with (go_at_call 25; refine (l1plain_any _ _).mono ?_; rintro e w' ⟨rfl, rfl⟩)
        go_ret
        exact ⟨ret_bool hfin.out, rfl⟩
      · have hg : plainP (s[k].toNat : Int) = true := by rw [at8_eq s k hlt]; exact hg0
        have Hg : Hid (plain8 (at8 s k) = true) := hg0
        clear hg0
        go_wp2_with (go_at_call 25; refine (l1plain_any _ _).mono ?_; rintro e w' ⟨rfl, rfl⟩)
        go_round
        case rel => exact ⟨k + 1, by omega, by go_num, all_succ Hall.out Hg.out⟩
        case measure => simp [intOf]; omega
    · have hfin : Hid (plnB s = true) := plnB_yes (fun j hj => Hall.out j (by omega))
      go_wp2
      go_ret
      exact ⟨ret_bool hfin.out, rfl⟩
end Go.Proofs.YtffjpidjhcnnmabDoor
