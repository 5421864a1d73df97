/-
  The walks over chapter 1: gaps, digits, Trim.
-/
import Derived.Test.YtffjpidjhcnnmabDoorW1
import Derived.Test.YtffjpidjhcnnmabDoorM2
namespace Go.Proofs.YtffjpidjhcnnmabDoor
set_option linter.unusedVariables false
set_option linter.unusedSimpArgs false
open Go.RowKit

theorem gapP_yes1 {n : Int} (h : (n == 32) = true) : gapP n = true := by simp [gapP, h]
theorem gapP_no1 {n : Int} (h : (n == 32) = false) : gapP n = (n == 9) := by simp [gapP, h]
theorem digP_no1 {n : Int} (h : ¬ 48 ≤ n) : digP n = false := by simp [digP, h]
theorem digP_yes1 {n : Int} (h : 48 ≤ n) : digP n = decide (n ≤ 57) := by simp [digP, h]

set_option maxHeartbeats 400000 in
theorem gapByte_any (n : Int) (w : World) :
    Calls Tryd.prog 63 #[.int .u8 n] w fun e w' => e = .returned (.bool (gapP n)) ∧ w' = w := by
  cases h : (n == 32)
  · rw [gapP_no1 h]
    go_enter Tryd.func63, Tryd.ntmps63
    go_wp2
    go_ret
    exact ⟨rfl, rfl⟩
  · rw [gapP_yes1 h]
    go_enter Tryd.func63, Tryd.ntmps63
    go_wp2
    go_ret
    exact ⟨rfl, rfl⟩
set_option maxHeartbeats 400000 in
theorem l1white_any (n : Int) (w : World) :
    Calls Tryd.prog 24 #[.int .u8 n] w fun e w' => e = .returned (.bool (gapP n)) ∧ w' = w := by
  cases h : (n == 32)
  · rw [gapP_no1 h]
    go_enter Tryd.func24, Tryd.ntmps24
    go_wp2
    go_ret
    exact ⟨rfl, rfl⟩
  · rw [gapP_yes1 h]
    go_enter Tryd.func24, Tryd.ntmps24
    go_wp2
    go_ret
    exact ⟨rfl, rfl⟩
set_option maxHeartbeats 400000 in
theorem digitByte_any (n : Int) (w : World) :
    Calls Tryd.prog 55 #[.int .u8 n] w fun e w' => e = .returned (.bool (digP n)) ∧ w' = w := by
  by_cases h : 48 ≤ n
  · rw [digP_yes1 h]
    go_enter Tryd.func55, Tryd.ntmps55
    go_wp2
    go_ret
    exact ⟨rfl, rfl⟩
  · rw [digP_no1 h]
    go_enter Tryd.func55, Tryd.ntmps55
    go_wp2
    go_ret
    exact ⟨rfl, rfl⟩
set_option maxHeartbeats 400000 in
theorem l1digit_any (n : Int) (w : World) :
    Calls Tryd.prog 30 #[.int .u8 n] w fun e w' => e = .returned (.bool (digP n)) ∧ w' = w := by
  by_cases h : 48 ≤ n
  · rw [digP_yes1 h]
    go_enter Tryd.func30, Tryd.ntmps30
    go_wp2
    go_ret
    exact ⟨rfl, rfl⟩
  · rw [digP_no1 h]
    go_enter Tryd.func30, Tryd.ntmps30
    go_wp2
    go_ret
    exact ⟨rfl, rfl⟩
set_option maxHeartbeats 1000000 in
theorem Trim_any (s : ByteArray) (w : World) (hs : s.size ≤ maxLen) :
    Calls Tryd.prog 50 #[.string s] w fun e w' => e = .returned (.string (trimB s)) ∧ w' = w := by
  unfold maxLen at hs
  go_enter Tryd.func50, Tryd.ntmps50
  go_wp2
  go_loop [3] (fun i => ∃ k : Nat, k ≤ s.size ∧ i = .int .i64 k ∧ ∀ j, j < k → gap8 (at8 s j) = true) (fun i => s.size - (intOf i).toNat)
  case atStart => exact ⟨0, Nat.zero_le _, rfl, fun j hj => by omega⟩
  case round =>
    obtain ⟨k, hk, rfl, hall⟩ := hrel
    have Hall : Hid (∀ j, j < k → gap8 (at8 s j) = true) := hall
    clear hall
    by_cases hc : k < s.size ∧ gap8 (at8 s k) = true
    · obtain ⟨hlt, hg0⟩ := hc
      have hg : gapP (s[k].toNat : Int) = true := by rw [at8_eq s k hlt]; exact hg0
      have Hg : Hid (gap8 (at8 s k) = true) := hg0
      clear hg0
      go_wp2_with (go_at_call 63; refine (gapByte_any _ _).mono ?_; rintro e w' ⟨rfl, rfl⟩)
      go_round
      case rel => exact ⟨k + 1, by omega, by go_num, all_succ Hall.out Hg.out⟩
      case measure => simp [intOf]; omega
    · have HE : Hid (k = s.size ∨ gap8 (at8 s k) = false) := by
        rcases Nat.lt_or_ge k s.size with h | h
        · right; exact Bool.eq_false_iff.2 (fun hh => hc ⟨h, hh⟩)
        · left; omega
      have hway : (∃ h : k < s.size, gapP (s[k].toNat : Int) = false) ∨ ¬ k < s.size := by
        rcases Nat.lt_or_ge k s.size with h | h
        · left; refine ⟨h, ?_⟩; rw [at8_eq s k h]; exact Bool.eq_false_iff.2 (fun hh => hc ⟨h, hh⟩)
        · right; omega
      clear hc
      rcases hway with ⟨hlt, hg⟩ | hlt
      all_goals
        go_wp2_with (go_at_call 63; refine (gapByte_any _ _).mono ?_; rintro e w' ⟨rfl, rfl⟩)
        try clear hg
        try clear hlt
        go_loop [4] (fun i => ∃ t : Nat, k ≤ t ∧ t ≤ s.size ∧ i = .int .i64 t ∧ ∀ j, t ≤ j → j < s.size → gap8 (at8 s j) = true) (fun i => (intOf i).toNat)
        case atStart => exact ⟨s.size, hk, Nat.le_refl _, rfl, fun j h1 h2 => by omega⟩
        case round =>
          obtain ⟨t, hkt, ht, rfl, hz⟩ := hrel
          have Hz : Hid (∀ j, t ≤ j → j < s.size → gap8 (at8 s j) = true) := hz
          clear hz
          by_cases hc : k < t ∧ gap8 (at8 s (t - 1)) = true
          · obtain ⟨hlt2, hg0⟩ := hc
            obtain ⟨u, rfl⟩ : ∃ u, t = u + 1 := ⟨t - 1, by omega⟩
            have hu : u < s.size := by omega
            have hg2 : gapP (s[u].toNat : Int) = true := by rw [at8_eq s u hu]; exact hg0
            have Hg : Hid (gap8 (at8 s u) = true) := hg0
            clear hg0
            go_wp2_with (go_at_call 63; refine (gapByte_any _ _).mono ?_; rintro e w' ⟨rfl, rfl⟩)
            go_round
            case rel => exact ⟨u, by omega, by omega, by go_num, all_pred Hz.out Hg.out⟩
            case measure => simp [intOf] <;> omega
          · have HF : Hid (t = k ∨ gap8 (at8 s (t - 1)) = false) := by
              rcases Nat.lt_or_ge k t with h | h
              · right; exact Bool.eq_false_iff.2 (fun hh => hc ⟨h, hh⟩)
              · left; omega
            have hfin : Hid (s.extract k t = trimB s) := trim_of s k t Hall.out HE.out hkt ht Hz.out HF.out
            by_cases hlt2 : k < t
            · obtain ⟨u, rfl⟩ : ∃ u, t = u + 1 := ⟨t - 1, by omega⟩
              have hu : u < s.size := by omega
              have hg2 : gapP (s[u].toNat : Int) = false := by
                rw [at8_eq s u hu]; exact Bool.eq_false_iff.2 (fun hh => hc ⟨hlt2, hh⟩)
              clear hc
              go_wp2_with (go_at_call 63; refine (gapByte_any _ _).mono ?_; rintro e w' ⟨rfl, rfl⟩)
              go_ret
              exact ⟨by rw [← hfin.out]; first | rfl | simp, rfl⟩
            · clear hc
              go_wp2_with (go_at_call 63; refine (gapByte_any _ _).mono ?_; rintro e w' ⟨rfl, rfl⟩)
              go_ret
              exact ⟨by rw [← hfin.out]; first | rfl | simp, rfl⟩
set_option maxHeartbeats 1000000 in
theorem sTrim_any (s : ByteArray) (w : World) (hs : s.size ≤ maxLen) :
    Calls Tryd.prog 12 #[.string s] w fun e w' => e = .returned (.string (trimB s)) ∧ w' = w := by
  unfold maxLen at hs
  go_enter Tryd.func12, Tryd.ntmps12
  go_wp2
  go_loop [3] (fun i => ∃ k : Nat, k ≤ s.size ∧ i = .int .i64 k ∧ ∀ j, j < k → gap8 (at8 s j) = true) (fun i => s.size - (intOf i).toNat)
  case atStart => exact ⟨0, Nat.zero_le _, rfl, fun j hj => by omega⟩
  case round =>
    obtain ⟨k, hk, rfl, hall⟩ := hrel
    have Hall : Hid (∀ j, j < k → gap8 (at8 s j) = true) := hall
    clear hall
    by_cases hc : k < s.size ∧ gap8 (at8 s k) = true
    · obtain ⟨hlt, hg0⟩ := hc
      have hg : gapP (s[k].toNat : Int) = true := by rw [at8_eq s k hlt]; exact hg0
      have Hg : Hid (gap8 (at8 s k) = true) := hg0
      clear hg0
      go_wp2_with (go_at_call 24; refine (l1white_any _ _).mono ?_; rintro e w' ⟨rfl, rfl⟩)
      go_round
      case rel => exact ⟨k + 1, by omega, by go_num, all_succ Hall.out Hg.out⟩
      case measure => simp [intOf]; omega
    · have HE : Hid (k = s.size ∨ gap8 (at8 s k) = false) := by
        rcases Nat.lt_or_ge k s.size with h | h
        · right; exact Bool.eq_false_iff.2 (fun hh => hc ⟨h, hh⟩)
        · left; omega
      have hway : (∃ h : k < s.size, gapP (s[k].toNat : Int) = false) ∨ ¬ k < s.size := by
        rcases Nat.lt_or_ge k s.size with h | h
        · left; refine ⟨h, ?_⟩; rw [at8_eq s k h]; exact Bool.eq_false_iff.2 (fun hh => hc ⟨h, hh⟩)
        · right; omega
      clear hc
      rcases hway with ⟨hlt, hg⟩ | hlt
      all_goals
        go_wp2_with (go_at_call 24; refine (l1white_any _ _).mono ?_; rintro e w' ⟨rfl, rfl⟩)
        try clear hg
        try clear hlt
        go_loop [4] (fun i => ∃ t : Nat, k ≤ t ∧ t ≤ s.size ∧ i = .int .i64 t ∧ ∀ j, t ≤ j → j < s.size → gap8 (at8 s j) = true) (fun i => (intOf i).toNat)
        case atStart => exact ⟨s.size, hk, Nat.le_refl _, rfl, fun j h1 h2 => by omega⟩
        case round =>
          obtain ⟨t, hkt, ht, rfl, hz⟩ := hrel
          have Hz : Hid (∀ j, t ≤ j → j < s.size → gap8 (at8 s j) = true) := hz
          clear hz
          by_cases hc : k < t ∧ gap8 (at8 s (t - 1)) = true
          · obtain ⟨hlt2, hg0⟩ := hc
            obtain ⟨u, rfl⟩ : ∃ u, t = u + 1 := ⟨t - 1, by omega⟩
            have hu : u < s.size := by omega
            have hg2 : gapP (s[u].toNat : Int) = true := by rw [at8_eq s u hu]; exact hg0
            have Hg : Hid (gap8 (at8 s u) = true) := hg0
            clear hg0
            go_wp2_with (go_at_call 24; refine (l1white_any _ _).mono ?_; rintro e w' ⟨rfl, rfl⟩)
            go_round
            case rel => exact ⟨u, by omega, by omega, by go_num, all_pred Hz.out Hg.out⟩
            case measure => simp [intOf] <;> omega
          · have HF : Hid (t = k ∨ gap8 (at8 s (t - 1)) = false) := by
              rcases Nat.lt_or_ge k t with h | h
              · right; exact Bool.eq_false_iff.2 (fun hh => hc ⟨h, hh⟩)
              · left; omega
            have hfin : Hid (s.extract k t = trimB s) := trim_of s k t Hall.out HE.out hkt ht Hz.out HF.out
            by_cases hlt2 : k < t
            · obtain ⟨u, rfl⟩ : ∃ u, t = u + 1 := ⟨t - 1, by omega⟩
              have hu : u < s.size := by omega
              have hg2 : gapP (s[u].toNat : Int) = false := by
                rw [at8_eq s u hu]; exact Bool.eq_false_iff.2 (fun hh => hc ⟨hlt2, hh⟩)
              clear hc
              go_wp2_with (go_at_call 24; refine (l1white_any _ _).mono ?_; rintro e w' ⟨rfl, rfl⟩)
              go_ret
              exact ⟨by rw [← hfin.out]; first | rfl | simp, rfl⟩
            · clear hc
              go_wp2_with (go_at_call 24; refine (l1white_any _ _).mono ?_; rintro e w' ⟨rfl, rfl⟩)
              go_ret
              exact ⟨by rw [← hfin.out]; first | rfl | simp, rfl⟩
end Go.Proofs.YtffjpidjhcnnmabDoor
