/-
  The walks over chapter 1: Token.
-/
import Derived.Test.YtefhpjipcdmbaabGreatDoorW2
import Derived.Test.YtefhpjipcdmbaabGreatDoorM3
namespace Go.Proofs.YtefhpjipcdmbaabGreatDoor
set_option linter.unusedVariables false
set_option linter.unusedSimpArgs false
open Go.RowKit


theorem hideB3 {p : Prop} (h : p) : Hid p := h
theorem letP_yes {n : Int} (h1 : 97 ≤ lowI n) (h2 : lowI n ≤ 122) : letP n = true := by simp [letP, h1, h2]
theorem letP_no {n : Int} (h : lowI n < 97 ∨ 122 < lowI n) : letP n = false := by
  unfold letP
  rcases h with h | h
  · simp [show ¬ 97 ≤ lowI n by omega]
  · simp [show ¬ lowI n ≤ 122 by omega]
/-- The signs of impl's token, as the text has them. -/
theorem tokSigns_at (k : Nat) (hk : k < (⟨#[33, 35, 36, 37, 38, 39, 42, 43, 45, 46, 94, 95, 124, 126, 96]⟩ : ByteArray).size) : (⟨#[33, 35, 36, 37, 38, 39, 42, 43, 45, 46, 94, 95, 124, 126, 96]⟩ : ByteArray)[k] = tokSigns.getD k 0 := by
  rw [at8_eq _ k hk]; rfl
set_option maxHeartbeats 1000000 in
theorem letterByte_any (n : Int) (w : World) (h0 : 0 ≤ n) (h1 : n ≤ 255) :
    Calls Tryz.prog 116 #[.int .u8 n] w fun e w' => e = .returned (.bool (letP n)) ∧ w' = w := by
  unfold letP
  generalize hm : lowI n = m
  have HM := hideB3 hm
  clear hm
  by_cases hl : 97 ≤ m
  · go_enter Tryz.func116, Tryz.ntmps116
    go_wp2_with (go_at_call 66; refine (smallByte_any _ _ h0 h1).mono ?_; rintro e w' ⟨rfl, rfl⟩; rw [HM.out])
    go_ret
    exact ⟨ret_bool (by first | (simp [hl]; done) | (simp; omega)), rfl⟩
  · go_enter Tryz.func116, Tryz.ntmps116
    go_wp2_with (go_at_call 66; refine (smallByte_any _ _ h0 h1).mono ?_; rintro e w' ⟨rfl, rfl⟩; rw [HM.out])
    go_ret
    exact ⟨ret_bool (by first | (simp [hl]; done) | (simp; omega)), rfl⟩
set_option maxHeartbeats 1000000 in
theorem l1has_any (s : ByteArray) (n : Int) (w : World) (hs : s.size ≤ maxLen) :
    Calls Tryz.prog 103 #[.string s, .int .u8 n] w fun e w' => e = .returned (.bool (inL s.data.toList n)) ∧ w' = w := by
  unfold maxLen at hs
  go_enter Tryz.func103, Tryz.ntmps103
  go_wp2
  go_loop [5] (fun i => ∃ k : Nat, k ≤ s.size ∧ i = .int .i64 k ∧ ∀ j, j < k → ((s.data.toList.getD j 0).toNat : Int) ≠ n) (fun i => s.size - (intOf i).toNat)
  case atStart => exact ⟨0, Nat.zero_le _, rfl, fun j hj => by omega⟩
  case round =>
    obtain ⟨k, hk, rfl, hall⟩ := hrel
    have Hall : Hid (∀ j, j < k → ((s.data.toList.getD j 0).toNat : Int) ≠ n) := hall
    clear hall
    by_cases hlt : k < s.size
    · have hl2 : k < s.data.toList.length := by simpa using hlt
      have hat : s[k] = s.data.toList.getD k 0 := at8_eq s k hlt
      have Hat : Hid (s[k] = s.data.toList.getD k 0) := hat
      clear hat
      cases hq : ((s[k].toNat : Int) == n)
      · go_wp2
        go_round
        case rel => exact ⟨k + 1, by omega, by go_num, all_succ Hall.out (by rw [← Hat.out]; simpa using hq)⟩
        case measure => simp [intOf]; omega
      · have e : Hid (inL s.data.toList n = true) := inL_hit hl2 (by rw [beq_iff_eq] at hq; rw [← hq, Hat.out, List.getD, List.getElem?_eq_getElem hl2]; rfl)
        go_wp2
        go_ret
        exact ⟨ret_bool e.out, rfl⟩
    · have e : Hid (inL s.data.toList n = false) := inL_miss (fun j hj => Hall.out j (by have := len_data s; omega))
      go_wp2
      go_ret
      exact ⟨ret_bool e.out, rfl⟩
end Go.Proofs.YtefhpjipcdmbaabGreatDoor
