/-
  The walks over chapter 1: gaps, digits, Trim. · The walks over chapter 1: Token. · Chapter 5: may a field stand in a head? Both sides. · Chapter 5: may they all stand in a head? A field as a line. Both sides. · A row of texts that the call itself makes and appends to, one text at a time. · The walks over chapter 1: Fold, SameFold. · A row of texts, as a reader wants it. · Chapter 5: the values of a name. Both sides. · Chapter 5: the first value of a name; a field out of its line. Both sides. · A region that draws its order, whose first operations leave the world inside a class of worlds (they read; their callees may draw, or make memory of their own) and whose last ones wait for all of these (a store): one walk in the order of the text serves every order. Leans on the library's lemmas on 'qOp', 'HeadInv' and 'wpAny_of_seq'. · The class of the worlds that have grown out of one: for regions that draw their order and whose callees make memory of their own. · The marks of the exact laws: their texts; worlds that have grown but for one block.
-/
import Derived.Test.YtmhohponikolfaaDoorJ0
import Derived.Lib.AppendStr
import Derived.Lib.SmallJoins
import Derived.Test.YtmhohponikolfaaDoorProg
import Derived.Lib.IndexLaws
import Derived.Lib.Bytealg
import Derived.Deep.DeepCutAuto
import Derived.StillTail
import Derived.Deep.Quiet
import Derived.BigQuiet
import Derived.Lib.ConvBytes
namespace Go.Proofs.YtmhohponikolfaaDoor
set_option linter.unusedVariables false
set_option linter.unusedSimpArgs false
open Go.RowKit

theorem gapP_yes1 {n : Int} (h : (n == 32) = true) : gapP n = true := by simp [gapP, h]
theorem gapP_no1 {n : Int} (h : (n == 32) = false) : gapP n = (n == 9) := by simp [gapP, h]
theorem digP_no1 {n : Int} (h : ¬ 48 ≤ n) : digP n = false := by simp [digP, h]
theorem digP_yes1 {n : Int} (h : 48 ≤ n) : digP n = decide (n ≤ 57) := by simp [digP, h]

set_option maxHeartbeats 400000 in
theorem gapByte_any (n : Int) (w : World) :
    Calls Tryd.prog 53 #[.int .u8 n] w fun e w' => e = .returned (.bool (gapP n)) ∧ w' = w := by
  cases h : (n == 32)
  · rw [gapP_no1 h]
    go_enter Tryd.func53, Tryd.ntmps53
    go_wp2
    go_ret
    exact ⟨rfl, rfl⟩
  · rw [gapP_yes1 h]
    go_enter Tryd.func53, Tryd.ntmps53
    go_wp2
    go_ret
    exact ⟨rfl, rfl⟩
set_option maxHeartbeats 400000 in
theorem l1white_any (n : Int) (w : World) :
    Calls Tryd.prog 51 #[.int .u8 n] w fun e w' => e = .returned (.bool (gapP n)) ∧ w' = w := by
  cases h : (n == 32)
  · rw [gapP_no1 h]
    go_enter Tryd.func51, Tryd.ntmps51
    go_wp2
    go_ret
    exact ⟨rfl, rfl⟩
  · rw [gapP_yes1 h]
    go_enter Tryd.func51, Tryd.ntmps51
    go_wp2
    go_ret
    exact ⟨rfl, rfl⟩
set_option maxHeartbeats 400000 in
theorem digitByte_any (n : Int) (w : World) :
    Calls Tryd.prog 61 #[.int .u8 n] w fun e w' => e = .returned (.bool (digP n)) ∧ w' = w := by
  by_cases h : 48 ≤ n
  · rw [digP_yes1 h]
    go_enter Tryd.func61, Tryd.ntmps61
    go_wp2
    go_ret
    exact ⟨rfl, rfl⟩
  · rw [digP_no1 h]
    go_enter Tryd.func61, Tryd.ntmps61
    go_wp2
    go_ret
    exact ⟨rfl, rfl⟩
set_option maxHeartbeats 400000 in
theorem l1digit_any (n : Int) (w : World) :
    Calls Tryd.prog 63 #[.int .u8 n] w fun e w' => e = .returned (.bool (digP n)) ∧ w' = w := by
  by_cases h : 48 ≤ n
  · rw [digP_yes1 h]
    go_enter Tryd.func63, Tryd.ntmps63
    go_wp2
    go_ret
    exact ⟨rfl, rfl⟩
  · rw [digP_no1 h]
    go_enter Tryd.func63, Tryd.ntmps63
    go_wp2
    go_ret
    exact ⟨rfl, rfl⟩
set_option maxHeartbeats 1000000 in
theorem Trim_any (s : ByteArray) (w : World) (hs : s.size ≤ maxLen) :
    Calls Tryd.prog 40 #[.string s] w fun e w' => e = .returned (.string (trimB s)) ∧ w' = w := by
  unfold maxLen at hs
  go_enter Tryd.func40, Tryd.ntmps40
  go_wp2
  go_loop [3] (fun i => ∃ k : Nat, k ≤ s.size ∧ i = .int .i64 k ∧ ∀ j, j < k → gap8 (at8 s j) = true) (fun i => s.size - (intOf i).toNat)
  case atStart => exact ⟨0, Nat.zero_le _, rfl, fun j hj => by omega⟩
  case round =>
    obtain ⟨k, hk, rfl, hall⟩ := hrel
    have Hall : Hid (∀ j, j < k → gap8 (at8 s j) = true) := hall
    clear hall
    by_cases hc : k < s.size ∧ gap8 (at8 s k) = true
    · obtain ⟨hlt, hg0⟩ := hc
      have hg : gapP (s[k].toNat : Int) = true := by rw [at8_eq s k hlt]; exact hg0
      have Hg : Hid (gap8 (at8 s k) = true) := hg0
      clear hg0
      go_wp2_with (go_at_call 53; refine (gapByte_any _ _).mono ?_; rintro e w' ⟨rfl, rfl⟩)
      go_round
      case rel => exact ⟨k + 1, by omega, by go_num, all_succ Hall.out Hg.out⟩
      case measure => simp [intOf]; omega
    · have HE : Hid (k = s.size ∨ gap8 (at8 s k) = false) := by
        rcases Nat.lt_or_ge k s.size with h | h
        · right; exact Bool.eq_false_iff.2 (fun hh => hc ⟨h, hh⟩)
        · left; omega
      have hway : (∃ h : k < s.size, gapP (s[k].toNat : Int) = false) ∨ ¬ k < s.size := by
        rcases Nat.lt_or_ge k s.size with h | h
        · left; refine ⟨h, ?_⟩; rw [at8_eq s k h]; exact Bool.eq_false_iff.2 (fun hh => hc ⟨h, hh⟩)
        · right; omega
      clear hc
      rcases hway with ⟨hlt, hg⟩ | hlt
      all_goals
        go_wp2_with (go_at_call 53; refine (gapByte_any _ _).mono ?_; rintro e w' ⟨rfl, rfl⟩)
        try clear hg
        try clear hlt
        go_loop [4] (fun i => ∃ t : Nat, k ≤ t ∧ t ≤ s.size ∧ i = .int .i64 t ∧ ∀ j, t ≤ j → j < s.size → gap8 (at8 s j) = true) (fun i => (intOf i).toNat)
        case atStart => exact ⟨s.size, hk, Nat.le_refl _, rfl, fun j h1 h2 => by omega⟩
        case round =>
          obtain ⟨t, hkt, ht, rfl, hz⟩ := hrel
          have Hz : Hid (∀ j, t ≤ j → j < s.size → gap8 (at8 s j) = true) := hz
          clear hz
          by_cases hc : k < t ∧ gap8 (at8 s (t - 1)) = true
          · obtain ⟨hlt2, hg0⟩ := hc
            obtain ⟨u, rfl⟩ : ∃ u, t = u + 1 := ⟨t - 1, by omega⟩
            have hu : u < s.size := by omega
            have hg2 : gapP (s[u].toNat : Int) = true := by rw [at8_eq s u hu]; exact hg0
            have Hg : Hid (gap8 (at8 s u) = true) := hg0
            clear hg0
            go_wp2_with (go_at_call 53; refine (gapByte_any _ _).mono ?_; rintro e w' ⟨rfl, rfl⟩)
            go_round
            case rel => exact ⟨u, by omega, by omega, by go_num, all_pred Hz.out Hg.out⟩
            case measure => simp [intOf] <;> omega
          · have HF : Hid (t = k ∨ gap8 (at8 s (t - 1)) = false) := by
              rcases Nat.lt_or_ge k t with h | h
              · right; exact Bool.eq_false_iff.2 (fun hh => hc ⟨h, hh⟩)
              · left; omega
            have hfin : Hid (s.extract k t = trimB s) := trim_of s k t Hall.out HE.out hkt ht Hz.out HF.out
            by_cases hlt2 : k < t
            · obtain ⟨u, rfl⟩ : ∃ u, t = u + 1 := ⟨t - 1, by omega⟩
              have hu : u < s.size := by omega
              have hg2 : gapP (s[u].toNat : Int) = false := by
                rw [at8_eq s u hu]; exact Bool.eq_false_iff.2 (fun hh => hc ⟨hlt2, hh⟩)
              clear hc
              go_wp2_with (go_at_call 53; refine (gapByte_any _ _).mono ?_; rintro e w' ⟨rfl, rfl⟩)
              go_ret
              exact ⟨by rw [← hfin.out]; first | rfl | simp, rfl⟩
            · clear hc
              go_wp2_with (go_at_call 53; refine (gapByte_any _ _).mono ?_; rintro e w' ⟨rfl, rfl⟩)
              go_ret
              exact ⟨by rw [← hfin.out]; first | rfl | simp, rfl⟩
set_option maxHeartbeats 1000000 in
theorem sTrim_any (s : ByteArray) (w : World) (hs : s.size ≤ maxLen) :
    Calls Tryd.prog 38 #[.string s] w fun e w' => e = .returned (.string (trimB s)) ∧ w' = w := by
  unfold maxLen at hs
  go_enter Tryd.func38, Tryd.ntmps38
  go_wp2
  go_loop [3] (fun i => ∃ k : Nat, k ≤ s.size ∧ i = .int .i64 k ∧ ∀ j, j < k → gap8 (at8 s j) = true) (fun i => s.size - (intOf i).toNat)
  case atStart => exact ⟨0, Nat.zero_le _, rfl, fun j hj => by omega⟩
  case round =>
    obtain ⟨k, hk, rfl, hall⟩ := hrel
    have Hall : Hid (∀ j, j < k → gap8 (at8 s j) = true) := hall
    clear hall
    by_cases hc : k < s.size ∧ gap8 (at8 s k) = true
    · obtain ⟨hlt, hg0⟩ := hc
      have hg : gapP (s[k].toNat : Int) = true := by rw [at8_eq s k hlt]; exact hg0
      have Hg : Hid (gap8 (at8 s k) = true) := hg0
      clear hg0
      go_wp2_with (go_at_call 51; refine (l1white_any _ _).mono ?_; rintro e w' ⟨rfl, rfl⟩)
      go_round
      case rel => exact ⟨k + 1, by omega, by go_num, all_succ Hall.out Hg.out⟩
      case measure => simp [intOf]; omega
    · have HE : Hid (k = s.size ∨ gap8 (at8 s k) = false) := by
        rcases Nat.lt_or_ge k s.size with h | h
        · right; exact Bool.eq_false_iff.2 (fun hh => hc ⟨h, hh⟩)
        · left; omega
      have hway : (∃ h : k < s.size, gapP (s[k].toNat : Int) = false) ∨ ¬ k < s.size := by
        rcases Nat.lt_or_ge k s.size with h | h
        · left; refine ⟨h, ?_⟩; rw [at8_eq s k h]; exact Bool.eq_false_iff.2 (fun hh => hc ⟨h, hh⟩)
        · right; omega
      clear hc
      rcases hway with ⟨hlt, hg⟩ | hlt
      all_goals
        go_wp2_with (go_at_call 51; refine (l1white_any _ _).mono ?_; rintro e w' ⟨rfl, rfl⟩)
        try clear hg
        try clear hlt
        go_loop [4] (fun i => ∃ t : Nat, k ≤ t ∧ t ≤ s.size ∧ i = .int .i64 t ∧ ∀ j, t ≤ j → j < s.size → gap8 (at8 s j) = true) (fun i => (intOf i).toNat)
        case atStart => exact ⟨s.size, hk, Nat.le_refl _, rfl, fun j h1 h2 => by omega⟩
        case round =>
          obtain ⟨t, hkt, ht, rfl, hz⟩ := hrel
          have Hz : Hid (∀ j, t ≤ j → j < s.size → gap8 (at8 s j) = true) := hz
          clear hz
          by_cases hc : k < t ∧ gap8 (at8 s (t - 1)) = true
          · obtain ⟨hlt2, hg0⟩ := hc
            obtain ⟨u, rfl⟩ : ∃ u, t = u + 1 := ⟨t - 1, by omega⟩
            have hu : u < s.size := by omega
            have hg2 : gapP (s[u].toNat : Int) = true := by rw [at8_eq s u hu]; exact hg0
            have Hg : Hid (gap8 (at8 s u) = true) := hg0
            clear hg0
            go_wp2_with (go_at_call 51; refine (l1white_any _ _).mono ?_; rintro e w' ⟨rfl, rfl⟩)
            go_round
            case rel => exact ⟨u, by omega, by omega, by go_num, all_pred Hz.out Hg.out⟩
            case measure => simp [intOf] <;> omega
          · have HF : Hid (t = k ∨ gap8 (at8 s (t - 1)) = false) := by
              rcases Nat.lt_or_ge k t with h | h
              · right; exact Bool.eq_false_iff.2 (fun hh => hc ⟨h, hh⟩)
              · left; omega
            have hfin : Hid (s.extract k t = trimB s) := trim_of s k t Hall.out HE.out hkt ht Hz.out HF.out
            by_cases hlt2 : k < t
            · obtain ⟨u, rfl⟩ : ∃ u, t = u + 1 := ⟨t - 1, by omega⟩
              have hu : u < s.size := by omega
              have hg2 : gapP (s[u].toNat : Int) = false := by
                rw [at8_eq s u hu]; exact Bool.eq_false_iff.2 (fun hh => hc ⟨hlt2, hh⟩)
              clear hc
              go_wp2_with (go_at_call 51; refine (l1white_any _ _).mono ?_; rintro e w' ⟨rfl, rfl⟩)
              go_ret
              exact ⟨by rw [← hfin.out]; first | rfl | simp, rfl⟩
            · clear hc
              go_wp2_with (go_at_call 51; refine (l1white_any _ _).mono ?_; rintro e w' ⟨rfl, rfl⟩)
              go_ret
              exact ⟨by rw [← hfin.out]; first | rfl | simp, rfl⟩
end Go.Proofs.YtmhohponikolfaaDoor
namespace Go.Proofs.YtmhohponikolfaaDoor
set_option linter.unusedVariables false
set_option linter.unusedSimpArgs false
open Go.RowKit


theorem hideB3 {p : Prop} (h : p) : Hid p := h
theorem letP_yes {n : Int} (h1 : 97 ≤ lowI n) (h2 : lowI n ≤ 122) : letP n = true := by simp [letP, h1, h2]
theorem letP_no {n : Int} (h : lowI n < 97 ∨ 122 < lowI n) : letP n = false := by
  unfold letP
  rcases h with h | h
  · simp [show ¬ 97 ≤ lowI n by omega]
  · simp [show ¬ lowI n ≤ 122 by omega]
/-- The signs of impl's token, as the text has them. -/
theorem tokSigns_at (k : Nat) (hk : k < (⟨#[33, 35, 36, 37, 38, 39, 42, 43, 45, 46, 94, 95, 124, 126, 96]⟩ : ByteArray).size) : (⟨#[33, 35, 36, 37, 38, 39, 42, 43, 45, 46, 94, 95, 124, 126, 96]⟩ : ByteArray)[k] = tokSigns.getD k 0 := by
  rw [at8_eq _ k hk]; rfl
set_option maxHeartbeats 1000000 in
theorem letterByte_any (n : Int) (w : World) (h0 : 0 ≤ n) (h1 : n ≤ 255) :
    Calls Tryd.prog 60 #[.int .u8 n] w fun e w' => e = .returned (.bool (letP n)) ∧ w' = w := by
  unfold letP
  generalize hm : lowI n = m
  have HM := hideB3 hm
  clear hm
  by_cases hl : 97 ≤ m
  · go_enter Tryd.func60, Tryd.ntmps60
    go_wp2_with (go_at_call 45; refine (smallByte_any _ _ h0 h1).mono ?_; rintro e w' ⟨rfl, rfl⟩; rw [HM.out])
    go_ret
    exact ⟨ret_bool (by first | (simp [hl]; done) | (simp; omega)), rfl⟩
  · go_enter Tryd.func60, Tryd.ntmps60
    go_wp2_with (go_at_call 45; refine (smallByte_any _ _ h0 h1).mono ?_; rintro e w' ⟨rfl, rfl⟩; rw [HM.out])
    go_ret
    exact ⟨ret_bool (by first | (simp [hl]; done) | (simp; omega)), rfl⟩
set_option maxHeartbeats 1000000 in
theorem tokenByte_sig (n : Int) (w : World) (h0 : 0 ≤ n) (h1 : n ≤ 255) (hl : letP n = false) (hd : digP n = false) :
    Calls Tryd.prog 47 #[.int .u8 n] w fun e w' => e = .returned (.bool (inL tokSigns n)) ∧ w' = w := by
  go_enter Tryd.func47, Tryd.ntmps47
  go_wp2_with (first | (go_at_call 60; refine (letterByte_any _ _ h0 h1).mono ?_; rintro e w' ⟨rfl, rfl⟩; rw [hl]) | (go_at_call 61; refine (digitByte_any _ _).mono ?_; rintro e w' ⟨rfl, rfl⟩))
  go_loop [10] (fun i => ∃ k : Nat, k ≤ 15 ∧ i = .int .i64 k ∧ ∀ j, j < k → ((tokSigns.getD j 0).toNat : Int) ≠ n) (fun i => 15 - (intOf i).toNat)
  case atStart => exact ⟨0, Nat.zero_le _, rfl, fun j hj => by omega⟩
  case round =>
    obtain ⟨k, hk, rfl, hall⟩ := hrel
    have Hall : Hid (∀ j, j < k → ((tokSigns.getD j 0).toNat : Int) ≠ n) := hall
    clear hall
    by_cases hlt : k < 15
    · have hb : k < (⟨#[33, 35, 36, 37, 38, 39, 42, 43, 45, 46, 94, 95, 124, 126, 96]⟩ : ByteArray).size := hlt
      go_wp2
      · have hh : (((⟨#[33, 35, 36, 37, 38, 39, 42, 43, 45, 46, 94, 95, 124, 126, 96]⟩ : ByteArray)[k].toNat : Int) == n) = true := by assumption
        go_ret
        rw [tokSigns_at k hb, beq_iff_eq] at hh
        have hl2 : k < tokSigns.length := hlt
        have e : inL tokSigns n = true := inL_hit hl2 (by rw [← hh, List.getD, List.getElem?_eq_getElem hl2]; rfl)
        exact ⟨ret_bool e, rfl⟩
      · have hh : (((⟨#[33, 35, 36, 37, 38, 39, 42, 43, 45, 46, 94, 95, 124, 126, 96]⟩ : ByteArray)[k].toNat : Int) == n) = false := by assumption
        rw [tokSigns_at k hb, beq_eq_false_iff_ne] at hh
        go_round
        case rel => exact ⟨k + 1, by omega, by go_num, all_succ Hall.out hh⟩
        case measure => simp [intOf]; omega
    · have e : Hid (inL tokSigns n = false) := inL_miss (fun j hj => Hall.out j (by have : tokSigns.length = 15 := rfl; omega))
      go_wp2
      go_ret
      exact ⟨ret_bool e.out, rfl⟩

set_option maxHeartbeats 1000000 in
theorem tokenByte_any (n : Int) (w : World) (h0 : 0 ≤ n) (h1 : n ≤ 255) :
    Calls Tryd.prog 47 #[.int .u8 n] w fun e w' => e = .returned (.bool (tokP n)) ∧ w' = w := by
  cases hl : letP n
  · cases hd : digP n
    · rw [tokP_sig hl hd]
      exact tokenByte_sig n w h0 h1 hl hd
    · rw [tokP_dig hd]
      go_enter Tryd.func47, Tryd.ntmps47
      go_wp2_with (first | (go_at_call 60; refine (letterByte_any _ _ h0 h1).mono ?_; rintro e w' ⟨rfl, rfl⟩; rw [hl]) | (go_at_call 61; refine (digitByte_any _ _).mono ?_; rintro e w' ⟨rfl, rfl⟩))
      go_ret
      exact ⟨rfl, rfl⟩
  · rw [tokP_let hl]
    go_enter Tryd.func47, Tryd.ntmps47
    go_wp2_with (first | (go_at_call 60; refine (letterByte_any _ _ h0 h1).mono ?_; rintro e w' ⟨rfl, rfl⟩; rw [hl]) | (go_at_call 61; refine (digitByte_any _ _).mono ?_; rintro e w' ⟨rfl, rfl⟩))
    go_ret
    exact ⟨rfl, rfl⟩
set_option maxHeartbeats 1000000 in
theorem l1has_any (s : ByteArray) (n : Int) (w : World) (hs : s.size ≤ maxLen) :
    Calls Tryd.prog 64 #[.string s, .int .u8 n] w fun e w' => e = .returned (.bool (inL s.data.toList n)) ∧ w' = w := by
  unfold maxLen at hs
  go_enter Tryd.func64, Tryd.ntmps64
  go_wp2
  go_loop [5] (fun i => ∃ k : Nat, k ≤ s.size ∧ i = .int .i64 k ∧ ∀ j, j < k → ((s.data.toList.getD j 0).toNat : Int) ≠ n) (fun i => s.size - (intOf i).toNat)
  case atStart => exact ⟨0, Nat.zero_le _, rfl, fun j hj => by omega⟩
  case round =>
    obtain ⟨k, hk, rfl, hall⟩ := hrel
    have Hall : Hid (∀ j, j < k → ((s.data.toList.getD j 0).toNat : Int) ≠ n) := hall
    clear hall
    by_cases hlt : k < s.size
    · have hl2 : k < s.data.toList.length := by simpa using hlt
      have hat : s[k] = s.data.toList.getD k 0 := at8_eq s k hlt
      have Hat : Hid (s[k] = s.data.toList.getD k 0) := hat
      clear hat
      cases hq : ((s[k].toNat : Int) == n)
      · go_wp2
        go_round
        case rel => exact ⟨k + 1, by omega, by go_num, all_succ Hall.out (by rw [← Hat.out]; simpa using hq)⟩
        case measure => simp [intOf]; omega
      · have e : Hid (inL s.data.toList n = true) := inL_hit hl2 (by rw [beq_iff_eq] at hq; rw [← hq, Hat.out, List.getD, List.getElem?_eq_getElem hl2]; rfl)
        go_wp2
        go_ret
        exact ⟨ret_bool e.out, rfl⟩
    · have e : Hid (inL s.data.toList n = false) := inL_miss (fun j hj => Hall.out j (by have := len_data s; omega))
      go_wp2
      go_ret
      exact ⟨ret_bool e.out, rfl⟩
set_option maxHeartbeats 1000000 in
theorem l1tchar_any (n : Int) (w : World) (h0 : 0 ≤ n) (h1 : n ≤ 255) :
    Calls Tryd.prog 49 #[.int .u8 n] w fun e w' => e = .returned (.bool (tokP n)) ∧ w' = w := by
  by_cases hl : 97 ≤ lowI n ∧ lowI n ≤ 122
  · obtain ⟨hl1, hl2⟩ := hl
    rw [tokP_let (letP_yes hl1 hl2)]
    go_enter Tryd.func49, Tryd.ntmps49
    go_wp2_with (first | (go_at_call 59; refine (l1lower_any _ _ (by omega) (by omega)).mono ?_; rintro e w' ⟨rfl, rfl⟩) | (go_at_call 63; refine (l1digit_any _ _).mono ?_; rintro e w' ⟨rfl, rfl⟩) | (go_at_call 64; refine (l1has_any _ _ _ (by decide)).mono ?_; rintro e w' ⟨rfl, rfl⟩))
    go_ret
    exact ⟨rfl, rfl⟩
  · have hl' : lowI n < 97 ∨ 122 < lowI n := by omega
    have hl2 : lowI n < 97 ∨ (122 < lowI n ∧ decide (lowI n ≤ 122) = false) := by
      rcases hl' with h | h
      · exact Or.inl h
      · exact Or.inr ⟨h, by simp; omega⟩
    clear hl
    cases hd : digP n
    · cases h96 : (n == 96)
      · rw [tokP_14 (letP_no hl') hd h96]
        rcases hl2 with hl | ⟨hl, hl3⟩
        all_goals
          go_enter Tryd.func49, Tryd.ntmps49
          go_wp2_with (first | (go_at_call 59; refine (l1lower_any _ _ (by omega) (by omega)).mono ?_; rintro e w' ⟨rfl, rfl⟩) | (go_at_call 63; refine (l1digit_any _ _).mono ?_; rintro e w' ⟨rfl, rfl⟩) | (go_at_call 64; refine (l1has_any _ _ _ (by decide)).mono ?_; rintro e w' ⟨rfl, rfl⟩))
          go_ret
          exact ⟨rfl, rfl⟩
      · rw [tokP_96 (letP_no hl') hd h96]
        rcases hl2 with hl | ⟨hl, hl3⟩
        all_goals
          go_enter Tryd.func49, Tryd.ntmps49
          go_wp2_with (first | (go_at_call 59; refine (l1lower_any _ _ (by omega) (by omega)).mono ?_; rintro e w' ⟨rfl, rfl⟩) | (go_at_call 63; refine (l1digit_any _ _).mono ?_; rintro e w' ⟨rfl, rfl⟩) | (go_at_call 64; refine (l1has_any _ _ _ (by decide)).mono ?_; rintro e w' ⟨rfl, rfl⟩))
          go_ret
          exact ⟨rfl, rfl⟩
    · rw [tokP_dig hd]
      rcases hl2 with hl | ⟨hl, hl3⟩
      all_goals
        go_enter Tryd.func49, Tryd.ntmps49
        go_wp2_with (first | (go_at_call 59; refine (l1lower_any _ _ (by omega) (by omega)).mono ?_; rintro e w' ⟨rfl, rfl⟩) | (go_at_call 63; refine (l1digit_any _ _).mono ?_; rintro e w' ⟨rfl, rfl⟩) | (go_at_call 64; refine (l1has_any _ _ _ (by decide)).mono ?_; rintro e w' ⟨rfl, rfl⟩))
        go_ret
        exact ⟨rfl, rfl⟩
set_option maxHeartbeats 1000000 in
theorem Token_any (s : ByteArray) (w : World) (hs : s.size ≤ maxLen) :
    Calls Tryd.prog 34 #[.string s] w fun e w' => e = .returned (.bool (tokB s)) ∧ w' = w := by
  unfold maxLen at hs
  by_cases h0 : s.size = 0
  · rw [tokB_size (Or.inl h0)]
    have hne : s.toList.isEmpty = true := by rw [ByteArray.toList_eq, List.isEmpty_iff, ← List.length_eq_zero_iff, Array.length_toList]; exact h0
    go_enter Tryd.func34, Tryd.ntmps34
    go_wp2
    go_ret
    exact ⟨rfl, rfl⟩
  · have hne : s.toList.isEmpty = false := by
      rw [ByteArray.toList_eq, List.isEmpty_eq_false_iff]
      intro hh
      apply h0
      show s.data.size = 0
      rw [← Array.length_toList, hh]; rfl
    have hne2 : ((s.size : Int) == 0) = false := by rw [Bool.eq_false_iff, ne_eq, beq_iff_eq]; omega
    by_cases hbig : (4000 : Int) < (s.size : Int)
    · rw [tokB_size (Or.inr (by omega))]
      go_enter Tryd.func34, Tryd.ntmps34
      go_wp2
      go_ret
      exact ⟨rfl, rfl⟩
    · go_enter Tryd.func34, Tryd.ntmps34
      go_wp2
      clear hne hne2
      go_loop [13] (fun i => ∃ k : Nat, k ≤ s.size ∧ i = .int .i64 k ∧ ∀ j, j < k → tok8 (at8 s j) = true) (fun i => s.size - (intOf i).toNat)
      case atStart => exact ⟨0, Nat.zero_le _, rfl, fun j hj => by omega⟩
      case round =>
        obtain ⟨k, hk, rfl, hall⟩ := hrel
        have Hall : Hid (∀ j, j < k → tok8 (at8 s j) = true) := hall
        clear hall
        by_cases hlt : k < s.size
        · cases hg0 : tok8 (at8 s k)
          · have hg : tokP (s[k].toNat : Int) = false := by rw [at8_eq s k hlt]; exact hg0
            have hfin : Hid (tokB s = false) := tokB_no hlt hg0
            clear hg0
            go_wp2_with (go_at_call 47; refine (tokenByte_any _ _ (u8_lo _) (u8_hi _)).mono ?_; rintro e w' ⟨rfl, rfl⟩)
            go_ret
            exact ⟨ret_bool hfin.out, rfl⟩
          · have hg : tokP (s[k].toNat : Int) = true := by rw [at8_eq s k hlt]; exact hg0
            have Hg : Hid (tok8 (at8 s k) = true) := hg0
            clear hg0
            go_wp2_with (go_at_call 47; refine (tokenByte_any _ _ (u8_lo _) (u8_hi _)).mono ?_; rintro e w' ⟨rfl, rfl⟩)
            go_round
            case rel => exact ⟨k + 1, by omega, by go_num, all_succ Hall.out Hg.out⟩
            case measure => simp [intOf]; omega
        · have hfin : Hid (tokB s = true) := tokB_yes (by omega) (by omega) (fun j hj => Hall.out j (by omega))
          go_wp2
          go_ret
          exact ⟨ret_bool hfin.out, rfl⟩
set_option maxHeartbeats 1000000 in
theorem sToken_any (s : ByteArray) (w : World) (hs : s.size ≤ maxLen) :
    Calls Tryd.prog 36 #[.string s] w fun e w' => e = .returned (.bool (tokB s)) ∧ w' = w := by
  unfold maxLen at hs
  by_cases h0 : s.size = 0
  · rw [tokB_size (Or.inl h0)]
    have hne : ((s.size : Int) == 0) = true := by rw [beq_iff_eq]; omega
    go_enter Tryd.func36, Tryd.ntmps36
    go_wp2
    go_ret
    exact ⟨rfl, rfl⟩
  · have hne : s.toList.isEmpty = false := by
      rw [ByteArray.toList_eq, List.isEmpty_eq_false_iff]
      intro hh
      apply h0
      show s.data.size = 0
      rw [← Array.length_toList, hh]; rfl
    have hne2 : ((s.size : Int) == 0) = false := by rw [Bool.eq_false_iff, ne_eq, beq_iff_eq]; omega
    by_cases hbig : (4000 : Int) < (s.size : Int)
    · rw [tokB_size (Or.inr (by omega))]
      go_enter Tryd.func36, Tryd.ntmps36
      go_wp2
      go_ret
      exact ⟨rfl, rfl⟩
    · go_enter Tryd.func36, Tryd.ntmps36
      go_wp2
      clear hne hne2
      go_loop [3] (fun i => ∃ k : Nat, k ≤ s.size ∧ i = .int .i64 k ∧ ∀ j, j < k → tok8 (at8 s j) = true) (fun i => s.size - (intOf i).toNat)
      case atStart => exact ⟨0, Nat.zero_le _, rfl, fun j hj => by omega⟩
      case round =>
        obtain ⟨k, hk, rfl, hall⟩ := hrel
        have Hall : Hid (∀ j, j < k → tok8 (at8 s j) = true) := hall
        clear hall
        by_cases hlt : k < s.size
        · cases hg0 : tok8 (at8 s k)
          · have hg : tokP (s[k].toNat : Int) = false := by rw [at8_eq s k hlt]; exact hg0
            have hfin : Hid (tokB s = false) := tokB_no hlt hg0
            clear hg0
            go_wp2_with (go_at_call 49; refine (l1tchar_any _ _ (u8_lo _) (u8_hi _)).mono ?_; rintro e w' ⟨rfl, rfl⟩)
            go_ret
            exact ⟨ret_bool hfin.out, rfl⟩
          · have hg : tokP (s[k].toNat : Int) = true := by rw [at8_eq s k hlt]; exact hg0
            have Hg : Hid (tok8 (at8 s k) = true) := hg0
            clear hg0
            go_wp2_with (go_at_call 49; refine (l1tchar_any _ _ (u8_lo _) (u8_hi _)).mono ?_; rintro e w' ⟨rfl, rfl⟩)
            go_round
            case rel => exact ⟨k + 1, by omega, by go_num, all_succ Hall.out Hg.out⟩
            case measure => simp [intOf]; omega
        · have hfin : Hid (tokB s = true) := tokB_yes (by omega) (by omega) (fun j hj => Hall.out j (by omega))
          go_wp2
          go_ret
          exact ⟨ret_bool hfin.out, rfl⟩
end Go.Proofs.YtmhohponikolfaaDoor
namespace Go.Proofs.YtmhohponikolfaaDoor
set_option linter.unusedVariables false
set_option linter.unusedSimpArgs false
open Go.RowKit
theorem fieldQ_no1 {x : Fd} (h : ¬ (x.1.size : Int) ≤ 40) : fieldQ x = false := by
  cases hh : fieldQ x with
  | false => rfl
  | true => exact absurd (fieldQ_iff.1 hh).1 (by omega)
theorem fieldQ_no2 {x : Fd} (h : tokB x.1 = false) : fieldQ x = false := by unfold fieldQ; simp [h]
theorem fieldQ_yes2 {x : Fd} (h1 : (x.1.size : Int) ≤ 40) (h : tokB x.1 = true) : fieldQ x = valQ x.2 := by
  have h0 : x.1.size ≤ 40 := by omega
  unfold fieldQ; simp [h, h0]
theorem valQ_no1 {v : ByteArray} (h : ¬ (v.size : Int) ≤ 190) : valQ v = false := by
  cases hh : valQ v with
  | false => rfl
  | true => exact absurd (valQ_iff.1 hh).1 (by omega)
theorem valQ_no2 {v : ByteArray} (h : plnB v = false) : valQ v = false := by unfold valQ; simp [h]
theorem valQ_yes2 {v : ByteArray} (h1 : (v.size : Int) ≤ 190) (h : plnB v = true) : valQ v = eqB (trimB v) v := by
  have h0 : v.size ≤ 190 := by omega
  unfold valQ; simp [h, h0]
set_option maxHeartbeats 1000000 in
theorem valueOk_any (s : ByteArray) (w : World) (hs : s.size ≤ maxLen) :
    Calls Tryd.prog 35 #[.string s] w fun e w' => e = .returned (.bool (valQ s)) ∧ w' = w := by
  have hs' := hs
  unfold maxLen at hs'
  by_cases h1 : (s.size : Int) ≤ 190
  · cases h2 : plnB s
    · rw [valQ_no2 h2]
      go_enter Tryd.func35, Tryd.ntmps35
      go_wp2_with (first | (go_at_call 48; refine (plainText_any _ _ hs).mono ?_; rintro e w' ⟨rfl, rfl⟩))
      go_ret
      exact ⟨rfl, rfl⟩
    · rw [valQ_yes2 h1 h2]
      go_enter Tryd.func35, Tryd.ntmps35
      go_wp2_with (first | (go_at_call 48; refine (plainText_any _ _ hs).mono ?_; rintro e w' ⟨rfl, rfl⟩) | (go_at_call 40; refine (Trim_any _ _ hs).mono ?_; rintro e w' ⟨rfl, rfl⟩))
      go_ret
      exact ⟨rfl, rfl⟩
  · rw [valQ_no1 h1]
    go_enter Tryd.func35, Tryd.ntmps35
    go_wp2
    go_ret
    exact ⟨rfl, rfl⟩
set_option maxHeartbeats 1000000 in
theorem FieldOk_any (d s : ByteArray) (w : World) (hd : d.size ≤ maxLen) (hs : s.size ≤ maxLen) :
    Calls Tryd.prog 20 #[.agg #[.string d, .string s]] w fun e w' => e = .returned (.bool (fieldQ (d, s))) ∧ Below w.heap.size w w' := by
  have hd' := hd
  unfold maxLen at hd'
  have HB := hideB2 (below_a1 w (.cells #[.string d, .string s] 25))
  by_cases h1 : (d.size : Int) ≤ 40
  · cases h2 : tokB d
    · rw [fieldQ_no2 (x := (d, s)) h2]
      go_enter Tryd.func20, Tryd.ntmps20
      go_wp2_with (first | (go_at_call 34; refine (Token_any _ _ hd).mono ?_; rintro e w' ⟨rfl, rfl⟩))
      go_ret
      exact ⟨rfl, HB.out⟩
    · rw [fieldQ_yes2 (x := (d, s)) h1 h2]
      generalize hv : valQ s = q
      have HV := hideB2 hv
      clear hv
      go_enter Tryd.func20, Tryd.ntmps20
      go_wp2_with (first | (go_at_call 34; refine (Token_any _ _ hd).mono ?_; rintro e w' ⟨rfl, rfl⟩) | (go_at_call 35; refine (valueOk_any _ _ hs).mono ?_; rintro e w' ⟨rfl, rfl⟩; rw [HV.out]))
      go_ret
      exact ⟨rfl, HB.out⟩
  · rw [fieldQ_no1 (x := (d, s)) h1]
    go_enter Tryd.func20, Tryd.ntmps20
    go_wp2
    go_ret
    exact ⟨rfl, HB.out⟩
set_option maxHeartbeats 1000000 in
theorem sFieldOk_any (d s : ByteArray) (w : World) (hd : d.size ≤ maxLen) (hs : s.size ≤ maxLen) :
    Calls Tryd.prog 22 #[.agg #[.string d, .string s]] w fun e w' => e = .returned (.bool (fieldQ (d, s))) ∧ Below w.heap.size w w' := by
  have hd' := hd
  have hs' := hs
  unfold maxLen at hd' hs'
  have HB := hideB2 (below_a1 w (.cells #[.string d, .string s] 25))
  by_cases h1 : (d.size : Int) ≤ 40
  · cases h2 : tokB d
    · skip
      rw [fieldQ_no2 (x := (d, s)) h2]
      go_enter Tryd.func22, Tryd.ntmps22
      go_wp2
      refine wp_region_quiet_lit ?_ ?_ ?_
      · kernel_rfl
      · kernel_rfl
      · repeat (go_big_quiet_step ((first | (go_at_call 36; exact Calls.quiet_of_same (sToken_any _ _ hd)) | (go_at_call 37; exact Calls.quiet_of_same (l5plain_any _ _ hs)) | (go_at_call 38; exact Calls.quiet_of_same (sTrim_any _ _ hs)))))
        refine wpQuiet_nil ?_
        rintro _ ⟨nq, rfl⟩
        go_wp2
        go_ret
        exact ⟨rfl, below_drewN HB.out _⟩
    · rw [fieldQ_yes2 (x := (d, s)) h1 h2]
      by_cases h3 : (s.size : Int) ≤ 190
      · cases h4 : plnB s
        · skip
          rw [show valQ (d, s).2 = false from valQ_no2 h4]
          go_enter Tryd.func22, Tryd.ntmps22
          go_wp2
          refine wp_region_quiet_lit ?_ ?_ ?_
          · kernel_rfl
          · kernel_rfl
          · repeat (go_big_quiet_step ((first | (go_at_call 36; exact Calls.quiet_of_same (sToken_any _ _ hd)) | (go_at_call 37; exact Calls.quiet_of_same (l5plain_any _ _ hs)) | (go_at_call 38; exact Calls.quiet_of_same (sTrim_any _ _ hs)))))
            refine wpQuiet_nil ?_
            rintro _ ⟨nq, rfl⟩
            go_wp2
            go_ret
            exact ⟨rfl, below_drewN HB.out _⟩
        · skip
          rw [show valQ (d, s).2 = eqB (trimB s) s from valQ_yes2 h3 h4]
          go_enter Tryd.func22, Tryd.ntmps22
          go_wp2
          refine wp_region_quiet_lit ?_ ?_ ?_
          · kernel_rfl
          · kernel_rfl
          · repeat (go_big_quiet_step ((first | (go_at_call 36; exact Calls.quiet_of_same (sToken_any _ _ hd)) | (go_at_call 37; exact Calls.quiet_of_same (l5plain_any _ _ hs)) | (go_at_call 38; exact Calls.quiet_of_same (sTrim_any _ _ hs)))))
            refine wpQuiet_nil ?_
            rintro _ ⟨nq, rfl⟩
            go_wp2
            go_ret
            exact ⟨rfl, below_drewN HB.out _⟩
      · have c3 : decide ((s.size : Int) ≤ 190) = false := decide_eq_false h3
        rw [show valQ (d, s).2 = false from valQ_no1 h3]
        go_enter Tryd.func22, Tryd.ntmps22
        go_wp2
        refine wp_region_quiet_lit ?_ ?_ ?_
        · kernel_rfl
        · kernel_rfl
        · repeat (go_big_quiet_step ((first | (go_at_call 36; exact Calls.quiet_of_same (sToken_any _ _ hd)) | (go_at_call 37; exact Calls.quiet_of_same (l5plain_any _ _ hs)) | (go_at_call 38; exact Calls.quiet_of_same (sTrim_any _ _ hs)))))
          refine wpQuiet_nil ?_
          rintro _ ⟨nq, rfl⟩
          go_wp2
          go_ret
          exact ⟨rfl, below_drewN HB.out _⟩
  · have c3 : decide ((d.size : Int) ≤ 40) = false := decide_eq_false h1
    rw [fieldQ_no1 (x := (d, s)) h1]
    go_enter Tryd.func22, Tryd.ntmps22
    go_wp2
    refine wp_region_quiet_lit ?_ ?_ ?_
    · kernel_rfl
    · kernel_rfl
    · repeat (go_big_quiet_step ((first | (go_at_call 36; exact Calls.quiet_of_same (sToken_any _ _ hd)) | (go_at_call 37; exact Calls.quiet_of_same (l5plain_any _ _ hs)) | (go_at_call 38; exact Calls.quiet_of_same (sTrim_any _ _ hs)))))
      refine wpQuiet_nil ?_
      rintro _ ⟨nq, rfl⟩
      go_wp2
      go_ret
      exact ⟨rfl, below_drewN HB.out _⟩
end Go.Proofs.YtmhohponikolfaaDoor
namespace Go.Proofs.YtmhohponikolfaaDoor
set_option linter.unusedVariables false
set_option linter.unusedSimpArgs false
open Go.RowKit
set_option maxHeartbeats 2000000 in
theorem FieldsOk_any (v : Value) (l : List Fd) (w : World) (hv : SlF w v l) (hl : l.length ≤ 1048576) (ht : totF l ≤ 1099511627776) :
    Calls Tryd.prog 14 #[v] w fun e w' => e = .returned (.bool (fieldsQ l)) ∧ Below w.heap.size w w' := by
  obtain ⟨a, c0, rfl⟩ := hv.form
  have HV := hideB2 hv
  clear hv
  generalize hQ : fieldsQ l = R
  have HQ := hideB2 hQ
  clear hQ
  generalize hn : l.length = n at *
  have HN := hideB2 hn
  clear hn
  by_cases h0 : n ≤ 20
  · go_enter Tryd.func14, Tryd.ntmps14
    go_wp2
    go_loopw [10] (fun i wr => ∃ k : Nat, k ≤ n ∧ i = .int .i64 k ∧ (∀ j, j < k → fieldQ (fdAt l j) = true) ∧ Below w.heap.size w wr) (fun i _ => n - (intOf i).toNat)
    case atStart => exact ⟨0, Nat.zero_le _, rfl, fun j hj => absurd hj (by omega), Below.refl _ _⟩
    case round =>
      obtain ⟨k, hk, rfl, hall, hb⟩ := hrel
      by_cases hlt : k < n
      · obtain ⟨b, rfl, hr⟩ := HV.out.row (by rw [HN.out]; omega)
        have p0 := (hr.keep hb).dat k (by rw [HN.out]; exact hlt)
        have p1 := (hr.keep hb).saf k (by rw [HN.out]; exact hlt)
        have hat := totF_at l k (by rw [HN.out]; exact hlt)
        have HBAD := hideB2 (fun h => fieldsQ_bad (l := l) (k := k) (by rw [HN.out]; exact hlt) h)
        have HALL := hideB2 hall
        have HBW := hideB2 hb
        clear hr hall hb
        generalize hx : fdAt l k = x at *
        have HX := hideB2 hx
        clear hx
        obtain ⟨d, s⟩ := x
        simp only at p0 p1 hat
        have hds : d.size ≤ maxLen ∧ s.size ≤ maxLen := by simp only [szF] at hat; unfold maxLen; omega
        have HDS := hideB2 hds
        clear hat hds
        cases hq : fieldQ (d, s)
        · have HF := hideB2 (show false = R by rw [← HQ.out]; exact (HBAD.out hq).symm)
          have HQ2 := hideB2 hq
          clear hq HBAD
          go_wp2_with (go_at_call 20; refine (FieldOk_any d s _ HDS.out.1 HDS.out.2).mono ?_; rintro e w2 ⟨rfl, hb2⟩; rw [HQ2.out])
          go_ret
          exact ⟨ret_bool HF.out.symm, below_then HBW.out (below_then (below_a1 wr _) hb2)⟩
        · have HQ2 := hideB2 hq
          clear hq HBAD
          go_wp2_with (go_at_call 20; refine (FieldOk_any d s _ HDS.out.1 HDS.out.2).mono ?_; rintro e w2 ⟨rfl, hb2⟩; rw [HQ2.out])
          refine ⟨⟨k + 1, by omega, by go_num, fun j hj => ?_, below_then HBW.out (below_then (below_a1 wr _) hb2)⟩, by simp [intOf]; omega⟩
          by_cases e : j = k
          · subst e; rw [HX.out]; exact HQ2.out
          · exact HALL.out j (by omega)
      · obtain rfl : k = n := by omega
        have HF := hideB2 (show true = R by rw [← HQ.out]; exact (fieldsQ_all (by rw [HN.out]; exact h0) (fun j hj => hall j (by rw [HN.out] at hj; exact hj))).symm)
        clear hall
        go_wp2
        go_ret
        exact ⟨ret_bool HF.out.symm, hb⟩
  · have HF := hideB2 (show false = R by
      rw [← HQ.out]
      cases hh : fieldsQ l with
      | false => rfl
      | true => have := (fieldsQ_iff.1 hh).1; rw [HN.out] at this; exact absurd this h0)
    have h1 : (20 : Int) < (n : Int) := by omega
    go_enter Tryd.func14, Tryd.ntmps14
    go_wp2
    go_ret
    exact ⟨ret_bool HF.out.symm, Below.refl _ _⟩
set_option maxHeartbeats 2000000 in
theorem sFieldsOk_any (v : Value) (l : List Fd) (w : World) (hv : SlF w v l) (hl : l.length ≤ 1048576) (ht : totF l ≤ 1099511627776) :
    Calls Tryd.prog 21 #[v] w fun e w' => e = .returned (.bool (fieldsQ l)) ∧ Below w.heap.size w w' := by
  obtain ⟨a, c0, rfl⟩ := hv.form
  have HV := hideB2 hv
  clear hv
  generalize hQ : fieldsQ l = R
  have HQ := hideB2 hQ
  clear hQ
  generalize hn : l.length = n at *
  have HN := hideB2 hn
  clear hn
  by_cases h0 : n ≤ 20
  · go_enter Tryd.func21, Tryd.ntmps21
    go_wp2
    go_loopw [3] (fun i wr => ∃ k : Nat, k ≤ n ∧ i = .int .i64 k ∧ (∀ j, j < k → fieldQ (fdAt l j) = true) ∧ Below w.heap.size w wr) (fun i _ => n - (intOf i).toNat)
    case atStart => exact ⟨0, Nat.zero_le _, rfl, fun j hj => absurd hj (by omega), Below.refl _ _⟩
    case round =>
      obtain ⟨k, hk, rfl, hall, hb⟩ := hrel
      by_cases hlt : k < n
      · obtain ⟨b, rfl, hr⟩ := HV.out.row (by rw [HN.out]; omega)
        have p0 := (hr.keep hb).dat k (by rw [HN.out]; exact hlt)
        have p1 := (hr.keep hb).saf k (by rw [HN.out]; exact hlt)
        have hat := totF_at l k (by rw [HN.out]; exact hlt)
        have HBAD := hideB2 (fun h => fieldsQ_bad (l := l) (k := k) (by rw [HN.out]; exact hlt) h)
        have HALL := hideB2 hall
        have HBW := hideB2 hb
        clear hr hall hb
        generalize hx : fdAt l k = x at *
        have HX := hideB2 hx
        clear hx
        obtain ⟨d, s⟩ := x
        simp only at p0 p1 hat
        have hds : d.size ≤ maxLen ∧ s.size ≤ maxLen := by simp only [szF] at hat; unfold maxLen; omega
        have HDS := hideB2 hds
        clear hat hds
        cases hq : fieldQ (d, s)
        · have HF := hideB2 (show false = R by rw [← HQ.out]; exact (HBAD.out hq).symm)
          have HQ2 := hideB2 hq
          clear hq HBAD
          go_wp2_with (go_at_call 22; refine (sFieldOk_any d s _ HDS.out.1 HDS.out.2).mono ?_; rintro e w2 ⟨rfl, hb2⟩; rw [HQ2.out])
          go_ret
          exact ⟨ret_bool HF.out.symm, below_then HBW.out hb2⟩
        · have HQ2 := hideB2 hq
          clear hq HBAD
          go_wp2_with (go_at_call 22; refine (sFieldOk_any d s _ HDS.out.1 HDS.out.2).mono ?_; rintro e w2 ⟨rfl, hb2⟩; rw [HQ2.out])
          refine ⟨⟨k + 1, by omega, by go_num, fun j hj => ?_, below_then HBW.out hb2⟩, by simp [intOf]; omega⟩
          by_cases e : j = k
          · subst e; rw [HX.out]; exact HQ2.out
          · exact HALL.out j (by omega)
      · obtain rfl : k = n := by omega
        have HF := hideB2 (show true = R by rw [← HQ.out]; exact (fieldsQ_all (by rw [HN.out]; exact h0) (fun j hj => hall j (by rw [HN.out] at hj; exact hj))).symm)
        clear hall
        go_wp2
        go_ret
        exact ⟨ret_bool HF.out.symm, hb⟩
  · have HF := hideB2 (show false = R by
      rw [← HQ.out]
      cases hh : fieldsQ l with
      | false => rfl
      | true => have := (fieldsQ_iff.1 hh).1; rw [HN.out] at this; exact absurd this h0)
    have h1 : (20 : Int) < (n : Int) := by omega
    go_enter Tryd.func21, Tryd.ntmps21
    go_wp2
    go_ret
    exact ⟨ret_bool HF.out.symm, Below.refl _ _⟩
/-- A field as a line. -/
def flnF (x : Fd) : ByteArray := ⟨(x.1.data.toList ++ [58, 32] ++ x.2.data.toList).toArray⟩
def ftextB (x : Fd) : ByteArray := if fieldQ x = true then flnF x else ⟨#[]⟩
theorem flnF_eq1 (d s : ByteArray) : d ++ ⟨#[58]⟩ ++ ⟨#[32]⟩ ++ s = flnF (d, s) := by
  apply bytes_ext
  simp [flnF, Go.Joins.data_append]
theorem flnF_eq2 (d s : ByteArray) : d ++ ⟨#[58, 32]⟩ ++ s = flnF (d, s) := by
  apply bytes_ext
  simp [flnF, Go.Joins.data_append]
end Go.Proofs.YtmhohponikolfaaDoor
namespace Go.Proofs.YtmhohponikolfaaDoor
set_option linter.unusedVariables false
set_option linter.unusedSimpArgs false
open Go.RowKit

/-- The value v is a slice of the call's own that holds the texts l; nothing that was there in w0 has turned. -/
structure BufS (w0 w : World) (v : Value) (l : List ByteArray) : Prop where
  below : Below w0.heap.size w0 w
  own : w.ownsRow w0.heap.size 9 1 v l.length (l.map Value.string)

theorem Tryd.infoStr : (Tryd.prog.info? 9).map (fun i => (i.zero, i.size, i.bytes)) = some (some (.string ⟨#[]⟩), 1, 16) := by kernel_rfl

theorem BufS.start (w : World) : BufS w w (.slice none 0 0) [] := ⟨Below.refl _ _, World.ownsRow_nil _ _ _ _⟩
theorem BufS.alloc {w0 w : World} {v : Value} {l : List ByteArray} (h : BufS w0 w v l) (o : Obj) : BufS w0 (w.alloc o) v l :=
  ⟨h.below.alloc h.below.size o, h.own.alloc o⟩
theorem BufS.form {w0 w : World} {v : Value} {l : List ByteArray} (h : BufS w0 w v l) : ∃ (a : Option Addr) (c : Nat), v = .slice a l.length c := by
  rcases h.own.2 with ⟨h1, h2⟩ | ⟨g, cap, cur, h1, _⟩
  · exact ⟨none, 0, by rw [h1, h2]⟩
  · exact ⟨_, _, h1⟩
/-- A call that leaves all old blocks alone leaves the row. -/
theorem BufS.later {w0 w w' : World} {v : Value} {l : List ByteArray} (h : BufS w0 w v l) (hb : Below w.heap.size w w') : BufS w0 w' v l := by
  refine ⟨h.below.trans (hb.mono h.below.size), ?_⟩
  exact h.own.kept (row := none) ⟨hb.os, hb.tape, hb.output, hb.size, fun k hk _ => hb.block k hk⟩ (by
    cases hv : v.ownBlock with
    | none => exact Or.inl rfl
    | some g => exact Or.inr (by intro e; cases e))
/-- The row's cells, where there is one. -/
theorem BufS.cells {w0 w : World} {v : Value} {l : List ByteArray} (h : BufS w0 w v l) (hl : 0 < l.length) : ∃ g cap, v = .slice (some ⟨g, 0, none⟩) l.length cap ∧ w0.heap.size ≤ g ∧ g < w.heap.size ∧ ∀ j, j < l.length → w.cell? ⟨g, j, none⟩ = some (.string (l.getD j ⟨#[]⟩)) := by
  rcases h.own.2 with ⟨h1, h2⟩ | ⟨g, cap, cur, h1, hg, hh, _⟩
  · omega
  · have hlt := (h.own.lt g (by rw [h1]; rfl)).2
    refine ⟨g, cap, h1, hg, hlt, fun j hj => ?_⟩
    have := h.own.cells (g := g) (by rw [h1]; rfl) j (.string l[j]) (by simp [List.getElem?_eq_getElem hj])
    rw [Addr.add_lit, Nat.zero_add] at this
    rw [this]
    simp [List.getD, List.getElem?_eq_getElem hj]
theorem wp_sapp {ops : Array Oper} {rest : List Oper} {o : Oper} {a : Act} {Q : Exit → Act → World → Prop} {w0 W : World} (hgd : o.guard = none) (s x : Operand)
    (ho : o.op = .call { callee := .builtin .append, args := #[s, x], argTypes := #[30, 30] }) (v : Value) (l : List ByteArray) (hs : a.eval s = v) (hbuf : BufS w0 W v l)
    (y : ByteArray) (hx : a.eval x = .slice (some ⟨W.heap.size, 0, none⟩) 1 1) (hlen : l.length ≤ 1073741824)
    (h : ∀ v' W', BufS w0 W' v' (l ++ [y]) → wpList Tryd.prog ops Q rest (a.put o.dst v') W') :
    wpList Tryd.prog ops Q (o :: rest) a (W.alloc (.cells #[.string y] 9)) := by
  obtain ⟨i0, hi, hz0, hz1, hz2⟩ := info_parts Tryd.infoStr
  refine wpList_append_own _ hgd s x 30 ho w0.heap.size 9 i0 (.string ⟨#[]⟩) 1 16 Tryd.underlying30 hi hz0 hz1 hz2 rfl (by decide) v l.length (l.map Value.string) hs (hbuf.own.alloc _) ⟨W.heap.size, 0, none⟩ 1 1 [.string y] hx rfl (cell_one_new _ _ _) (fun u hu => by simp at hu; subst hu; rfl) (by unfold maxLen; omega) (by omega) (by have := hbuf.below.size; simp; omega) ?_
  intro v' W' hown hgrow _
  refine h v' W' ⟨?_, ?_⟩
  · refine (hbuf.alloc _).below.grown hgrow (by have := hbuf.below.size; simp; omega) ?_
    intro k hk
    exact (hbuf.own.lt k hk).1
  · rw [List.length_append, List.length_singleton, List.map_append]
    exact hown
end Go.Proofs.YtmhohponikolfaaDoor
namespace Go.Proofs.YtmhohponikolfaaDoor
set_option linter.unusedVariables false
set_option linter.unusedSimpArgs false
open Go.RowKit

theorem fold_round {s : ByteArray} {k : Nat} {w wr : World} (hlt : k < s.size) (hrow : Hid (Row8 wr w.heap.size (foldTo s k))) (hbel : Hid (Below w.heap.size w wr)) :
    Row8 (wr.setCell ⟨w.heap.size, k, none⟩ (.int .u8 (lowI ((nums s).getD k 0)))) w.heap.size (foldTo s (k + 1)) ∧ Below w.heap.size w (wr.setCell ⟨w.heap.size, k, none⟩ (.int .u8 (lowI ((nums s).getD k 0)))) := by
  refine ⟨?_, hbel.out.setCell (by simp) _⟩
  rw [foldTo_succ s k hlt]
  exact hrow.out.set k _ (by rw [foldTo_length]; exact hlt)

set_option maxHeartbeats 1000000 in
theorem Fold_any (s : ByteArray) (w : World) (hs : s.size ≤ maxLen) :
    Calls Tryd.prog 27 #[.string s] w fun e w' => e = .returned (.string (foldB s)) ∧ Below w.heap.size w w' := by
  unfold maxLen at hs
  have kc := fun w => Lib.run_convert_string_bytes (P := Tryd.prog) w 9 22 5 s Tryd.underlying9 Tryd.underlying22 Tryd.underlying5
  have HR : Hid (Row8 (Lib.bytesWorld w 5 s) w.heap.size (nums s)) := row8_bytes w 5 s
  have HB : Hid (Below w.heap.size w (Lib.bytesWorld w 5 s)) := below_bytes w 5 s
  go_enter Tryd.func27, Tryd.ntmps27
  go_wp2
  generalize Lib.bytesWorld w 5 s = W1 at HR HB
  clear kc
  go_loopw [9] (fun i wr => ∃ k : Nat, k ≤ s.size ∧ i = .int .i64 k ∧ Row8 wr w.heap.size (foldTo s k) ∧ Below w.heap.size w wr) (fun i _ => s.size - (intOf i).toNat)
  case atStart => exact ⟨0, Nat.zero_le _, rfl, by rw [foldTo_zero]; exact HR.out, HB.out⟩
  case round =>
    obtain ⟨k, hk, rfl, hrow, hbel⟩ := hrel
    clear HR HB
    by_cases hlt : k < s.size
    · have hc := hrow.cell k (by rw [foldTo_length]; exact hlt)
      have hf := hrow.free k (by rw [foldTo_length]; exact hlt)
      rw [foldTo_at s k hlt] at hc
      have hbd := nums_bd s k
      have R := fold_round hlt hrow hbel
      have HRR : Hid (Row8 (wr.setCell ⟨w.heap.size, k, none⟩ (.int .u8 (lowI ((nums s).getD k 0)))) w.heap.size (foldTo s (k + 1)) ∧ Below w.heap.size w (wr.setCell ⟨w.heap.size, k, none⟩ (.int .u8 (lowI ((nums s).getD k 0))))) := R
      clear hrow hbel R
      generalize (nums s).getD k 0 = x at *
      go_wp2_with (go_at_call 45; refine (smallByte_any _ _ (by omega) (by omega)).mono ?_; rintro e w' ⟨rfl, rfl⟩)
      go_roundw
      case rel => exact ⟨k + 1, by omega, by go_num, HRR.out.1, HRR.out.2⟩
      case measure => simp [intOf]; omega
    · obtain rfl : k = s.size := by omega
      have kb := hrow.text (P := Tryd.prog) 22 5 9 s.size (grownCap w s.size 0 5) (foldTo_length s s.size) Tryd.underlying22 Tryd.underlying5 Tryd.underlying9
      rw [foldTo_all] at kb
      go_wp2
      go_ret
      exact ⟨rfl, hbel⟩
set_option maxHeartbeats 1000000 in
theorem sFold_any (s : ByteArray) (w : World) (hs : s.size ≤ maxLen) :
    Calls Tryd.prog 46 #[.string s] w fun e w' => e = .returned (.string (foldB s)) ∧ Below w.heap.size w w' := by
  unfold maxLen at hs
  have kc := fun w => Lib.run_convert_string_bytes (P := Tryd.prog) w 9 22 5 s Tryd.underlying9 Tryd.underlying22 Tryd.underlying5
  have HR : Hid (Row8 (Lib.bytesWorld w 5 s) w.heap.size (nums s)) := row8_bytes w 5 s
  have HB : Hid (Below w.heap.size w (Lib.bytesWorld w 5 s)) := below_bytes w 5 s
  go_enter Tryd.func46, Tryd.ntmps46
  go_wp2
  generalize Lib.bytesWorld w 5 s = W1 at HR HB
  clear kc
  go_loopw [4] (fun i wr => ∃ k : Nat, k ≤ s.size ∧ i = .int .i64 k ∧ Row8 wr w.heap.size (foldTo s k) ∧ Below w.heap.size w wr) (fun i _ => s.size - (intOf i).toNat)
  case atStart => exact ⟨0, Nat.zero_le _, rfl, by rw [foldTo_zero]; exact HR.out, HB.out⟩
  case round =>
    obtain ⟨k, hk, rfl, hrow, hbel⟩ := hrel
    clear HR HB
    by_cases hlt : k < s.size
    · have hc := hrow.cell k (by rw [foldTo_length]; exact hlt)
      have hf := hrow.free k (by rw [foldTo_length]; exact hlt)
      rw [foldTo_at s k hlt] at hc
      have hbd := nums_bd s k
      have R := fold_round hlt hrow hbel
      have HRR : Hid (Row8 (wr.setCell ⟨w.heap.size, k, none⟩ (.int .u8 (lowI ((nums s).getD k 0)))) w.heap.size (foldTo s (k + 1)) ∧ Below w.heap.size w (wr.setCell ⟨w.heap.size, k, none⟩ (.int .u8 (lowI ((nums s).getD k 0))))) := R
      clear hrow hbel R
      generalize (nums s).getD k 0 = x at *
      go_wp2_with (go_at_call 59; refine (l1lower_any _ _ (by omega) (by omega)).mono ?_; rintro e w' ⟨rfl, rfl⟩)
      go_roundw
      case rel => exact ⟨k + 1, by omega, by go_num, HRR.out.1, HRR.out.2⟩
      case measure => simp [intOf]; omega
    · obtain rfl : k = s.size := by omega
      have kb := hrow.text (P := Tryd.prog) 22 5 9 s.size (grownCap w s.size 0 5) (foldTo_length s s.size) Tryd.underlying22 Tryd.underlying5 Tryd.underlying9
      rw [foldTo_all] at kb
      go_wp2
      go_ret
      exact ⟨rfl, hbel⟩
set_option maxHeartbeats 1000000 in
theorem SameFold_any (a b : ByteArray) (w : World) (ha : a.size ≤ maxLen) (hb : b.size ≤ maxLen) :
    Calls Tryd.prog 25 #[.string a, .string b] w fun e w' => e = .returned (.bool (eqB (foldB a) (foldB b))) ∧ Below w.heap.size w w' := by
  go_enter Tryd.func25, Tryd.ntmps25
  go_wp2_with fail
  refine (Fold_any a _ ha).mono ?_
  rintro e w1 ⟨rfl, hb1⟩
  go_wp2_with fail
  refine (Fold_any b _ hb).mono ?_
  rintro e w2 ⟨rfl, hb2⟩
  go_wp2
  go_ret
  exact ⟨rfl, hb1.trans (hb2.mono hb1.size)⟩
set_option maxHeartbeats 1000000 in
theorem sSameFold_any (a b : ByteArray) (w : World) (ha : a.size ≤ maxLen) (hb : b.size ≤ maxLen) :
    Calls Tryd.prog 28 #[.string a, .string b] w fun e w' => e = .returned (.bool (eqB (foldB a) (foldB b))) ∧ Below w.heap.size w w' := by
  go_enter Tryd.func28, Tryd.ntmps28
  go_wp2_with fail
  refine (sFold_any a _ ha).mono ?_
  rintro e w1 ⟨rfl, hb1⟩
  go_wp2_with fail
  refine (sFold_any b _ hb).mono ?_
  rintro e w2 ⟨rfl, hb2⟩
  go_wp2
  go_ret
  exact ⟨rfl, hb1.trans (hb2.mono hb1.size)⟩
end Go.Proofs.YtmhohponikolfaaDoor
namespace Go.Proofs.YtmhohponikolfaaDoor
set_option linter.unusedVariables false
set_option linter.unusedSimpArgs false
open Go.RowKit

/-- A row of texts, as a reader wants it. -/
def RowS (w : World) (a : Option Addr) (l : List ByteArray) : Prop := l = [] ∨ ∃ g, a = some ⟨g, 0, none⟩ ∧ ∀ j, j < l.length → w.cell? ⟨g, j, none⟩ = some (.string (l.getD j ⟨#[]⟩))
theorem BufS.rows {w0 w : World} {v : Value} {l : List ByteArray} (h : BufS w0 w v l) : ∃ a c, v = .slice a l.length c ∧ RowS w a l := by
  rcases Nat.eq_zero_or_pos l.length with h0 | h0
  · obtain ⟨a, c, rfl⟩ := h.form
    exact ⟨a, c, rfl, Or.inl (List.eq_nil_of_length_eq_zero h0)⟩
  · obtain ⟨g, cap, rfl, _, _, hc⟩ := h.cells h0
    exact ⟨_, _, rfl, Or.inr ⟨g, rfl, hc⟩⟩
theorem RowS.later {w w' : World} {a : Option Addr} {l : List ByteArray} (h : RowS w a l) (hb : Below w.heap.size w w') : RowS w' a l := by
  rcases h with h | ⟨g, rfl, hc⟩
  · exact Or.inl h
  · refine Or.inr ⟨g, rfl, fun j hj => ?_⟩
    have hlt := World.block_lt_of_cell? _ _ (hc j hj)
    exact (hb.cell hlt).trans (hc j hj)
theorem RowS.at {w : World} {a : Option Addr} {l : List ByteArray} (h : RowS w a l) (hl : 0 < l.length) : ∃ g, a = some ⟨g, 0, none⟩ ∧ ∀ j, j < l.length → w.cell? ⟨g, j, none⟩ = some (.string (l.getD j ⟨#[]⟩)) := by
  rcases h with rfl | h
  · simp at hl
  · exact h
theorem Below.drewNs {B : Nat} {a w : World} (h : Below B a w) (n : Nat) : Below B a (w.drewN n) := ⟨h.os, h.tape, h.output, h.size, h.block⟩
theorem neT_self (t : ByteArray) : (t.toList != t.toList) = false := by simp
end Go.Proofs.YtmhohponikolfaaDoor
namespace Go.Proofs.YtmhohponikolfaaDoor
set_option linter.unusedVariables false
set_option linter.unusedSimpArgs false
open Go.RowKit
theorem valuesL_yes {l : List Fd} {n : ByteArray} (h : fieldsQ l = true) : valuesL l n = valsOf l n := by unfold valuesL; rw [if_pos h]
theorem valuesL_no {l : List Fd} {n : ByteArray} (h : fieldsQ l = false) : valuesL l n = [] := by unfold valuesL; rw [h]; rfl
theorem BufS.set2 {w0 w : World} {v : Value} {l : List ByteArray} (h : BufS w0 w v l) {g : Nat} {x y : Value} (hb : Below w.heap.size w ((w.setCell ⟨g, 0, none⟩ x).setCell ⟨g, 1, none⟩ y)) : BufS w0 ((w.setCell ⟨g, 0, none⟩ x).setCell ⟨g, 1, none⟩ y) v l := h.later hb
set_option maxHeartbeats 2000000 in
theorem Values_any (v : Value) (l : List Fd) (n : ByteArray) (w : World) (hv : SlF w v l) (hl : l.length ≤ 1048576) (ht : totF l ≤ 1099511627776) (hn : n.size ≤ maxLen) :
    Calls Tryd.prog 8 #[v, .string n] w fun e w' => ∃ v', e = .returned v' ∧ BufS w w' v' (valuesL l n) := by
  obtain ⟨a, c0, rfl⟩ := hv.form
  cases hq : fieldsQ l
  · have HF := hideB2 (valuesL_no (n := n) hq)
    have HQ := hideB2 hq
    clear hq
    go_enter Tryd.func8, Tryd.ntmps8
    go_wp2_with (go_at_call 14; refine (FieldsOk_any _ l _ hv hl ht).mono ?_; rintro e w2 ⟨rfl, hb2⟩; rw [HQ.out])
    go_ret
    exact ⟨_, rfl, by rw [HF.out]; exact (BufS.start w).later hb2⟩
  · have HF := hideB2 (valuesL_yes (n := n) hq)
    have HQ := hideB2 hq
    have HV := hideB2 hv
    have hl20 := (fieldsQ_iff.1 hq).1
    have HFQ := hideB2 (fun j (hj : j < l.length) => fieldQ_sizes (fieldsQ_at hq hj))
    have HNN := hideB2 hn
    clear hq hl hn
    generalize hm : l.length = m at *
    have HM := hideB2 hm
    clear hm hv
    go_enter Tryd.func8, Tryd.ntmps8
    go_wp2_with (go_at_call 14; refine (FieldsOk_any _ l _ HV.out (by rw [HM.out]; omega) ht).mono ?_; rintro e w2 ⟨rfl, hb2⟩; rw [HQ.out])
    go_loopw [5, 13] (fun o i wr => ∃ k : Nat, k ≤ m ∧ i = .int .i64 k ∧ BufS w wr o (valsOf (l.take k) n)) (fun _ i _ => m - (intOf i).toNat)
    case atStart => exact ⟨0, Nat.zero_le _, rfl, (BufS.start w).later hb2⟩
    case round =>
      obtain ⟨k, hk, rfl, hbuf⟩ := hrel
      by_cases hlt : k < m
      · have hklt : k < l.length := by rw [HM.out]; exact hlt
        obtain ⟨b, rfl, hr⟩ := HV.out.row (by omega)
        have p0 := (hr.later hbuf.below hr.lt).dat k hklt
        have p1 := (hr.later hbuf.below hr.lt).saf k hklt
        have hsz := HFQ.out k (by rw [HM.out] at hklt; exact hklt)
        have HNX := hideB2 (valsOf_next l n k hklt)
        have hvl : (valsOf (l.take k) n).length ≤ 20 := by
          have := valsOf_len (l.take k) n
          rw [List.length_take] at this; omega
        have HVL := hideB2 hvl
        clear hr hvl hb2
        generalize hx : fdAt l k = x at *
        clear hx
        obtain ⟨d, s⟩ := x
        simp only at p0 p1 hsz
        have hd : d.size ≤ maxLen := by unfold maxLen; omega
        have HD := hideB2 hd
        have hs : s.size ≤ 190 := hsz.2
        have A1 := hideB2 (Blk.new wr #[.string d, .string s] 25)
        have Bf := hideB2 (hbuf.alloc (.cells #[.string d, .string s] 25))
        clear hsz hd hklt
        cases hc : nameIs n (d, s)
        · have HC := hideB2 (show eqB (foldB d) (foldB n) = false from hc)
          rw [hc] at HNX
          clear hc
          go_wp2_with (go_at_call 25; refine (SameFold_any d n _ HD.out HNN.out).mono ?_; rintro e w3 ⟨rfl, hb3⟩; rw [HC.out])
          refine ⟨⟨k + 1, by omega, by go_num, ?_⟩, by simp [intOf]; omega⟩
          rw [HNX.out]
          have := Bf.out.later hb3
          simpa using this
        · have HC := hideB2 (show eqB (foldB d) (foldB n) = true from hc)
          rw [hc] at HNX
          clear hc
          generalize valsOf (l.take k) n = L at *
          go_wp2_with (first | (go_at_call 25; refine (SameFold_any d n _ HD.out HNN.out).mono ?_; rintro e w3 ⟨rfl, hb3⟩; rw [HC.out]; obtain ⟨q0, q1⟩ := (A1.out.later hb3).c2; have hbuf3 := Bf.out.later hb3) | (at_builtin; refine wp_sapp rfl (.tmp 21) (.tmp 24) rfl _ _ rfl hbuf3 s rfl (by have := HVL.out; omega) ?_; intro v2 W2 hbuf4))
          refine ⟨⟨k + 1, by omega, by go_num, ?_⟩, by simp [intOf]; omega⟩
          rw [HNX.out]
          exact hbuf4
      · obtain rfl : k = m := by omega
        have HE := hideB2 (show valsOf (l.take k) n = valuesL l n by rw [HF.out, List.take_of_length_le (by rw [HM.out]; exact Nat.le_refl _)])
        rw [HE.out] at hbuf
        clear HE
        go_wp2
        go_ret
        exact ⟨_, rfl, hbuf⟩
end Go.Proofs.YtmhohponikolfaaDoor
namespace Go.Proofs.YtmhohponikolfaaDoor
set_option linter.unusedVariables false
set_option linter.unusedSimpArgs false
open Go.RowKit
def getB (l : List Fd) (n : ByteArray) : ByteArray := (valuesL l n).getD 0 ⟨#[]⟩
def getO (l : List Fd) (n : ByteArray) : Bool := decide (0 < (valuesL l n).length)
set_option maxHeartbeats 1000000 in
theorem Get_any (v : Value) (l : List Fd) (n : ByteArray) (w : World) (hv : SlF w v l) (hl : l.length ≤ 1048576) (ht : totF l ≤ 1099511627776) (hn : n.size ≤ maxLen) :
    Calls Tryd.prog 9 #[v, .string n] w fun e w' => e = .returned (.tuple #[.string (getB l n), .bool (getO l n)]) ∧ Below w.heap.size w w' := by
  have HV := hideB2 (Values_any v l n w hv hl ht hn)
  have hm := valuesL_len l n
  unfold getB getO
  generalize valuesL l n = L at *
  obtain ⟨a, c0, rfl⟩ := hv.form
  go_enter Tryd.func9, Tryd.ntmps9
  go_wp2_with fail
  refine HV.out.mono ?_
  rintro e w1 ⟨v1, rfl, hb1⟩
  obtain ⟨a1, c1, rfl, hr1⟩ := hb1.rows
  have HB := hideB2 hb1.below
  by_cases h0 : 0 < L.length
  · obtain ⟨g, rfl, hc⟩ := hr1.at h0
    have p0 := hc 0 h0
    have h1 : ((L.length : Int) == 0) = false := by rw [beq_eq_false_iff_ne]; omega
    have HD := hideB2 (decide_eq_true h0)
    generalize hx : L.getD 0 ⟨#[]⟩ = x at *
    have HX := hideB2 hx
    clear hx
    clear hc hb1 hr1 HV
    go_wp2
    go_ret2
    exact ⟨ret_sb HX.out HD.out, HB.out⟩
  · obtain rfl : L = [] := List.eq_nil_of_length_eq_zero (by omega)
    clear hb1 hr1 HV
    go_wp2
    go_ret2
    exact ⟨rfl, HB.out⟩
/-- Where the first ':' stands, or -1. -/
def idxC (s : ByteArray) : Int := Lib.indexByte s.data.toList 58
theorem idxC_some {s : ByteArray} {i : Nat} (h : idxC s = (i : Int)) : i < s.size ∧ at8 s i = 58 ∧ ∀ j, j < i → at8 s j ≠ 58 := by
  obtain ⟨h1, h2⟩ := Lib.indexByte_some h
  have hi : i < s.data.toList.length := (List.getElem?_eq_some_iff.1 h1).1
  rw [len_data] at hi
  refine ⟨hi, by unfold at8; rw [List.getD, h1]; rfl, fun j hj he => h2 j hj ?_⟩
  have hj' : j < s.data.toList.length := by rw [len_data]; omega
  unfold at8 at he
  rw [List.getD, List.getElem?_eq_getElem hj'] at he
  rw [List.getElem?_eq_getElem hj']
  simpa using he
theorem idxC_none {s : ByteArray} (h : idxC s = -1) : ∀ j, j < s.size → at8 s j ≠ 58 := by
  intro j hj he
  have hj' : j < s.data.toList.length := by rw [len_data]; omega
  refine Lib.indexByte_none h j ?_
  unfold at8 at he
  rw [List.getD, List.getElem?_eq_getElem hj'] at he
  rw [List.getElem?_eq_getElem hj']
  simpa using he
theorem idxC_cases (s : ByteArray) : idxC s = -1 ∨ ∃ i : Nat, idxC s = (i : Int) ∧ i < s.size := by
  have h := Lib.indexByte_ge s.data.toList 58
  by_cases h1 : idxC s = -1
  · exact .inl h1
  · right
    have h2 : -1 ≤ idxC s := h
    have h3 : idxC s = ((idxC s).toNat : Int) := by omega
    exact ⟨(idxC s).toNat, h3, (idxC_some h3).1⟩
theorem idxC_of {s : ByteArray} {i : Nat} (h1 : i < s.size) (h2 : at8 s i = 58) (h3 : ∀ j, j < i → at8 s j ≠ 58) : idxC s = (i : Int) := by
  rcases idxC_cases s with h | ⟨k, hk, _⟩
  · exact absurd h2 (idxC_none h i h1)
  · obtain ⟨g1, g2, g3⟩ := idxC_some hk
    rcases Nat.lt_trichotomy k i with h | h | h
    · exact absurd g2 (h3 k h)
    · rw [hk, h]
    · exact absurd h2 (g3 i h)
/-- What a line holds whose first ':' stands at i. -/
def cutF (s : ByteArray) (i : Nat) : Fd := (s.extract 0 i, trimB (s.extract (i + 1) s.size))
def readO (s : ByteArray) : Bool := decide (0 ≤ idxC s) && fieldQ (cutF s (idxC s).toNat)
def readF (s : ByteArray) : Fd := if readO s = true then cutF s (idxC s).toNat else fd0
theorem readO_none {s : ByteArray} (h : idxC s = -1) : readO s = false ∧ readF s = fd0 := by
  have h1 : readO s = false := by unfold readO; rw [h]; rfl
  exact ⟨h1, by unfold readF; rw [h1]; rfl⟩
theorem readO_some {s : ByteArray} {i : Nat} (h : idxC s = (i : Int)) : readO s = fieldQ (cutF s i) ∧ readF s = if fieldQ (cutF s i) = true then cutF s i else fd0 := by
  have h1 : readO s = fieldQ (cutF s i) := by unfold readO; rw [h]; simp
  refine ⟨h1, ?_⟩
  unfold readF; rw [h1, h]; rfl
theorem cutF_sizes (s : ByteArray) (i : Nat) (h : s.size ≤ maxLen) : (cutF s i).1.size ≤ maxLen ∧ (cutF s i).2.size ≤ maxLen := by
  constructor
  · show (s.extract 0 i).size ≤ _
    rw [ByteArray.size_extract]; omega
  · have h1 := trimB_size (s.extract (i + 1) s.size)
    rw [ByteArray.size_extract] at h1
    show (trimB _).size ≤ _
    omega
theorem cutF_big {s : ByteArray} {i : Nat} (h : 40 < i) (hi : i < s.size) : fieldQ (cutF s i) = false := by
  refine fieldQ_no1 ?_
  show ¬ ((s.extract 0 i).size : Int) ≤ 40
  rw [ByteArray.size_extract]; omega
set_option maxRecDepth 100000 in
set_option maxHeartbeats 1000000 in
theorem IndexByte_any (s : ByteArray) (c : Int) (w : World) :
    Calls Tryd.prog 71 #[.string s, .int .u8 c] w fun e w' => e = .returned (.int .i64 (Lib.indexByte s.data.toList c.toNat.toUInt8)) ∧ w' = w := by
  go_enter Tryd.func71, Tryd.ntmps71
  go_wp2
  rw [run_callFunc_extern Tryd.func89 (by kernel_rfl) (by kernel_rfl) (by kernel_rfl) (e := Extern.BytealgIndexByte.indexByte) (by kernel_rfl), Lib.run_indexByteString]
  simp only [Result.andThen]
  rw [Oper.upon_value]
  go_wp2
  go_ret
  exact ⟨rfl, rfl⟩
set_option maxRecDepth 100000 in
set_option maxHeartbeats 1000000 in
theorem Index1_any (s : ByteArray) (w : World) :
    Calls Tryd.prog 65 #[.string s, .string ⟨#[58]⟩] w fun e w' => e = .returned (.int .i64 (idxC s)) ∧ w' = w := by
  cases h : eqB ⟨#[58]⟩ s
  · have h1 : (([58] : List UInt8) == s.toList) = false := by
      rw [show ([58] : List UInt8) = (⟨#[58]⟩ : ByteArray).toList by rw [ByteArray.toList_eq]]
      exact h
    have HI := hideB2 (fun W => IndexByte_any s 58 W)
    clear h
    go_enter Tryd.func65, Tryd.ntmps65
    go_wp2_with (go_at_call 71; refine (HI.out _).mono ?_; rintro e w' ⟨rfl, rfl⟩)
    go_ret
    exact ⟨rfl, rfl⟩
  · have h1 : (([58] : List UInt8) == s.toList) = true := by
      rw [show ([58] : List UInt8) = (⟨#[58]⟩ : ByteArray).toList by rw [ByteArray.toList_eq]]
      exact h
    have HE := hideB2 (show idxC s = 0 by rw [← eqB_iff.1 h]; unfold idxC; simp [Lib.indexByte])
    clear h
    go_enter Tryd.func65, Tryd.ntmps65
    go_wp2
    go_ret
    exact ⟨ret_int HE.out, rfl⟩
set_option maxHeartbeats 1000000 in
theorem Cut0_none (s : ByteArray) (w : World) (hi : idxC s = -1) :
    Calls Tryd.prog 52 #[.string s, .string ⟨#[58]⟩] w fun e w' => e = .returned (.tuple #[.string s, .string ⟨#[]⟩, .bool false]) ∧ Below w.heap.size w w' := by
  have HI := hideB2 hi
  clear hi
  go_enter Tryd.func52, Tryd.ntmps52
  go_wp2_with (go_at_call 65; refine (Index1_any _ _).mono ?_; rintro e w' ⟨rfl, rfl⟩; rw [HI.out])
  go_ret3
  exact ⟨rfl, Below.refl _ _⟩
set_option maxHeartbeats 1000000 in
theorem Cut0_some (s : ByteArray) (i : Nat) (w : World) (hi : idxC s = (i : Int)) (hlt : i < s.size) (hs : s.size ≤ maxLen) :
    Calls Tryd.prog 52 #[.string s, .string ⟨#[58]⟩] w fun e w' => e = .returned (.tuple #[.string (s.extract 0 i), .string (s.extract (i + 1) s.size), .bool true]) ∧ Below w.heap.size w w' := by
  have HI := hideB2 hi
  unfold maxLen at hs
  clear hi
  have e1 : IntKind.i64.wrap ((i : Int) + 1) = (i : Int) + 1 := by rw [IntKind.wrap_i64]; omega
  have c0 : (0 : Int) ≤ (i : Int) := by omega
  have c1 : (i : Int) ≤ (s.size : Int) := by omega
  have c2 : (0 : Int) ≤ (i : Int) + 1 := by omega
  have c3 : (i : Int) + 1 ≤ (s.size : Int) := by omega
  go_enter Tryd.func52, Tryd.ntmps52
  go_wp2_with (go_at_call 65; refine (Index1_any _ _).mono ?_; rintro e w' ⟨rfl, rfl⟩; rw [HI.out])
  go_region
  go_wp2
  go_ret3
  exact ⟨rfl, (Below.refl _ _).drew⟩
set_option maxHeartbeats 1000000 in
theorem Cut_none (s : ByteArray) (w : World) (hi : idxC s = -1) :
    Calls Tryd.prog 39 #[.string s, .string ⟨#[58]⟩] w fun e w' => e = .returned (.tuple #[.string s, .string ⟨#[]⟩, .bool false]) ∧ Below w.heap.size w w' := by
  have HC := hideB2 (fun W => Cut0_none s W hi)
  clear hi
  go_enter Tryd.func39, Tryd.ntmps39
  go_wp2_with (go_at_call 52; refine (HC.out _).mono ?_; rintro e w' ⟨rfl, hb⟩)
  go_ret3
  exact ⟨rfl, hb⟩
set_option maxHeartbeats 1000000 in
theorem Cut_some (s : ByteArray) (i : Nat) (w : World) (hi : idxC s = (i : Int)) (hlt : i < s.size) (hs : s.size ≤ maxLen) :
    Calls Tryd.prog 39 #[.string s, .string ⟨#[58]⟩] w fun e w' => e = .returned (.tuple #[.string (s.extract 0 i), .string (s.extract (i + 1) s.size), .bool true]) ∧ Below w.heap.size w w' := by
  have HC := hideB2 (fun W => Cut0_some s i W hi hlt hs)
  clear hi
  generalize s.extract 0 i = x at *
  generalize s.extract (i + 1) s.size = y at *
  go_enter Tryd.func39, Tryd.ntmps39
  go_wp2_with (go_at_call 52; refine (HC.out _).mono ?_; rintro e w' ⟨rfl, hb⟩)
  go_ret3
  exact ⟨rfl, hb⟩
theorem Tryd.infoField : (Tryd.prog.info? 25).map (·.size) = some 2 := by kernel_rfl
theorem below_alloc' {B : Nat} {w0 w : World} (h : Below B w0 w) (hB : B ≤ w0.heap.size) (o : Obj) : Below B w0 (w.alloc o) := h.alloc (Nat.le_trans hB h.size) o
set_option maxHeartbeats 1000000 in
theorem ReadField_any (s : ByteArray) (w : World) (hs : s.size ≤ maxLen) :
    Calls Tryd.prog 23 #[.string s] w fun e w' => e = .returned (.tuple #[.agg #[.string (readF s).1, .string (readF s).2], .bool (readO s)]) ∧ Below w.heap.size w w' := by
  have HB1 := hideB2 (below_a1 w (.cells #[.string ⟨#[]⟩, .string ⟨#[]⟩] 25))
  have A1 := hideB2 (Blk.new w #[.string ⟨#[]⟩, .string ⟨#[]⟩] 25)
  rcases idxC_cases s with hi | ⟨i, hi, hlt⟩
  · obtain ⟨e1, e2⟩ := readO_none hi
    rw [e1, e2]
    have HC := hideB2 (fun W => Cut_none s W hi)
    have HT := hideB2 (fun W => Trim_any ⟨#[]⟩ W (by decide))
    clear hi e1 e2
    go_enter Tryd.func23, Tryd.ntmps23
    go_wp2_with fail
    refine (HC.out _).mono ?_
    rintro e w1 ⟨rfl, hb1⟩
    have A2 := A1.out.later hb1
    obtain ⟨p0, p1⟩ := A2.c2
    have f0 := A2.free 0
    have f1 := A2.free 1
    have hlt0 := A2.lt
    have HB := hideB2 (below_then HB1.out hb1)
    have HA2 := hideB2 A2
    clear hb1 A2
    go_wp2_with (go_at_call 40; refine (HT.out _).mono ?_; rintro e w' ⟨rfl, rfl⟩)
    refine bodyPost_ret (results_cellT rfl _ _ _ rfl ((HA2.out.set2 _ _).alloc _) Tryd.underlying25 Tryd.infoField) rfl ⟨rfl, ?_⟩
    exact below_alloc' (below_set2 HB.out (Nat.le_refl _) _ _) (Nat.le_refl _) _
  · obtain ⟨e1, e2⟩ := readO_some hi
    rw [e1, e2]
    have HC := hideB2 (fun W => Cut_some s i W hi hlt hs)
    have HT := hideB2 (fun W => Trim_any (s.extract (i + 1) s.size) W (by rw [ByteArray.size_extract]; omega))
    have hsz := cutF_sizes s i hs
    unfold cutF at hsz
    unfold cutF
    clear hi e1 e2
    generalize s.extract 0 i = d at *
    generalize s.extract (i + 1) s.size = y at *
    generalize trimB y = t at *
    simp only at hsz
    have HS := hideB2 hsz
    have HQ := hideB2 (fun W => FieldOk_any d t W hsz.1 hsz.2)
    clear hsz hs
    generalize fieldQ (d, t) = q at *
    go_enter Tryd.func23, Tryd.ntmps23
    go_wp2_with fail
    refine (HC.out _).mono ?_
    rintro e w1 ⟨rfl, hb1⟩
    have A2 := A1.out.later hb1
    have hlt0 := A2.lt
    have HB := hideB2 (below_then HB1.out hb1)
    have HA2 := hideB2 A2
    clear hb1 A2
    go_wp2_with (first | (go_at_call 40; refine (HT.out _).mono ?_; rintro e w' ⟨rfl, rfl⟩) | fail)
    have N2 := Blk.new w' #[.string d, .string t] 25
    refine (HQ.out _).mono ?_
    rintro e w2 ⟨rfl, hb2⟩
    have N3 := N2.later hb2
    have A3 := (HA2.out.alloc (.cells #[.string d, .string t] 25)).later hb2
    obtain ⟨p0, p1⟩ := A3.c2
    have f0 := A3.free 0
    have f1 := A3.free 1
    obtain ⟨q0, q1⟩ := N3.c2
    have HB3 := hideB2 (below_then (below_alloc' HB.out (Nat.le_refl _) (.cells #[.string d, .string t] 25)) hb2)
    have HA3 := hideB2 A3
    clear N2 N3 A3 hb2 HB HA2
    cases q
    · go_wp2
      refine bodyPost_ret (results_cellT rfl _ _ _ rfl (HA3.out.set2 _ _) Tryd.underlying25 Tryd.infoField) rfl ⟨rfl, ?_⟩
      exact below_set2 HB3.out (Nat.le_refl _) _ _
    · go_wp2
      refine bodyPost_ret (results_cellT rfl _ _ _ rfl (HA3.out.set2 _ _) Tryd.underlying25 Tryd.infoField) rfl ⟨rfl, ?_⟩
      exact below_set2 HB3.out (Nat.le_refl _) _ _
end Go.Proofs.YtmhohponikolfaaDoor
namespace Go.Proofs.YtmhohponikolfaaDoor
set_option linter.unusedVariables false
set_option linter.unusedSimpArgs false
open Go
section
variable {P : Program} {md : Region.Mode} {ops : Array Oper} {C : World → Prop}
/-- No operation from n on comes up while one of k0 .. n - 1 has not. -/
def Waits (md : Region.Mode) (ops : Array Oper) (k0 n : Nat) : Prop :=
  ∀ up, HeadInv md ops n up → ∀ i, k0 ≤ i → i < n → up.getD i true = false → ∀ t, n ≤ t → t ∉ Region.ready md ops up
/-- The operations below n, in whatever order; where f of them have come up, L. -/
def Hd (P : Program) (md : Region.Mode) (ops : Array Oper) (C : World → Prop) (n : Nat) (L : Array Bool → Act → Prop) : Nat → Array Bool → Act → Prop
  | 0 => L
  | f + 1 => fun up a => (∃ i, i ∈ Region.ready md ops up) ∧ ∀ i ∈ Region.ready md ops up, i < n ∧ qOp P ops C i (Hd P md ops C n L f (up.setIfInBounds i true)) a
theorem Hd.wp {n g : Nat} {L : Array Bool → Act → Prop} {Q : Exit → Act → World → Prop} (hL : ∀ up a w, C w → L up a → wpAny P md ops Q g up a w) (f : Nat) :
    ∀ up a w, C w → Hd P md ops C n L f up a → wpAny P md ops Q (f + g) up a w := by
  induction f with
  | zero => intro up a w hw h; rw [Nat.zero_add]; exact hL up a w hw h
  | succ f ih =>
    intro up a w hw ⟨⟨i0, h0⟩, h⟩
    have e : f + 1 + g = (f + g) + 1 := by omega
    rw [e]
    refine ⟨fun hn => ?_, fun i hi => wpOp_of_qOp hw (fun a' w' hw' h' => ih _ a' w' hw' h') (h i hi).2⟩
    rw [hn] at h0; cases h0
/-- What may come up now, and yields the same in every world of the class, may be taken first. -/
theorem Hd.first {n i : Nat} {oi : Oper} {v : Value} {L : Array Bool → Act → Prop} (hi : ops[i]? = some oi) (hsel : Region.noSelect ops = true) (k0 : Nat) (hw : Waits md ops k0 n) (hk : k0 ≤ i) (hin : i < n)
    (hL : ∀ up a, L up a → ∀ j ∈ Region.ready md ops up, n ≤ j) (f : Nat) :
    ∀ up a, HeadInv md ops n up → (∀ j oj, ops[j]? = some oj → j ≠ i → up.getD j true = false → (∀ e ∈ oj.after, Region.binds md e = true → e.on ≠ i) → oi.apart ops oj = true) →
      i ∈ Region.ready md ops up → YieldsIn P ops C oi v a → Hd P md ops C n L f (up.setIfInBounds i true) (a.put oi.dst v) → Hd P md ops C n L (f + 1) up a := by
  have hno := Region.noSelect_spec hsel
  induction f with
  | zero =>
    intro up a inv _ hr hy H
    refine ⟨⟨i, hr⟩, fun j hj => ?_⟩
    have hjn : j < n := Nat.lt_of_not_le fun h => hw up inv i hk hin (mem_ready.1 hr).1 j h hj
    refine ⟨hjn, ?_⟩
    by_cases e : j = i
    · subst e; exact hy.qOp hi H
    · have := hL _ _ H j (ready_mono hj e)
      omega
  | succ f ih =>
    intro up a inv hap hr hy H
    refine ⟨⟨i, hr⟩, fun j hj => ?_⟩
    have hjn : j < n := Nat.lt_of_not_le fun h => hw up inv i hk hin (mem_ready.1 hr).1 j h hj
    refine ⟨hjn, ?_⟩
    by_cases e : j = i
    · subst e; exact hy.qOp hi H
    · obtain ⟨hju, oj, hoj, hall⟩ := mem_ready.1 hj
      have hnw : ∀ x ∈ oj.after, Region.binds md x = true → x.on ≠ i := by
        intro x hx hb ho
        have h1 := hall x hx hb
        rw [ho, getD_both (mem_ready.1 hr).1] at h1
        cases h1
      refine qOp_mono (fun a' h' => ?_) (qOp_put hoj (hap j oj hoj e hju hnw) (fun cs b => hno i oi cs b hi) (fun cs b => hno j oj cs b hoj) hy (H.2 j (ready_mono hj e)).2)
      refine ih _ a' (inv.set hj hjn) (fun k ok hk hki hun hw => hap k ok hk hki ?_ hw) (ready_mono hr (Ne.symm e)) h'.1 ?_
      · by_cases ejk : j = k
        · subst ejk; exact hju
        · rwa [getD_set_ne true ejk] at hun
      · rw [Array.setIfInBounds_comm _ _ e]; exact h'.2
theorem Hd.text {n g : Nat} {Lq : Act → Prop} (hsel : Region.noSelect ops = true) (k0 : Nat) (hw : Waits md ops k0 n) (l : List Oper) :
    ∀ k up a, k0 ≤ k → (∀ j, j < l.length → l[j]? = ops[k + j]?) → k + l.length = n → HeadInv md ops n up → Region.lexHead md ops g l.length k up = true → wpQuiet P ops C Lq l a →
      Hd P md ops C n (fun up' a' => Region.seqB md ops g n up' = true ∧ Lq a') l.length up a := by
  induction l with
  | nil =>
    intro k up a _ _ hk _ hB h
    obtain rfl : k = n := by simpa using hk
    exact ⟨by simpa [Region.lexHead] using hB, h⟩
  | cons o l ih =>
    intro k up a hk0 hl hk inv hB h
    have h0 : ops[k]? = some o := by simpa using (hl 0 (by simp)).symm
    simp only [List.length_cons, Region.lexHead, Bool.and_eq_true] at hB
    obtain ⟨⟨hr0, hf⟩, hB'⟩ := hB
    have hr : k ∈ Region.ready md ops up := by simpa using hr0
    simp only [List.length_cons] at hk
    have hq : qOp P ops C k (wpQuiet P ops C Lq l) a := by unfold qOp; rw [h0]; exact h
    obtain ⟨v, hy, hK⟩ := yieldsIn_of_qOp h0 hq
    refine Hd.first h0 hsel k0 hw hk0 (by omega) (fun up' a' hh => seqB_ready hh.1) l.length up a inv (Region.free_spec h0 hf) hr hy ?_
    refine ih (k + 1) _ _ (by omega) (fun j hj => ?_) (by omega) (inv.set hr (by omega)) hB' hK
    have := hl (j + 1) (by simp; omega)
    rw [show k + 1 + j = k + (j + 1) by omega, ← this]
    simp
theorem wp_region_quiet_tail {id : Nat} {Q : Exit → Act → World → Prop} {a : Act} {w : World} {l : List Oper} (C : World → Prop) (n : Nat) (hm : P.follows .mixedOrders = true) (hB : Region.lexTailB .any l.toArray n = true) (hC : C { w with drawn := w.drawn + 1 })
    (h : wpQuiet P l.toArray C (fun a' => ∀ w', C w' → wpList P l.toArray Q (l.drop n) a' w') (l.take n) a) : (Code.region id l.toArray true).wp P Q a w := by
  simp only [Region.lexTailB, Bool.and_eq_true, decide_eq_true_eq] at hB
  obtain ⟨⟨⟨⟨hsel, hn⟩, hs⟩, hc⟩, hlex⟩ := hB
  have hnl : n < l.length := by simpa using hn
  have htl : (l.take n).length = n := by simp; omega
  have hdl : (l.drop n).length = l.toArray.size - n := by simp
  have inv0 : HeadInv .any l.toArray n (Array.replicate l.toArray.size false) :=
    ⟨by simp, fun j oj _ hl => (by rw [getD_replicate_false] at hl; cases hl), fun t _ ht => getD_in (by simpa using ht) (getD_replicate_false _ _)⟩
  have H := Hd.text (C := C) (md := .any) (g := l.toArray.size - n) hsel 0 (fun up inv i _ hin hun t ht => tail_waits hs hc hn inv _ i rfl hin hun t ht) (l.take n) 0 (Array.replicate l.toArray.size false) a (Nat.le_refl _)
    (fun j hj => by rw [htl] at hj; simp [hj]) (by rw [htl]; omega) inv0 (by rw [htl]; exact hlex) h
  have HW := Hd.wp (Q := Q) (g := l.toArray.size - n) (fun up a' w' hw' hh => by
    have := wpAny_of_seq (P := P) (md := .any) (Q' := Q) (l.drop n) n up a' w' (fun j => by simp [List.getElem?_drop]) (by rw [hdl]; exact hh.1) (hh.2 w' hw')
    rwa [hdl] at this) _ _ a _ hC H
  refine wp_region_any hm ?_
  rw [htl, show n + (l.toArray.size - n) = l.toArray.size by omega] at HW
  exact HW
/-- The same, at the class 'w after some draws'. -/
theorem wp_region_draws_tail {id : Nat} {Q : Exit → Act → World → Prop} {a : Act} {w : World} {l : List Oper} (n : Nat) (hm : P.follows .mixedOrders = true) (hB : Region.lexTailB .any l.toArray n = true)
    (h : wpQuiet P l.toArray (fun w' => ∃ m, w' = w.drewN m) (fun a' => ∀ w', (∃ m, w' = w.drewN m) → wpList P l.toArray Q (l.drop n) a' w') (l.take n) a) : (Code.region id l.toArray true).wp P Q a w :=
  wp_region_quiet_tail (fun w' => ∃ m, w' = w.drewN m) n hm hB ⟨1, rfl⟩ h
/-- Each of k0 .. n - 1 is waited for by a later one up to n, each behind n by the next. -/
def lateB (md : Region.Mode) (ops : Array Oper) (k0 n : Nat) : Bool :=
  ((List.range n).all fun i => decide (i < k0) || (List.range (n + 1)).any fun j => decide (i < j) && Region.waitsFor md ops j i) && Region.chainB md ops n
theorem late_waits {k0 n : Nat} (hB : lateB md ops k0 n = true) : Waits md ops k0 n := by
  simp only [lateB, Bool.and_eq_true] at hB
  obtain ⟨hs, hc⟩ := hB
  intro up inv
  have unl : ∀ {x : Nat}, x < ops.size → up.getD x false ≠ true → up.getD x true = false := fun {x} hx h => getD_in (by rw [inv.size]; exact hx) (by simpa using h)
  have key : ∀ d i, n - i = d → k0 ≤ i → i < n → up.getD i true = false → n ∉ Region.ready md ops up := by
    intro d
    induction d using Nat.strongRecOn with
    | _ d ih =>
      intro i hd hk hi hu hr
      obtain ⟨_, o, ho, hall⟩ := mem_ready.1 hr
      have h1 := List.all_eq_true.1 hs i (List.mem_range.2 hi)
      have h2 : ¬ i < k0 := by omega
      simp only [h2, decide_false, Bool.false_or, List.any_eq_true, Bool.and_eq_true, decide_eq_true_eq] at h1
      obtain ⟨j, hjm, hij, hwj⟩ := h1
      have hjn : j ≤ n := by have := List.mem_range.1 hjm; omega
      obtain ⟨oj, hoj, e, he, hbd, hon⟩ := Region.waitsFor_spec hwj
      by_cases hl : up.getD j false = true
      · have h3 := inv.closed j oj hoj hl e he hbd
        rw [hon, getD_both hu] at h3; cases h3
      · by_cases hjn' : j = n
        · subst hjn'
          obtain rfl : oj = o := Option.some.inj (hoj.symm.trans ho)
          have h3 := hall e he hbd
          rw [hon, getD_both hu] at h3; cases h3
        · exact ih (n - j) (by omega) j rfl (by omega) (by omega) (unl (Array.getElem?_eq_some_iff.1 hoj).1 hl) hr
  intro i hk hi hu t ht hr
  by_cases htn : t = n
  · subst htn; exact key _ i rfl hk hi hu hr
  · obtain ⟨_, o, ho, hall⟩ := mem_ready.1 hr
    have htl := (Array.getElem?_eq_some_iff.1 ho).1
    have h1 := List.all_eq_true.1 hc t (List.mem_range.2 htl)
    have h2 : ¬ t ≤ n := by omega
    simp only [h2, decide_false, Bool.false_or] at h1
    obtain ⟨o', ho', e, he, hbd, hon⟩ := Region.waitsFor_spec h1
    obtain rfl : o' = o := Option.some.inj (ho'.symm.trans ho)
    have h3 := hall e he hbd
    rw [hon, getD_both (inv.tail (t - 1) (by omega) (by omega))] at h3; cases h3
/-- A first operation that yields the same in every world is taken first; then as above. -/
def leadB (ops : Array Oper) (n : Nat) : Bool :=
  Region.noSelect ops && decide (0 < n) && decide (n < ops.size) && lateB .any ops 1 n && (Region.ready .any ops (Array.replicate ops.size false)).contains 0 && Region.free .any ops (Array.replicate ops.size false) 0 && Region.lexHead .any ops (ops.size - n) (n - 1) 1 ((Array.replicate ops.size false).setIfInBounds 0 true)
theorem wp_region_lead_tail {id : Nat} {Q : Exit → Act → World → Prop} {a : Act} {w : World} {o0 : Oper} {l : List Oper} (C : World → Prop) (n : Nat) (v0 : Value) (hm : P.follows .mixedOrders = true) (hB : leadB (o0 :: l).toArray (n + 1) = true)
    (hQ : ∀ c a w, Q (.panic c) (a.put o0.dst v0) w → Q (.panic c) a w) (hy : Yields P (o0 :: l).toArray o0 v0 a) (hC : C { w with drawn := w.drawn + 1 })
    (h : wpQuiet P (o0 :: l).toArray C (fun a' => ∀ w', C w' → wpList P (o0 :: l).toArray Q (l.drop n) a' w') (l.take n) (a.put o0.dst v0)) : (Code.region id (o0 :: l).toArray true).wp P Q a w := by
  simp only [leadB, Bool.and_eq_true, decide_eq_true_eq] at hB
  obtain ⟨⟨⟨⟨⟨⟨hsel, _⟩, hn⟩, hlate⟩, hr⟩, hf⟩, hlex⟩ := hB
  have hsz : (o0 :: l).toArray.size = l.length + 1 := by simp
  have hnl : n < l.length := by rw [hsz] at hn; omega
  have htl : (l.take n).length = n := by rw [List.length_take]; omega
  have hdl : (l.drop n).length = (o0 :: l).toArray.size - (n + 1) := by rw [List.length_drop, hsz]; omega
  have inv0 : HeadInv .any (o0 :: l).toArray (n + 1) (Array.replicate (o0 :: l).toArray.size false) :=
    ⟨by simp, fun j oj _ hl => (by rw [getD_replicate_false] at hl; cases hl), fun t _ ht => getD_in (by simpa using ht) (getD_replicate_false _ _)⟩
  have hr0 : 0 ∈ Region.ready .any (o0 :: l).toArray (Array.replicate (o0 :: l).toArray.size false) := by simpa using hr
  have inv1 := inv0.set hr0 (by omega)
  have H := Hd.text (C := C) (md := .any) (g := (o0 :: l).toArray.size - (n + 1)) hsel 1 (late_waits hlate) (l.take n) 1 _ (a.put o0.dst v0) (Nat.le_refl _)
    (fun j hj => by rw [htl] at hj; rw [List.getElem?_take, if_pos hj, show 1 + j = j + 1 by omega]; simp) (by rw [htl]; omega) inv1 (by rw [htl]; exact hlex) h
  have HW := Hd.wp (Q := Q) (g := (o0 :: l).toArray.size - (n + 1)) (fun up a' w' hw' hh => by
    have := wpAny_of_seq (P := P) (md := .any) (Q' := Q) (l.drop n) (n + 1) up a' w' (fun j => by rw [List.getElem?_drop, show n + 1 + j = (n + j) + 1 by omega]; simp) (by rw [hdl]; exact hh.1) (hh.2 w' hw')
    rwa [hdl] at this) _ _ (a.put o0.dst v0) _ hC H
  refine wp_region_any hm ?_
  have e : (o0 :: l).toArray.size = ((l.take n).length + ((o0 :: l).toArray.size - (n + 1))) + 1 := by rw [htl, hsz]; omega
  have T := wpAny_take (P := P) (md := .any) (i := 0) (oi := o0) (v := v0) (fuel := (l.take n).length + ((o0 :: l).toArray.size - (n + 1))) (by simp) hsel hf hr hQ hy HW
  rw [← e] at T
  exact T
/-- The same, at the class 'w after some draws'. -/
theorem wp_region_lead_draws {id : Nat} {Q : Exit → Act → World → Prop} {a : Act} {w : World} {o0 : Oper} {l : List Oper} (n : Nat) (v0 : Value) (hm : P.follows .mixedOrders = true) (hB : leadB (o0 :: l).toArray (n + 1) = true)
    (hQ : ∀ c a w, Q (.panic c) (a.put o0.dst v0) w → Q (.panic c) a w) (hy : Yields P (o0 :: l).toArray o0 v0 a)
    (h : wpQuiet P (o0 :: l).toArray (fun w' => ∃ m, w' = w.drewN m) (fun a' => ∀ w', (∃ m, w' = w.drewN m) → wpList P (o0 :: l).toArray Q (l.drop n) a' w') (l.take n) (a.put o0.dst v0)) : (Code.region id (o0 :: l).toArray true).wp P Q a w :=
  wp_region_lead_tail (fun w' => ∃ m, w' = w.drewN m) n v0 hm hB hQ hy ⟨1, rfl⟩ h
end
end Go.Proofs.YtmhohponikolfaaDoor
namespace Go.Proofs.YtmhohponikolfaaDoor
set_option linter.unusedVariables false
set_option linter.unusedSimpArgs false
open Go.RowKit
structure Gr (W : World) where
  w : World
  h : Below W.heap.size W w
def grw (W : World) (V : Gr W) : World := V.w
theorem grw_below (W : World) (V : Gr W) : Below W.heap.size W (grw W V) := V.h
theorem grw_cell {W : World} {b : Nat} (o : Nat) (h : b < W.heap.size) (V : Gr W) : (grw W V).cell? ⟨b, o, none⟩ = W.cell? ⟨b, o, none⟩ := (grw_below W V).cell (p := ⟨b, o, none⟩) h
theorem grw_some {W : World} {b o : Nat} {v : Value} (h : W.cell? ⟨b, o, none⟩ = some v) (V : Gr W) : (grw W V).cell? ⟨b, o, none⟩ = some v := by
  rw [grw_cell o (World.block_lt_of_cell? _ _ h) V]; exact h
theorem grow_drawn (w : World) : ∃ V : Gr w, { w with drawn := w.drawn + 1 } = grw w V := ⟨⟨w.drew, (Below.refl _ w).drew⟩, rfl⟩
theorem wp_region_grow {P : Program} {id : Nat} {Q : Exit → Act → World → Prop} {a : Act} {w : World} {l : List Oper} (hm : P.follows .mixedOrders = true) (hB : Region.lexB .any l.toArray = true)
    (h : Nonempty (Gr w) → wpQuiet P l.toArray (fun w' => ∃ V, w' = grw w V) (fun a' => ∀ w', (∃ V, w' = grw w V) → Q .normal a' w') l a) : (Code.region id l.toArray true).wp P Q a w :=
  wp_region_quiet (C := fun w' => ∃ V, w' = grw w V) hm hB (grow_drawn w) (by simpa using h ⟨⟨w, Below.refl _ _⟩⟩)
theorem wp_region_grow_tail {P : Program} {id : Nat} {Q : Exit → Act → World → Prop} {a : Act} {w : World} {l : List Oper} (n : Nat) (hm : P.follows .mixedOrders = true) (hB : Region.lexTailB .any l.toArray n = true)
    (h : Nonempty (Gr w) → wpQuiet P l.toArray (fun w' => ∃ V, w' = grw w V) (fun a' => ∀ w', (∃ V, w' = grw w V) → wpList P l.toArray Q (l.drop n) a' w') (l.take n) a) : (Code.region id l.toArray true).wp P Q a w :=
  wp_region_quiet_tail (fun w' => ∃ V, w' = grw w V) n hm hB (grow_drawn w) (h ⟨⟨w, Below.refl _ _⟩⟩)
theorem grow_call {P : Program} {f : FuncId} {args : Array Value} {W : World} {V : Gr W} {v : Value}
    (h : Calls P f args (grw W V) fun e w' => e = .returned v ∧ Below (grw W V).heap.size (grw W V) w') : Calls P f args (grw W V) fun e w'' => e = .returned v ∧ ∃ V', w'' = grw W V' :=
  h.mono fun _ w'' ⟨he, hb⟩ => ⟨he, ⟨w'', below_then (grw_below W V) hb⟩, rfl⟩
theorem grow_same {P : Program} {f : FuncId} {args : Array Value} {W : World} {V : Gr W} {v : Value}
    (h : Calls P f args (grw W V) fun e w' => e = .returned v ∧ w' = grw W V) : Calls P f args (grw W V) fun e w'' => e = .returned v ∧ ∃ V', w'' = grw W V' :=
  h.mono fun _ w'' ⟨he, hb⟩ => ⟨he, V, hb⟩
theorem grow_drew {P : Program} {f : FuncId} {args : Array Value} {W : World} {V : Gr W} {v : Value}
    (h : Calls P f args (grw W V) fun e w' => e = .returned v ∧ ∃ m, w' = (grw W V).drewN m) : Calls P f args (grw W V) fun e w'' => e = .returned v ∧ ∃ V', w'' = grw W V' :=
  h.mono fun _ w'' ⟨he, m, hb⟩ => ⟨he, ⟨w'', by rw [hb]; exact (grw_below W V).trans ⟨rfl, rfl, rfl, Nat.le_refl _, fun _ _ => rfl⟩⟩, rfl⟩
end Go.Proofs.YtmhohponikolfaaDoor
namespace Go.Proofs.YtmhohponikolfaaDoor
set_option linter.unusedVariables false
set_option linter.unusedSimpArgs false
open Go.RowKit
/-- The digits of k ahead of what is there. -/
def mtF : Nat → Nat → List UInt8 → List UInt8
  | 0, _, out => out
  | f + 1, k, out => if k = 0 then out else mtF f (k / 10) (UInt8.ofNat (48 + k % 10) :: out)
theorem mtF_zero (f : Nat) (out : List UInt8) : mtF f 0 out = out := by cases f <;> rfl
theorem mtF_pos {f k : Nat} (h : 0 < k) (out : List UInt8) : mtF (f + 1) k out = mtF f (k / 10) (UInt8.ofNat (48 + k % 10) :: out) := by rw [mtF, if_neg (by omega)]
def mtB (k : Nat) : ByteArray := ⟨(109 :: mtF 8 k []).toArray⟩
theorem convM {P : Program} (src e dst : TypeId) (hs : P.underlying src = some (.slice e)) (he : P.underlying e = some (.int .u8)) (hd : P.underlying dst = some .string) (w : World) (b cap : Nat) (x : Int) (hc : w.cell? ⟨b, 0, none⟩ = some (.int .u8 x)) :
    (convert src dst (.slice (some ⟨b, 0, none⟩) 1 cap)).run P w = .ok (.string ⟨#[UInt8.ofNat x.toNat]⟩) w :=
  run_convert_bytes_arg (P := P) w src e hs he b 0 1 cap [x] rfl (fun i hi => by obtain rfl : i = 0 := by omega
                                                                                 exact hc) dst hd
theorem mt_eq (r : Nat) (l : List UInt8) : Value.string (⟨#[48 + UInt8.ofNat r]⟩ ++ ⟨l.toArray⟩) = .string ⟨(UInt8.ofNat (48 + r) :: l).toArray⟩ := by
  have h : (ByteArray.mk #[48 + UInt8.ofNat r] ++ ByteArray.mk l.toArray) = ⟨(UInt8.ofNat (48 + r) :: l).toArray⟩ := by
    apply bytes_ext
    rw [Go.Joins.data_append]; simp
  rw [h]
theorem grown_then {w w1 w2 : World} {r : Option Nat} (h : w.grownBy w1 r) (hb : Below w1.heap.size w1 w2) : w.grownBy w2 r :=
  ⟨hb.os.trans h.os, hb.tape.trans h.tape, hb.output.trans h.output, Nat.le_trans h.size hb.size, fun k hk hn => by rw [hb.block k (Nat.lt_of_lt_of_le hk h.size)]; exact h.block k hk hn⟩
theorem grown_set {w w1 : World} {g : Nat} (h : w.grownBy w1 (some g)) (o : Nat) (u : Value) : w.grownBy (w1.setCell ⟨g, o, none⟩ u) (some g) :=
  World.grownBy.trans h ⟨rfl, rfl, rfl, by simp [World.setCell], fun k _ hne => Below.heap_setCell _ _ _ _ (fun e => hne (by simp at e; rw [e]))⟩
theorem grown_refl (w : World) (r : Option Nat) : w.grownBy w r := ⟨rfl, rfl, rfl, Nat.le_refl _, fun _ _ _ => rfl⟩
theorem Blk.gb {w w' : World} {b : Nat} {c : Array Value} {t : TypeId} {r : Option Nat} (h : Blk w b c t) (k : w.grownBy w' r) (hne : r ≠ some b) : Blk w' b c t := by
  unfold Blk at *
  rw [k.block b (Array.getElem?_eq_some_iff.1 h).1 (fun e => hne e.symm)]
  exact h
theorem grown_below {w w1 w2 : World} {B : Nat} {r : Option Nat} (h : Below B w w1) (k : w1.grownBy w2 r) (hr : ∀ g, r = some g → B ≤ g) (hB : B ≤ w1.heap.size) : Below B w w2 :=
  h.trans ⟨k.os, k.tape, k.output, k.size, fun b hb => k.block b (by omega) (fun e => by have := hr b e.symm; omega)⟩
end Go.Proofs.YtmhohponikolfaaDoor
