/-
  Bytes that may stand in a target: walks of both sides. · The walks over chapter 1: Token. · The walks over chapter 1: ReadHex. · Contracts of the library's functions at this program, laid off the kit's shelf in plain words. · Chapter 7: what a % stands for; the walks of both sides. · Blocks that are known whole. · A region that draws its order, whose first operations leave the world inside a class of worlds (they read; their callees may draw, or make memory of their own) and whose last ones wait for all of these (a store): one walk in the order of the text serves every order. Leans on the library's lemmas on 'qOp', 'HeadInv' and 'wpAny_of_seq'. · Chapter 7: what a % stands for, and a text cut; the specification's side.
-/
import Derived.Test.YtmhohponikolfaaGreatDoorJ0
import Derived.Test.YtmhohponikolfaaGreatDoorJ1
import Derived.Shelf.Strings.OnBuilder
import Derived.Shelf.Strings.IndexAnyAll
import Derived.Test.YtmhohponikolfaaGreatDoorProg
import Derived.Deep.WholeRow
import Derived.StillTailTactics
import Derived.BigRegion
import Derived.Laws.CopyOwn
import Derived.StillTail
import Derived.Deep.Quiet
import Derived.BigQuiet
namespace Go.Proofs.YtmhohponikolfaaGreatDoor
set_option linter.unusedVariables false
set_option linter.unusedSimpArgs false
open Go.RowKit
theorem targQ_no1 {s : ByteArray} (h : withinB (s.size : Int) 1 200 = false) : targQ s = false := by
  unfold targQ; rw [show (decide (1 ≤ (s.size : Int)) && decide ((s.size : Int) ≤ 200)) = false from h]; rfl
theorem targQ_no2 {s : ByteArray} (h : allB vis8 s = false) : targQ s = false := by unfold targQ; rw [h]; simp
theorem targQ_yes {s : ByteArray} (h1 : withinB (s.size : Int) 1 200 = true) (h : allB vis8 s = true) : targQ s = true := by
  unfold targQ; rw [show (decide (1 ≤ (s.size : Int)) && decide ((s.size : Int) ≤ 200)) = true from h1, h]; rfl
set_option maxHeartbeats 1000000 in
theorem targetOk_any (s : ByteArray) (w : World) (hs : s.size ≤ maxLen) :
    Calls Tryz.prog 41 #[.string s] w fun e w' => e = .returned (.bool (targQ s)) ∧ w' = w := by
  unfold maxLen at hs
  cases h1 : withinB (s.size : Int) 1 200
  · have hf := hideB2 (targQ_no1 h1)
    go_enter Tryz.func41, Tryz.ntmps41
    go_wp2_with (go_at_call 86; refine (within_any _ _ _ _).mono ?_; rintro e w' ⟨rfl, rfl⟩; rw [h1])
    go_ret
    exact ⟨ret_bool hf.out, rfl⟩
  · have H1 := hideB2 h1
    clear h1
    go_enter Tryz.func41, Tryz.ntmps41
    go_wp2_with (go_at_call 86; refine (within_any _ _ _ _).mono ?_; rintro e w' ⟨rfl, rfl⟩; rw [H1.out])
    go_loop [10] (fun i => ∃ k : Nat, k ≤ s.size ∧ i = .int .i64 k ∧ ∀ j, j < k → vis8 (at8 s j) = true) (fun i => s.size - (intOf i).toNat)
    case atStart => exact ⟨0, Nat.zero_le _, rfl, fun j hj => by omega⟩
    case round =>
      obtain ⟨k, hk, rfl, hall⟩ := hrel
      have Hall : Hid (∀ j, j < k → vis8 (at8 s j) = true) := hall
      clear hall
      by_cases hlt : k < s.size
      · have e64 : wrap64 (s[k].toNat : Int) = (s[k].toNat : Int) := by
          have h1 := u8_hi s[k]
          have h2 := u8_lo s[k]
          unfold wrap64
          omega
        cases hg0 : vis8 (at8 s k)
        · have hg := hideB2 (show withinB (s[k].toNat : Int) 33 126 = false by rw [at8_eq s k hlt]; exact hg0)
          have hfin : Hid (targQ s = false) := targQ_no2 (allB_no hlt hg0)
          clear hg0
          go_wp2_with (go_at_call 86; refine (within_any _ _ _ _).mono ?_; rintro e w' ⟨rfl, rfl⟩; rw [e64, hg.out])
          go_ret
          exact ⟨ret_bool hfin.out, rfl⟩
        · have hg := hideB2 (show withinB (s[k].toNat : Int) 33 126 = true by rw [at8_eq s k hlt]; exact hg0)
          have Hg : Hid (vis8 (at8 s k) = true) := hg0
          clear hg0
          go_wp2_with (go_at_call 86; refine (within_any _ _ _ _).mono ?_; rintro e w' ⟨rfl, rfl⟩; rw [e64, hg.out])
          go_round
          case rel => exact ⟨k + 1, by omega, by go_num, all_succ Hall.out Hg.out⟩
          case measure => simp [intOf]; omega
      · have hfin : Hid (targQ s = true) := targQ_yes H1.out (allB_yes (fun j hj => Hall.out j (by omega)))
        go_wp2
        go_ret
        exact ⟨ret_bool hfin.out, rfl⟩
theorem vis_int (n : Int) : visP n = (!decide (n < 33) && !decide (126 < n)) := by
  unfold visP
  by_cases h1 : n < 33 <;> by_cases h2 : 126 < n <;> simp [h1, h2] <;> omega
set_option maxHeartbeats 1000000 in
theorem l6visible_any (s : ByteArray) (w : World) (hs : s.size ≤ maxLen) :
    Calls Tryz.prog 57 #[.string s] w fun e w' => e = .returned (.bool (decide (0 < (s.size : Int)) && allB vis8 s)) ∧ w' = w := by
  unfold maxLen at hs
  generalize hR : (decide (0 < (s.size : Int)) && allB vis8 s) = R
  have HR := hideB2 hR
  clear hR
  go_enter Tryz.func57, Tryz.ntmps57
  go_wp2
  go_loop [3] (fun i => ∃ k : Nat, k ≤ s.size ∧ i = .int .i64 k ∧ ∀ j, j < k → vis8 (at8 s j) = true) (fun i => s.size - (intOf i).toNat)
  case atStart => exact ⟨0, Nat.zero_le _, rfl, fun j hj => by omega⟩
  case round =>
    obtain ⟨k, hk, rfl, hall⟩ := hrel
    have Hall : Hid (∀ j, j < k → vis8 (at8 s j) = true) := hall
    clear hall
    by_cases hlt : k < s.size
    · have hat : (s[k].toNat : Int) = ((at8 s k).toNat : Int) := by rw [at8_eq s k hlt]
      by_cases h33 : (s[k].toNat : Int) < 33
      · have hfin : Hid (R = false) := by
          show R = false
          rw [← HR.out, allB_no hlt (by unfold vis8; rw [← hat, vis_int]; simp [h33]), Bool.and_false]
        clear hat
        go_wp2
        go_ret
        exact ⟨ret_bool hfin.out, rfl⟩
      · by_cases h126 : (126 : Int) < (s[k].toNat : Int)
        · have hfin : Hid (R = false) := by
            show R = false
            rw [← HR.out, allB_no hlt (by unfold vis8; rw [← hat, vis_int]; simp [h126]), Bool.and_false]
          clear hat
          have d33 : decide ((s[k].toNat : Int) < 33) = false := decide_eq_false h33
          go_wp2
          go_ret
          exact ⟨ret_bool hfin.out, rfl⟩
        · have Hg : Hid (vis8 (at8 s k) = true) := by
            show vis8 _ = true
            unfold vis8; rw [← hat, vis_int]; simp [h33, h126]
          clear hat
          have d33 : decide ((s[k].toNat : Int) < 33) = false := decide_eq_false h33
          have d126 : decide ((126 : Int) < (s[k].toNat : Int)) = false := decide_eq_false h126
          go_wp2
          go_round
          case rel => exact ⟨k + 1, by omega, by go_num, all_succ Hall.out Hg.out⟩
          case measure => simp [intOf]; omega
    · have hfin : Hid (R = decide (0 < s.size)) := by
        show R = _
        rw [← HR.out, allB_yes (fun j hj => Hall.out j (by omega)), Bool.and_true]
        apply decide_eq_decide.2
        omega
      go_wp2
      go_ret
      exact ⟨ret_bool hfin.out, rfl⟩
end Go.Proofs.YtmhohponikolfaaGreatDoor
namespace Go.Proofs.YtmhohponikolfaaGreatDoor
set_option linter.unusedVariables false
set_option linter.unusedSimpArgs false
open Go.RowKit


theorem hideB3 {p : Prop} (h : p) : Hid p := h
theorem letP_yes {n : Int} (h1 : 97 ≤ lowI n) (h2 : lowI n ≤ 122) : letP n = true := by simp [letP, h1, h2]
theorem letP_no {n : Int} (h : lowI n < 97 ∨ 122 < lowI n) : letP n = false := by
  unfold letP
  rcases h with h | h
  · simp [show ¬ 97 ≤ lowI n by omega]
  · simp [show ¬ lowI n ≤ 122 by omega]
/-- The signs of impl's token, as the text has them. -/
theorem tokSigns_at (k : Nat) (hk : k < (⟨#[33, 35, 36, 37, 38, 39, 42, 43, 45, 46, 94, 95, 124, 126, 96]⟩ : ByteArray).size) : (⟨#[33, 35, 36, 37, 38, 39, 42, 43, 45, 46, 94, 95, 124, 126, 96]⟩ : ByteArray)[k] = tokSigns.getD k 0 := by
  rw [at8_eq _ k hk]; rfl
set_option maxHeartbeats 1000000 in
theorem letterByte_any (n : Int) (w : World) (h0 : 0 ≤ n) (h1 : n ≤ 255) :
    Calls Tryz.prog 143 #[.int .u8 n] w fun e w' => e = .returned (.bool (letP n)) ∧ w' = w := by
  unfold letP
  generalize hm : lowI n = m
  have HM := hideB3 hm
  clear hm
  by_cases hl : 97 ≤ m
  · go_enter Tryz.func143, Tryz.ntmps143
    go_wp2_with (go_at_call 89; refine (smallByte_any _ _ h0 h1).mono ?_; rintro e w' ⟨rfl, rfl⟩; rw [HM.out])
    go_ret
    exact ⟨ret_bool (by first | (simp [hl]; done) | (simp; omega)), rfl⟩
  · go_enter Tryz.func143, Tryz.ntmps143
    go_wp2_with (go_at_call 89; refine (smallByte_any _ _ h0 h1).mono ?_; rintro e w' ⟨rfl, rfl⟩; rw [HM.out])
    go_ret
    exact ⟨ret_bool (by first | (simp [hl]; done) | (simp; omega)), rfl⟩
set_option maxHeartbeats 1000000 in
theorem tokenByte_sig (n : Int) (w : World) (h0 : 0 ≤ n) (h1 : n ≤ 255) (hl : letP n = false) (hd : digP n = false) :
    Calls Tryz.prog 110 #[.int .u8 n] w fun e w' => e = .returned (.bool (inL tokSigns n)) ∧ w' = w := by
  go_enter Tryz.func110, Tryz.ntmps110
  go_wp2_with (first | (go_at_call 143; refine (letterByte_any _ _ h0 h1).mono ?_; rintro e w' ⟨rfl, rfl⟩; rw [hl]) | (go_at_call 126; refine (digitByte_any _ _).mono ?_; rintro e w' ⟨rfl, rfl⟩))
  go_loop [10] (fun i => ∃ k : Nat, k ≤ 15 ∧ i = .int .i64 k ∧ ∀ j, j < k → ((tokSigns.getD j 0).toNat : Int) ≠ n) (fun i => 15 - (intOf i).toNat)
  case atStart => exact ⟨0, Nat.zero_le _, rfl, fun j hj => by omega⟩
  case round =>
    obtain ⟨k, hk, rfl, hall⟩ := hrel
    have Hall : Hid (∀ j, j < k → ((tokSigns.getD j 0).toNat : Int) ≠ n) := hall
    clear hall
    by_cases hlt : k < 15
    · have hb : k < (⟨#[33, 35, 36, 37, 38, 39, 42, 43, 45, 46, 94, 95, 124, 126, 96]⟩ : ByteArray).size := hlt
      go_wp2
      · have hh : (((⟨#[33, 35, 36, 37, 38, 39, 42, 43, 45, 46, 94, 95, 124, 126, 96]⟩ : ByteArray)[k].toNat : Int) == n) = true := by assumption
        go_ret
        rw [tokSigns_at k hb, beq_iff_eq] at hh
        have hl2 : k < tokSigns.length := hlt
        have e : inL tokSigns n = true := inL_hit hl2 (by rw [← hh, List.getD, List.getElem?_eq_getElem hl2]; rfl)
        exact ⟨ret_bool e, rfl⟩
      · have hh : (((⟨#[33, 35, 36, 37, 38, 39, 42, 43, 45, 46, 94, 95, 124, 126, 96]⟩ : ByteArray)[k].toNat : Int) == n) = false := by assumption
        rw [tokSigns_at k hb, beq_eq_false_iff_ne] at hh
        go_round
        case rel => exact ⟨k + 1, by omega, by go_num, all_succ Hall.out hh⟩
        case measure => simp [intOf]; omega
    · have e : Hid (inL tokSigns n = false) := inL_miss (fun j hj => Hall.out j (by have : tokSigns.length = 15 := rfl; omega))
      go_wp2
      go_ret
      exact ⟨ret_bool e.out, rfl⟩

set_option maxHeartbeats 1000000 in
theorem tokenByte_any (n : Int) (w : World) (h0 : 0 ≤ n) (h1 : n ≤ 255) :
    Calls Tryz.prog 110 #[.int .u8 n] w fun e w' => e = .returned (.bool (tokP n)) ∧ w' = w := by
  cases hl : letP n
  · cases hd : digP n
    · rw [tokP_sig hl hd]
      exact tokenByte_sig n w h0 h1 hl hd
    · rw [tokP_dig hd]
      go_enter Tryz.func110, Tryz.ntmps110
      go_wp2_with (first | (go_at_call 143; refine (letterByte_any _ _ h0 h1).mono ?_; rintro e w' ⟨rfl, rfl⟩; rw [hl]) | (go_at_call 126; refine (digitByte_any _ _).mono ?_; rintro e w' ⟨rfl, rfl⟩))
      go_ret
      exact ⟨rfl, rfl⟩
  · rw [tokP_let hl]
    go_enter Tryz.func110, Tryz.ntmps110
    go_wp2_with (first | (go_at_call 143; refine (letterByte_any _ _ h0 h1).mono ?_; rintro e w' ⟨rfl, rfl⟩; rw [hl]) | (go_at_call 126; refine (digitByte_any _ _).mono ?_; rintro e w' ⟨rfl, rfl⟩))
    go_ret
    exact ⟨rfl, rfl⟩
set_option maxHeartbeats 1000000 in
theorem l1has_any (s : ByteArray) (n : Int) (w : World) (hs : s.size ≤ maxLen) :
    Calls Tryz.prog 117 #[.string s, .int .u8 n] w fun e w' => e = .returned (.bool (inL s.data.toList n)) ∧ w' = w := by
  unfold maxLen at hs
  go_enter Tryz.func117, Tryz.ntmps117
  go_wp2
  go_loop [5] (fun i => ∃ k : Nat, k ≤ s.size ∧ i = .int .i64 k ∧ ∀ j, j < k → ((s.data.toList.getD j 0).toNat : Int) ≠ n) (fun i => s.size - (intOf i).toNat)
  case atStart => exact ⟨0, Nat.zero_le _, rfl, fun j hj => by omega⟩
  case round =>
    obtain ⟨k, hk, rfl, hall⟩ := hrel
    have Hall : Hid (∀ j, j < k → ((s.data.toList.getD j 0).toNat : Int) ≠ n) := hall
    clear hall
    by_cases hlt : k < s.size
    · have hl2 : k < s.data.toList.length := by simpa using hlt
      have hat : s[k] = s.data.toList.getD k 0 := at8_eq s k hlt
      have Hat : Hid (s[k] = s.data.toList.getD k 0) := hat
      clear hat
      cases hq : ((s[k].toNat : Int) == n)
      · go_wp2
        go_round
        case rel => exact ⟨k + 1, by omega, by go_num, all_succ Hall.out (by rw [← Hat.out]; simpa using hq)⟩
        case measure => simp [intOf]; omega
      · have e : Hid (inL s.data.toList n = true) := inL_hit hl2 (by rw [beq_iff_eq] at hq; rw [← hq, Hat.out, List.getD, List.getElem?_eq_getElem hl2]; rfl)
        go_wp2
        go_ret
        exact ⟨ret_bool e.out, rfl⟩
    · have e : Hid (inL s.data.toList n = false) := inL_miss (fun j hj => Hall.out j (by have := len_data s; omega))
      go_wp2
      go_ret
      exact ⟨ret_bool e.out, rfl⟩
set_option maxHeartbeats 1000000 in
theorem l1tchar_any (n : Int) (w : World) (h0 : 0 ≤ n) (h1 : n ≤ 255) :
    Calls Tryz.prog 74 #[.int .u8 n] w fun e w' => e = .returned (.bool (tokP n)) ∧ w' = w := by
  by_cases hl : 97 ≤ lowI n ∧ lowI n ≤ 122
  · obtain ⟨hl1, hl2⟩ := hl
    rw [tokP_let (letP_yes hl1 hl2)]
    go_enter Tryz.func74, Tryz.ntmps74
    go_wp2_with (first | (go_at_call 76; refine (l1lower_any _ _ (by omega) (by omega)).mono ?_; rintro e w' ⟨rfl, rfl⟩) | (go_at_call 103; refine (l1digit_any _ _).mono ?_; rintro e w' ⟨rfl, rfl⟩) | (go_at_call 117; refine (l1has_any _ _ _ (by decide)).mono ?_; rintro e w' ⟨rfl, rfl⟩))
    go_ret
    exact ⟨rfl, rfl⟩
  · have hl' : lowI n < 97 ∨ 122 < lowI n := by omega
    have hl2 : lowI n < 97 ∨ (122 < lowI n ∧ decide (lowI n ≤ 122) = false) := by
      rcases hl' with h | h
      · exact Or.inl h
      · exact Or.inr ⟨h, by simp; omega⟩
    clear hl
    cases hd : digP n
    · cases h96 : (n == 96)
      · rw [tokP_14 (letP_no hl') hd h96]
        rcases hl2 with hl | ⟨hl, hl3⟩
        all_goals
          go_enter Tryz.func74, Tryz.ntmps74
          go_wp2_with (first | (go_at_call 76; refine (l1lower_any _ _ (by omega) (by omega)).mono ?_; rintro e w' ⟨rfl, rfl⟩) | (go_at_call 103; refine (l1digit_any _ _).mono ?_; rintro e w' ⟨rfl, rfl⟩) | (go_at_call 117; refine (l1has_any _ _ _ (by decide)).mono ?_; rintro e w' ⟨rfl, rfl⟩))
          go_ret
          exact ⟨rfl, rfl⟩
      · rw [tokP_96 (letP_no hl') hd h96]
        rcases hl2 with hl | ⟨hl, hl3⟩
        all_goals
          go_enter Tryz.func74, Tryz.ntmps74
          go_wp2_with (first | (go_at_call 76; refine (l1lower_any _ _ (by omega) (by omega)).mono ?_; rintro e w' ⟨rfl, rfl⟩) | (go_at_call 103; refine (l1digit_any _ _).mono ?_; rintro e w' ⟨rfl, rfl⟩) | (go_at_call 117; refine (l1has_any _ _ _ (by decide)).mono ?_; rintro e w' ⟨rfl, rfl⟩))
          go_ret
          exact ⟨rfl, rfl⟩
    · rw [tokP_dig hd]
      rcases hl2 with hl | ⟨hl, hl3⟩
      all_goals
        go_enter Tryz.func74, Tryz.ntmps74
        go_wp2_with (first | (go_at_call 76; refine (l1lower_any _ _ (by omega) (by omega)).mono ?_; rintro e w' ⟨rfl, rfl⟩) | (go_at_call 103; refine (l1digit_any _ _).mono ?_; rintro e w' ⟨rfl, rfl⟩) | (go_at_call 117; refine (l1has_any _ _ _ (by decide)).mono ?_; rintro e w' ⟨rfl, rfl⟩))
        go_ret
        exact ⟨rfl, rfl⟩
set_option maxHeartbeats 1000000 in
theorem Token_any (s : ByteArray) (w : World) (hs : s.size ≤ maxLen) :
    Calls Tryz.prog 68 #[.string s] w fun e w' => e = .returned (.bool (tokB s)) ∧ w' = w := by
  unfold maxLen at hs
  by_cases h0 : s.size = 0
  · rw [tokB_size (Or.inl h0)]
    have hne : s.toList.isEmpty = true := by rw [ByteArray.toList_eq, List.isEmpty_iff, ← List.length_eq_zero_iff, Array.length_toList]; exact h0
    go_enter Tryz.func68, Tryz.ntmps68
    go_wp2
    go_ret
    exact ⟨rfl, rfl⟩
  · have hne : s.toList.isEmpty = false := by
      rw [ByteArray.toList_eq, List.isEmpty_eq_false_iff]
      intro hh
      apply h0
      show s.data.size = 0
      rw [← Array.length_toList, hh]; rfl
    have hne2 : ((s.size : Int) == 0) = false := by rw [Bool.eq_false_iff, ne_eq, beq_iff_eq]; omega
    by_cases hbig : (4000 : Int) < (s.size : Int)
    · rw [tokB_size (Or.inr (by omega))]
      go_enter Tryz.func68, Tryz.ntmps68
      go_wp2
      go_ret
      exact ⟨rfl, rfl⟩
    · go_enter Tryz.func68, Tryz.ntmps68
      go_wp2
      clear hne hne2
      go_loop [13] (fun i => ∃ k : Nat, k ≤ s.size ∧ i = .int .i64 k ∧ ∀ j, j < k → tok8 (at8 s j) = true) (fun i => s.size - (intOf i).toNat)
      case atStart => exact ⟨0, Nat.zero_le _, rfl, fun j hj => by omega⟩
      case round =>
        obtain ⟨k, hk, rfl, hall⟩ := hrel
        have Hall : Hid (∀ j, j < k → tok8 (at8 s j) = true) := hall
        clear hall
        by_cases hlt : k < s.size
        · cases hg0 : tok8 (at8 s k)
          · have hg : tokP (s[k].toNat : Int) = false := by rw [at8_eq s k hlt]; exact hg0
            have hfin : Hid (tokB s = false) := tokB_no hlt hg0
            clear hg0
            go_wp2_with (go_at_call 110; refine (tokenByte_any _ _ (u8_lo _) (u8_hi _)).mono ?_; rintro e w' ⟨rfl, rfl⟩)
            go_ret
            exact ⟨ret_bool hfin.out, rfl⟩
          · have hg : tokP (s[k].toNat : Int) = true := by rw [at8_eq s k hlt]; exact hg0
            have Hg : Hid (tok8 (at8 s k) = true) := hg0
            clear hg0
            go_wp2_with (go_at_call 110; refine (tokenByte_any _ _ (u8_lo _) (u8_hi _)).mono ?_; rintro e w' ⟨rfl, rfl⟩)
            go_round
            case rel => exact ⟨k + 1, by omega, by go_num, all_succ Hall.out Hg.out⟩
            case measure => simp [intOf]; omega
        · have hfin : Hid (tokB s = true) := tokB_yes (by omega) (by omega) (fun j hj => Hall.out j (by omega))
          go_wp2
          go_ret
          exact ⟨ret_bool hfin.out, rfl⟩
set_option maxHeartbeats 1000000 in
theorem sToken_any (s : ByteArray) (w : World) (hs : s.size ≤ maxLen) :
    Calls Tryz.prog 32 #[.string s] w fun e w' => e = .returned (.bool (tokB s)) ∧ w' = w := by
  unfold maxLen at hs
  by_cases h0 : s.size = 0
  · rw [tokB_size (Or.inl h0)]
    have hne : ((s.size : Int) == 0) = true := by rw [beq_iff_eq]; omega
    go_enter Tryz.func32, Tryz.ntmps32
    go_wp2
    go_ret
    exact ⟨rfl, rfl⟩
  · have hne : s.toList.isEmpty = false := by
      rw [ByteArray.toList_eq, List.isEmpty_eq_false_iff]
      intro hh
      apply h0
      show s.data.size = 0
      rw [← Array.length_toList, hh]; rfl
    have hne2 : ((s.size : Int) == 0) = false := by rw [Bool.eq_false_iff, ne_eq, beq_iff_eq]; omega
    by_cases hbig : (4000 : Int) < (s.size : Int)
    · rw [tokB_size (Or.inr (by omega))]
      go_enter Tryz.func32, Tryz.ntmps32
      go_wp2
      go_ret
      exact ⟨rfl, rfl⟩
    · go_enter Tryz.func32, Tryz.ntmps32
      go_wp2
      clear hne hne2
      go_loop [3] (fun i => ∃ k : Nat, k ≤ s.size ∧ i = .int .i64 k ∧ ∀ j, j < k → tok8 (at8 s j) = true) (fun i => s.size - (intOf i).toNat)
      case atStart => exact ⟨0, Nat.zero_le _, rfl, fun j hj => by omega⟩
      case round =>
        obtain ⟨k, hk, rfl, hall⟩ := hrel
        have Hall : Hid (∀ j, j < k → tok8 (at8 s j) = true) := hall
        clear hall
        by_cases hlt : k < s.size
        · cases hg0 : tok8 (at8 s k)
          · have hg : tokP (s[k].toNat : Int) = false := by rw [at8_eq s k hlt]; exact hg0
            have hfin : Hid (tokB s = false) := tokB_no hlt hg0
            clear hg0
            go_wp2_with (go_at_call 74; refine (l1tchar_any _ _ (u8_lo _) (u8_hi _)).mono ?_; rintro e w' ⟨rfl, rfl⟩)
            go_ret
            exact ⟨ret_bool hfin.out, rfl⟩
          · have hg : tokP (s[k].toNat : Int) = true := by rw [at8_eq s k hlt]; exact hg0
            have Hg : Hid (tok8 (at8 s k) = true) := hg0
            clear hg0
            go_wp2_with (go_at_call 74; refine (l1tchar_any _ _ (u8_lo _) (u8_hi _)).mono ?_; rintro e w' ⟨rfl, rfl⟩)
            go_round
            case rel => exact ⟨k + 1, by omega, by go_num, all_succ Hall.out Hg.out⟩
            case measure => simp [intOf]; omega
        · have hfin : Hid (tokB s = true) := tokB_yes (by omega) (by omega) (fun j hj => Hall.out j (by omega))
          go_wp2
          go_ret
          exact ⟨ret_bool hfin.out, rfl⟩
end Go.Proofs.YtmhohponikolfaaGreatDoor
namespace Go.Proofs.YtmhohponikolfaaGreatDoor
set_option linter.unusedVariables false
set_option linter.unusedSimpArgs false
open Go.RowKit

theorem ret_ib6 {k : IntKind} {n m : Int} {a b : Bool} (h : m = n) (h' : b = a) : Ending.returned (.tuple #[.int k n, .bool a]) = .returned (.tuple #[.int k m, .bool b]) := by rw [h, h']
theorem hexV_neg {n : Int} (h : hexV n < 0) : digP n = false ∧ (lowI n < 97 ∨ 102 < lowI n) := by
  unfold hexV at h
  split at h
  · rename_i hd; rw [digP_iff] at hd; omega
  · rename_i hd
    split at h
    · omega
    · exact ⟨by simpa using hd, by omega⟩
theorem hexV_pos {n : Int} (h : 0 ≤ hexV n) : (digP n = true ∧ hexV n = n - 48) ∨ (digP n = false ∧ 97 ≤ lowI n ∧ lowI n ≤ 102 ∧ hexV n = lowI n - 87) := by
  cases hd : digP n
  · right
    by_cases hl : 97 ≤ lowI n ∧ lowI n ≤ 102
    · exact ⟨rfl, hl.1, hl.2, hexV_let hd hl.1 hl.2⟩
    · rw [hexV_no hd (by omega)] at h; omega
  · left; exact ⟨rfl, hexV_dig hd⟩
set_option maxHeartbeats 1000000 in
theorem hexValue_any (n : Int) (w : World) (h0 : 0 ≤ n) (h1 : n ≤ 255) :
    Calls Tryz.prog 182 #[.int .u8 n] w fun e w' => e = .returned (.int .i64 (hexV n)) ∧ w' = w := by
  cases hd : digP n
  · by_cases hl : 97 ≤ lowI n ∧ lowI n ≤ 102
    · obtain ⟨ha, hb⟩ := hl
      rw [hexV_let hd ha hb]
      go_enter Tryz.func182, Tryz.ntmps182
      go_wp2_with (first | (go_at_call 89; refine (smallByte_any _ _ (by omega) (by omega)).mono ?_; rintro e w' ⟨rfl, rfl⟩) | (go_at_call 126; refine (digitByte_any _ _).mono ?_; rintro e w' ⟨rfl, rfl⟩))
      go_ret
      exact ⟨ret_int (by omega), rfl⟩
    · have hl' : lowI n < 97 ∨ 102 < lowI n := by omega
      rw [hexV_no hd hl']
      have hl2 : lowI n < 97 ∨ (102 < lowI n ∧ decide (lowI n ≤ 102) = false) := by
        rcases hl' with h | h
        · exact Or.inl h
        · exact Or.inr ⟨h, by simp; omega⟩
      clear hl hl'
      rcases hl2 with hl | ⟨hl, hl3⟩
      all_goals
        go_enter Tryz.func182, Tryz.ntmps182
        go_wp2_with (first | (go_at_call 89; refine (smallByte_any _ _ (by omega) (by omega)).mono ?_; rintro e w' ⟨rfl, rfl⟩) | (go_at_call 126; refine (digitByte_any _ _).mono ?_; rintro e w' ⟨rfl, rfl⟩))
        go_ret
        exact ⟨rfl, rfl⟩
  · have hb := digP_iff.1 hd
    rw [hexV_dig hd]
    go_enter Tryz.func182, Tryz.ntmps182
    go_wp2_with (first | (go_at_call 89; refine (smallByte_any _ _ (by omega) (by omega)).mono ?_; rintro e w' ⟨rfl, rfl⟩) | (go_at_call 126; refine (digitByte_any _ _).mono ?_; rintro e w' ⟨rfl, rfl⟩))
    go_ret
    exact ⟨rfl, rfl⟩
set_option maxHeartbeats 1000000 in
theorem ReadHex_any (s : ByteArray) (w : World) (hs : s.size ≤ maxLen) :
    Calls Tryz.prog 160 #[.string s] w fun e w' => e = .returned (.tuple #[.int .i64 (rhexN s), .bool (rhexOk s)]) ∧ w' = w := by
  unfold maxLen at hs
  by_cases h0 : s.size = 0
  · have hr := rhex_size (Or.inl h0)
    have hne : s.toList.isEmpty = true := by rw [ByteArray.toList_eq, List.isEmpty_iff, ← List.length_eq_zero_iff, Array.length_toList]; exact h0
    rw [hr.1, hr.2]
    clear hr
    go_enter Tryz.func160, Tryz.ntmps160
    go_wp2
    go_ret2
    exact ⟨rfl, rfl⟩
  · have hne2 : s.toList.isEmpty = false := by
      rw [ByteArray.toList_eq, List.isEmpty_eq_false_iff]
      intro hh
      apply h0
      rw [← len_data, hh]; rfl
    by_cases hbig : (7 : Int) < (s.size : Int)
    · have hr := rhex_size (s := s) (Or.inr (by omega))
      rw [hr.1, hr.2]
      clear hr
      go_enter Tryz.func160, Tryz.ntmps160
      go_wp2
      go_ret2
      exact ⟨rfl, rfl⟩
    · go_enter Tryz.func160, Tryz.ntmps160
      go_wp2
      clear hne2
      go_loop [4, 16] (fun n i => ∃ k : Nat, k ≤ s.size ∧ i = .int .i64 k ∧ n = .int .i64 (hval (s.data.toList.take k)) ∧ allHex (s.data.toList.take k) = true) (fun _ i => s.size - (intOf i).toNat)
      case atStart => exact ⟨0, Nat.zero_le _, rfl, rfl, rfl⟩
      case round =>
        obtain ⟨k, hk, rfl, rfl, hall⟩ := hrel
        have Hall : Hid (allHex (s.data.toList.take k) = true) := hall
        obtain ⟨hv0, hv1⟩ := hval_small s k (by omega) hall
        clear hall
        by_cases hlt : k < s.size
        · have hlo := u8_lo s[k]
          have hhi := u8_hi s[k]
          have hn0 : hexV (s[k].toNat : Int) = hex8 (at8 s k) := by rw [at8_eq s k hlt]; rfl
          by_cases hg0 : hex8 (at8 s k) < 0
          · have hfin : Hid (rhexN s = 0 ∧ rhexOk s = false) := rhex_no hlt hg0
            have hneg : hexV (s[k].toNat : Int) < 0 := by rw [hn0]; exact hg0
            clear hg0 hn0
            generalize hval (s.data.toList.take k) = v at *
            go_wp2_with (go_at_call 182; refine (hexValue_any _ _ (by omega) (by omega)).mono ?_; rintro e w' ⟨rfl, rfl⟩)
            go_ret2
            exact ⟨ret_ib6 hfin.out.1 hfin.out.2, rfl⟩
          · have hvq : Hid (hval (s.data.toList.take (k + 1)) = hval (s.data.toList.take k) * 16 + hexV (s[k].toNat : Int)) := by
              show _ = _
              rw [allDig_take_succ s k hlt, hval_snoc, hn0]
            have Hall2 : Hid (allHex (s.data.toList.take (k + 1)) = true) := by
              show _ = _
              rw [allDig_take_succ s k hlt]; exact allHex_snoc _ _ Hall.out (by omega)
            have hpos : 0 ≤ hexV (s[k].toNat : Int) := by rw [hn0]; omega
            have hp15 := (hexV_bd (s[k].toNat : Int)).2
            clear hg0 hn0
            generalize hval (s.data.toList.take k) = v at *
            go_wp2_with (go_at_call 182; refine (hexValue_any _ _ (by omega) (by omega)).mono ?_; rintro e w' ⟨rfl, rfl⟩)
            go_round
            case rel => exact ⟨k + 1, by omega, by go_num, congrArg (Value.int .i64) (by rw [hvq.out]), Hall2.out⟩
            case measure => simp [intOf]; omega
        · obtain rfl : k = s.size := by omega
          have ht : s.data.toList.take s.size = s.data.toList := List.take_of_length_le (by rw [len_data]; exact Nat.le_refl _)
          rw [ht] at Hall hv0 hv1 ⊢
          have hfin : Hid (rhexN s = hval s.data.toList ∧ rhexOk s = true) := rhex_yes (by omega) (by omega) Hall.out
          clear ht
          generalize hval s.data.toList = v at *
          go_wp2
          go_ret2
          exact ⟨ret_ib6 hfin.out.1 hfin.out.2, rfl⟩
set_option maxHeartbeats 1000000 in
theorem sReadHex_any (s : ByteArray) (w : World) (hs : s.size ≤ maxLen) :
    Calls Tryz.prog 100 #[.string s] w fun e w' => e = .returned (.tuple #[.int .i64 (rhexN s), .bool (rhexOk s)]) ∧ w' = w := by
  unfold maxLen at hs
  by_cases h0 : s.size = 0
  · have hr := rhex_size (Or.inl h0)
    have hne : ((s.size : Int) == 0) = true := by rw [beq_iff_eq]; omega
    rw [hr.1, hr.2]
    clear hr
    go_enter Tryz.func100, Tryz.ntmps100
    go_wp2
    go_ret2
    exact ⟨rfl, rfl⟩
  · have hne2 : ((s.size : Int) == 0) = false := by rw [Bool.eq_false_iff, ne_eq, beq_iff_eq]; omega
    by_cases hbig : (7 : Int) < (s.size : Int)
    · have hr := rhex_size (s := s) (Or.inr (by omega))
      rw [hr.1, hr.2]
      clear hr
      go_enter Tryz.func100, Tryz.ntmps100
      go_wp2
      go_ret2
      exact ⟨rfl, rfl⟩
    · go_enter Tryz.func100, Tryz.ntmps100
      go_wp2
      clear hne2
      go_loop [4, 5] (fun n i => ∃ k : Nat, k ≤ s.size ∧ i = .int .i64 k ∧ n = .int .i64 (hval (s.data.toList.take k)) ∧ allHex (s.data.toList.take k) = true) (fun _ i => s.size - (intOf i).toNat)
      case atStart => exact ⟨0, Nat.zero_le _, rfl, rfl, rfl⟩
      case round =>
        obtain ⟨k, hk, rfl, rfl, hall⟩ := hrel
        have Hall : Hid (allHex (s.data.toList.take k) = true) := hall
        obtain ⟨hv0, hv1⟩ := hval_small s k (by omega) hall
        clear hall
        by_cases hlt : k < s.size
        · have hlo := u8_lo s[k]
          have hhi := u8_hi s[k]
          have hn0 : hexV (s[k].toNat : Int) = hex8 (at8 s k) := by rw [at8_eq s k hlt]; rfl
          by_cases hg0 : hex8 (at8 s k) < 0
          · have hfin : Hid (rhexN s = 0 ∧ rhexOk s = false) := rhex_no hlt hg0
            have hneg : hexV (s[k].toNat : Int) < 0 := by rw [hn0]; exact hg0
            clear hg0 hn0
            generalize hval (s.data.toList.take k) = v at *
            have hno : digP (s[k].toNat : Int) = false ∧ (lowI (s[k].toNat : Int) < 97 ∨ 102 < lowI (s[k].toNat : Int)) := hexV_neg hneg
            obtain ⟨hd, hl⟩ := hno
            rw [← digP_low _ hlo] at hd
            clear hneg
            have hl2 : lowI (s[k].toNat : Int) < 97 ∨ (102 < lowI (s[k].toNat : Int) ∧ decide (lowI (s[k].toNat : Int) ≤ 102) = false) := by
              rcases hl with h | h
              · exact Or.inl h
              · exact Or.inr ⟨h, by simp; omega⟩
            rcases hl2 with hl | ⟨hl, hl3⟩
            all_goals
              go_wp2_with (first | (go_at_call 76; refine (l1lower_any _ _ (by omega) (by omega)).mono ?_; rintro e w' ⟨rfl, rfl⟩) | (go_at_call 103; refine (l1digit_any _ _).mono ?_; rintro e w' ⟨rfl, rfl⟩))
              go_ret2
              exact ⟨ret_ib6 hfin.out.1 hfin.out.2, rfl⟩
          · have hvq : Hid (hval (s.data.toList.take (k + 1)) = hval (s.data.toList.take k) * 16 + hexV (s[k].toNat : Int)) := by
              show _ = _
              rw [allDig_take_succ s k hlt, hval_snoc, hn0]
            have Hall2 : Hid (allHex (s.data.toList.take (k + 1)) = true) := by
              show _ = _
              rw [allDig_take_succ s k hlt]; exact allHex_snoc _ _ Hall.out (by omega)
            have hpos : 0 ≤ hexV (s[k].toNat : Int) := by rw [hn0]; omega
            have hp15 := (hexV_bd (s[k].toNat : Int)).2
            clear hg0 hn0
            generalize hval (s.data.toList.take k) = v at *
            have hyes := hexV_pos hpos
            rcases hyes with ⟨hd, he⟩ | ⟨hd, h97, h102, he⟩
            · have hd' : digP (lowI (s[k].toNat : Int)) = true := by rw [digP_low _ hlo]; exact hd
              have hlow := lowI_dig hd
              have hb := digP_iff.1 hd
              have he' : Hid (hexV (s[k].toNat : Int) = (s[k].toNat : Int) - 48) := he
              have hlo2 : lowI (s[k].toNat : Int) ≤ 57 := by rw [hlow]; exact hb.2
              have hlo3 : 48 ≤ lowI (s[k].toNat : Int) := by rw [hlow]; exact hb.1
              have Hlow : Hid (lowI (s[k].toNat : Int) = (s[k].toNat : Int)) := hlow
              clear he hd hb hlow
              go_wp2_with (first | (go_at_call 76; refine (l1lower_any _ _ (by omega) (by omega)).mono ?_; rintro e w' ⟨rfl, rfl⟩) | (go_at_call 103; refine (l1digit_any _ _).mono ?_; rintro e w' ⟨rfl, rfl⟩))
              go_round
              case rel => exact ⟨k + 1, by omega, by go_num, congrArg (Value.int .i64) (by rw [hvq.out, he'.out, Hlow.out]), Hall2.out⟩
              case measure => simp [intOf]; omega
            · have hd' : digP (lowI (s[k].toNat : Int)) = false := by rw [digP_low _ hlo]; exact hd
              have he' : Hid (hexV (s[k].toNat : Int) = lowI (s[k].toNat : Int) - 87) := he
              clear he hd
              go_wp2_with (first | (go_at_call 76; refine (l1lower_any _ _ (by omega) (by omega)).mono ?_; rintro e w' ⟨rfl, rfl⟩) | (go_at_call 103; refine (l1digit_any _ _).mono ?_; rintro e w' ⟨rfl, rfl⟩))
              go_round
              case rel => exact ⟨k + 1, by omega, by go_num, congrArg (Value.int .i64) (by rw [hvq.out, he'.out]; omega), Hall2.out⟩
              case measure => simp [intOf]; omega
        · obtain rfl : k = s.size := by omega
          have ht : s.data.toList.take s.size = s.data.toList := List.take_of_length_le (by rw [len_data]; exact Nat.le_refl _)
          rw [ht] at Hall hv0 hv1 ⊢
          have hfin : Hid (rhexN s = hval s.data.toList ∧ rhexOk s = true) := rhex_yes (by omega) (by omega) Hall.out
          clear ht
          generalize hval s.data.toList = v at *
          go_wp2
          go_ret2
          exact ⟨ret_ib6 hfin.out.1 hfin.out.2, rfl⟩
end Go.Proofs.YtmhohponikolfaaGreatDoor
namespace Go.Proofs
open Go.Shelf
def Tryz.lays158_ren : Go.Shelf.Ren := ⟨fun | 158 => 137 | 165 => 97 | 166 => 98 | 167 => 161 | 169 => 99 | 230 => 162 | 203 => 163 | 240 => 138 | 241 => 139 | 197 => 158 | 118 => 183 | 168 => 184 | 270 => 185 | 262 => 186 | 276 => 164 | 277 => 165 | 260 => 181 | 242 => 194 | 313 => 195 | 278 => 201 | 274 => 202 | 275 => 203 | n => n, fun | 9 => 9 | 4 => 4 | 3 => 3 | 5 => 5 | 72 => 97 | 0 => 0 | 76 => 101 | 75 => 100 | 107 => 132 | 70 => 95 | 20 => 20 | 37 => 22 | 127 => 119 | 21 => 21 | 105 => 128 | 164 => 133 | 162 => 168 | 203 => 166 | 119 => 161 | 46 => 109 | 139 => 164 | 138 => 163 | 51 => 144 | 160 => 176 | 208 => 185 | 206 => 183 | 80 => 103 | n => n, fun | 13 => 4 | 3 => 2 | 4 => 3 | n => n⟩
theorem Tryz.lays158 : Go.Proofs.Lays.n158 Tryz.prog Tryz.lays158_ren := {
  mixed := by kernel_rfl
  f118 := Tryz.func183.trans (congrArg some (by kernel_rfl))
  f158 := Tryz.func137.trans (congrArg some (by kernel_rfl))
  f165 := Tryz.func97.trans (congrArg some (by kernel_rfl))
  f166 := Tryz.func98.trans (congrArg some (by kernel_rfl))
  f167 := Tryz.func161.trans (congrArg some (by kernel_rfl))
  f168 := Tryz.func184.trans (congrArg some (by kernel_rfl))
  f169 := Tryz.func99.trans (congrArg some (by kernel_rfl))
  f197 := Tryz.func158.trans (congrArg some (by kernel_rfl))
  f203 := Tryz.func163.trans (congrArg some (by kernel_rfl))
  f230 := Tryz.func162.trans (congrArg some (by kernel_rfl))
  f240 := Tryz.func138.trans (congrArg some (by kernel_rfl))
  f241 := Tryz.func139.trans (congrArg some (by kernel_rfl))
  f242 := Tryz.func194.trans (congrArg some (by kernel_rfl))
  f260 := Tryz.func181.trans (congrArg some (by kernel_rfl))
  f262 := Tryz.func186.trans (congrArg some (by kernel_rfl))
  f270 := Tryz.func185.trans (congrArg some (by kernel_rfl))
  f274 := Tryz.func202.trans (congrArg some (by kernel_rfl))
  f275 := Tryz.func203.trans (congrArg some (by kernel_rfl))
  f276 := Tryz.func164.trans (congrArg some (by kernel_rfl))
  f277 := Tryz.func165.trans (congrArg some (by kernel_rfl))
  f278 := Tryz.func201.trans (congrArg some (by kernel_rfl))
  f313 := Tryz.func195.trans (congrArg some (by kernel_rfl))
  t0 := Tryz.underlying0
  a0 := Tryz.isAgg0
  z0 := Tryz.sizeOf0
  v0 := Tryz.zeroValue0
  t3 := Tryz.underlying3
  a3 := Tryz.isAgg3
  z3 := Tryz.sizeOf3
  v3 := Tryz.zeroValue3
  t4 := Tryz.underlying4
  a4 := Tryz.isAgg4
  z4 := Tryz.sizeOf4
  v4 := Tryz.zeroValue4
  t5 := Tryz.underlying5
  a5 := Tryz.isAgg5
  z5 := Tryz.sizeOf5
  v5 := Tryz.zeroValue5
  t9 := Tryz.underlying9
  a9 := Tryz.isAgg9
  z9 := Tryz.sizeOf9
  v9 := Tryz.zeroValue9
  t20 := Tryz.underlying20
  a20 := Tryz.isAgg20
  z20 := Tryz.sizeOf20
  v20 := Tryz.zeroValue20
  t21 := Tryz.underlying21
  a21 := Tryz.isAgg21
  z21 := Tryz.sizeOf21
  v21 := Tryz.zeroValue21
  t37 := Tryz.underlying22
  a37 := Tryz.isAgg22
  z37 := Tryz.sizeOf22
  v37 := Tryz.zeroValue22
  t46 := Tryz.underlying109
  a46 := Tryz.isAgg109
  z46 := Tryz.sizeOf109
  v46 := Tryz.zeroValue109
  t51 := Tryz.underlying144
  a51 := Tryz.isAgg144
  z51 := Tryz.sizeOf144
  v51 := Tryz.zeroValue144
  t70 := Tryz.underlying95
  a70 := Tryz.isAgg95
  z70 := Tryz.sizeOf95
  v70 := Tryz.zeroValue95
  t72 := Tryz.underlying97
  a72 := Tryz.isAgg97
  z72 := Tryz.sizeOf97
  v72 := Tryz.zeroValue97
  t75 := Tryz.underlying100
  a75 := Tryz.isAgg100
  z75 := Tryz.sizeOf100
  v75 := Tryz.zeroValue100
  t76 := Tryz.underlying101
  a76 := Tryz.isAgg101
  z76 := Tryz.sizeOf101
  v76 := Tryz.zeroValue101
  t105 := Tryz.underlying128
  a105 := Tryz.isAgg128
  z105 := Tryz.sizeOf128
  v105 := Tryz.zeroValue128
  t107 := Tryz.underlying132
  a107 := Tryz.isAgg132
  z107 := Tryz.sizeOf132
  v107 := Tryz.zeroValue132
  t119 := Tryz.underlying161
  a119 := Tryz.isAgg161
  z119 := Tryz.sizeOf161
  t127 := Tryz.underlying119
  a127 := Tryz.isAgg119
  z127 := Tryz.sizeOf119
  v127 := Tryz.zeroValue119
  t138 := Tryz.underlying163
  a138 := Tryz.isAgg163
  z138 := Tryz.sizeOf163
  v138 := Tryz.zeroValue163
  t139 := Tryz.underlying164
  a139 := Tryz.isAgg164
  z139 := Tryz.sizeOf164
  v139 := Tryz.zeroValue164
  t160 := Tryz.underlying176
  a160 := Tryz.isAgg176
  z160 := Tryz.sizeOf176
  v160 := Tryz.zeroValue176
  t162 := Tryz.underlying168
  a162 := Tryz.isAgg168
  z162 := Tryz.sizeOf168
  v162 := Tryz.zeroValue168
  t164 := Tryz.underlying133
  a164 := Tryz.isAgg133
  z164 := Tryz.sizeOf133
  v164 := Tryz.zeroValue133
  t203 := Tryz.underlying166
  a203 := Tryz.isAgg166
  z203 := Tryz.sizeOf166
  v203 := Tryz.zeroValue166
  t206 := Tryz.underlying183
  a206 := Tryz.isAgg183
  z206 := Tryz.sizeOf183
  v206 := Tryz.zeroValue183
  t208 := Tryz.underlying185
  a208 := Tryz.isAgg185
  z208 := Tryz.sizeOf185
  v208 := Tryz.zeroValue185
  g3 := by kernel_rfl
  g4 := by kernel_rfl
  g13 := by kernel_rfl }
def Tryz.lays150_ren : Go.Shelf.Ren := ⟨fun | 150 => 52 | 153 => 94 | 152 => 129 | 226 => 130 | 227 => 131 | 228 => 132 | 137 => 155 | 119 => 156 | 224 => 152 | 225 => 151 | 217 => 150 | 266 => 179 | n => n, fun | 9 => 9 | 4 => 4 | 3 => 3 | 5 => 5 | 21 => 21 | 117 => 114 | 116 => 113 | 0 => 0 | 46 => 109 | 124 => 126 | n => n, fun | n => n⟩
theorem Tryz.lays150 : Go.Proofs.Lays.n150 Tryz.prog Tryz.lays150_ren := {
  mixed := by kernel_rfl
  f119 := Tryz.func156.trans (congrArg some (by kernel_rfl))
  f137 := Tryz.func155.trans (congrArg some (by kernel_rfl))
  f150 := Tryz.func52.trans (congrArg some (by kernel_rfl))
  f152 := Tryz.func129.trans (congrArg some (by kernel_rfl))
  f153 := Tryz.func94.trans (congrArg some (by kernel_rfl))
  f217 := Tryz.func150.trans (congrArg some (by kernel_rfl))
  f224 := Tryz.func152.trans (congrArg some (by kernel_rfl))
  f225 := Tryz.func151.trans (congrArg some (by kernel_rfl))
  f226 := Tryz.func130.trans (congrArg some (by kernel_rfl))
  f227 := Tryz.func131.trans (congrArg some (by kernel_rfl))
  f228 := Tryz.func132.trans (congrArg some (by kernel_rfl))
  f266 := Tryz.func179.trans (congrArg some (by kernel_rfl))
  t0 := Tryz.underlying0
  a0 := Tryz.isAgg0
  z0 := Tryz.sizeOf0
  v0 := Tryz.zeroValue0
  t3 := Tryz.underlying3
  a3 := Tryz.isAgg3
  z3 := Tryz.sizeOf3
  v3 := Tryz.zeroValue3
  t4 := Tryz.underlying4
  a4 := Tryz.isAgg4
  z4 := Tryz.sizeOf4
  v4 := Tryz.zeroValue4
  t5 := Tryz.underlying5
  a5 := Tryz.isAgg5
  z5 := Tryz.sizeOf5
  v5 := Tryz.zeroValue5
  t9 := Tryz.underlying9
  a9 := Tryz.isAgg9
  z9 := Tryz.sizeOf9
  v9 := Tryz.zeroValue9
  t21 := Tryz.underlying21
  a21 := Tryz.isAgg21
  z21 := Tryz.sizeOf21
  v21 := Tryz.zeroValue21
  t46 := Tryz.underlying109
  a46 := Tryz.isAgg109
  z46 := Tryz.sizeOf109
  v46 := Tryz.zeroValue109
  t116 := Tryz.underlying113
  a116 := Tryz.isAgg113
  z116 := Tryz.sizeOf113
  t117 := Tryz.underlying114
  a117 := Tryz.isAgg114
  z117 := Tryz.sizeOf114
  v117 := Tryz.zeroValue114
  t124 := Tryz.underlying126
  a124 := Tryz.isAgg126
  z124 := Tryz.sizeOf126
  v124 := Tryz.zeroValue126 }
end Go.Proofs
namespace Go.Proofs.YtmhohponikolfaaGreatDoor
set_option linter.unusedVariables false
set_option linter.unusedSimpArgs false
open Go.RowKit
theorem inL_opn (n : Int) (h0 : 0 ≤ n) (h1 : n ≤ 255) : decide (0 ≤ Lib.indexByte opnL n.toNat.toUInt8) = inL opnL n := by
  have hn : ((n.toNat.toUInt8).toNat : Int) = n := by simp; omega
  have h := Lib.contains_iff_indexByte opnL n.toNat.toUInt8
  rw [← h]
  unfold inL
  rw [Bool.eq_iff_iff, List.contains_iff_mem, List.any_eq_true]
  constructor
  · intro hm
    exact ⟨_, hm, by rw [beq_iff_eq]; exact hn⟩
  · rintro ⟨x, hx, he⟩
    rw [beq_iff_eq] at he
    have : x = n.toNat.toUInt8 := by
      apply UInt8.toNat_inj.1
      omega
    rw [← this]; exact hx
set_option maxRecDepth 100000 in
set_option maxHeartbeats 1000000 in
theorem IndexByteN_any (s : ByteArray) (c : Int) (w : World) :
    Calls Tryz.prog 150 #[.string s, .int .u8 c] w fun e w' => e = .returned (.int .i64 (Lib.indexByte s.data.toList c.toNat.toUInt8)) ∧ w' = w := by
  go_enter Tryz.func150, Tryz.ntmps150
  go_wp2
  rw [run_callFunc_extern Tryz.func179 (by kernel_rfl) (by kernel_rfl) (by kernel_rfl) (e := Extern.BytealgIndexByte.indexByte) (by kernel_rfl), Lib.run_indexByteString]
  simp only [Result.andThen]
  rw [Oper.upon_value]
  go_wp2
  go_ret
  exact ⟨rfl, rfl⟩
set_option maxHeartbeats 1000000 in
theorem sIndexByte_any (s : ByteArray) (c : Int) (w : World) :
    Calls Tryz.prog 155 #[.string s, .int .u8 c] w fun e w' => e = .returned (.int .i64 (Lib.indexByte s.data.toList c.toNat.toUInt8)) ∧ w' = w := by
  go_enter Tryz.func155, Tryz.ntmps155
  go_wp2_with (go_at_call 150; refine (IndexByteN_any _ _ _).mono ?_; rintro e w' ⟨rfl, rfl⟩)
  go_ret
  exact ⟨rfl, rfl⟩
theorem opnP_let {n : Int} (h : letP n = true) : opnP n = true := by simp [opnP, h]
theorem opnP_dig {n : Int} (h : digP n = true) : opnP n = true := by simp [opnP, h]
theorem opnP_sig {n : Int} (h1 : letP n = false) (h2 : digP n = false) : opnP n = inL opnL n := by simp [opnP, h1, h2]
set_option maxHeartbeats 1000000 in
theorem openByte_any (n : Int) (w : World) (h0 : 0 ≤ n) (h1 : n ≤ 255) :
    Calls Tryz.prog 136 #[.int .u8 n] w fun e w' => e = .returned (.bool (opnP n)) ∧ w' = w := by
  have HI := hideB2 (fun W => sIndexByte_any ⟨#[45, 46, 95, 126]⟩ n W)
  have HO := hideB2 (inL_opn n h0 h1)
  change Hid (∀ W, Calls _ _ _ W fun e w' => e = .returned (.int .i64 (Lib.indexByte opnL n.toNat.toUInt8)) ∧ w' = W) at HI
  generalize Lib.indexByte opnL n.toNat.toUInt8 = x at *
  cases hl : letP n
  · cases hd : digP n
    · rw [opnP_sig hl hd]
      have H2 := hideB2 (fun W => letterByte_any n W h0 h1)
      have H3 := hideB2 (fun W => digitByte_any n W)
      have HL := hideB2 hl
      have HD := hideB2 hd
      rw [hl] at H2
      rw [hd] at H3
      clear hl hd
      go_enter Tryz.func136, Tryz.ntmps136
      go_wp2_with (first | (go_at_call 143; refine (H2.out _).mono ?_; rintro e w' ⟨rfl, rfl⟩) | (go_at_call 126; refine (H3.out _).mono ?_; rintro e w' ⟨rfl, rfl⟩) | (go_at_call 155; refine (HI.out _).mono ?_; rintro e w' ⟨rfl, rfl⟩))
      go_ret
      exact ⟨ret_bool HO.out.symm, rfl⟩
    · rw [opnP_dig hd]
      have H2 := hideB2 (fun W => letterByte_any n W h0 h1)
      have H3 := hideB2 (fun W => digitByte_any n W)
      rw [hl] at H2
      rw [hd] at H3
      clear hl hd
      go_enter Tryz.func136, Tryz.ntmps136
      go_wp2_with (first | (go_at_call 143; refine (H2.out _).mono ?_; rintro e w' ⟨rfl, rfl⟩) | (go_at_call 126; refine (H3.out _).mono ?_; rintro e w' ⟨rfl, rfl⟩))
      go_ret
      exact ⟨rfl, rfl⟩
  · rw [opnP_let hl]
    have H2 := hideB2 (fun W => letterByte_any n W h0 h1)
    rw [hl] at H2
    clear hl
    go_enter Tryz.func136, Tryz.ntmps136
    go_wp2_with (go_at_call 143; refine (H2.out _).mono ?_; rintro e w' ⟨rfl, rfl⟩)
    go_ret
    exact ⟨rfl, rfl⟩
set_option maxHeartbeats 1000000 in
theorem l7free_any (n : Int) (w : World) (h0 : 0 ≤ n) (h1 : n ≤ 255) :
    Calls Tryz.prog 101 #[.int .u8 n] w fun e w' => e = .returned (.bool (opnP n)) ∧ w' = w := by
  have HH := hideB2 (fun W => l1has_any ⟨#[45, 46, 95, 126]⟩ n W (by decide))
  change Hid (∀ W, Calls _ _ _ W fun e w' => e = .returned (.bool (inL opnL n)) ∧ w' = W) at HH
  have H3 := hideB2 (fun W => l1digit_any n W)
  have HL := hideB2 (fun W => l1lower_any n W h0 h1)
  have HP : opnP n = (letP n || (digP n || inL opnL n)) := by unfold opnP; rw [Bool.or_assoc]
  rw [HP]
  unfold letP
  clear HP
  generalize lowI n = m at *
  generalize inL opnL n = z at *
  generalize digP n = d at *
  by_cases a1 : 97 ≤ m
  · by_cases a2 : m ≤ 122
    · rw [decide_eq_true a1, decide_eq_true a2]
      go_enter Tryz.func101, Tryz.ntmps101
      go_wp2_with (first | (go_at_call 76; refine (HL.out _).mono ?_; rintro e w' ⟨rfl, rfl⟩) | (go_at_call 103; refine (H3.out _).mono ?_; rintro e w' ⟨rfl, rfl⟩) | (go_at_call 117; refine (HH.out _).mono ?_; rintro e w' ⟨rfl, rfl⟩))
      go_ret
      exact ⟨rfl, rfl⟩
    · have d2 := decide_eq_false a2
      rw [d2, Bool.and_false, Bool.false_or]
      cases d
      · go_enter Tryz.func101, Tryz.ntmps101
        go_wp2_with (first | (go_at_call 76; refine (HL.out _).mono ?_; rintro e w' ⟨rfl, rfl⟩) | (go_at_call 103; refine (H3.out _).mono ?_; rintro e w' ⟨rfl, rfl⟩) | (go_at_call 117; refine (HH.out _).mono ?_; rintro e w' ⟨rfl, rfl⟩))
        go_ret
        exact ⟨rfl, rfl⟩
      · go_enter Tryz.func101, Tryz.ntmps101
        go_wp2_with (first | (go_at_call 76; refine (HL.out _).mono ?_; rintro e w' ⟨rfl, rfl⟩) | (go_at_call 103; refine (H3.out _).mono ?_; rintro e w' ⟨rfl, rfl⟩) | (go_at_call 117; refine (HH.out _).mono ?_; rintro e w' ⟨rfl, rfl⟩))
        go_ret
        exact ⟨rfl, rfl⟩
  · rw [decide_eq_false a1, Bool.false_and, Bool.false_or]
    cases d
    · go_enter Tryz.func101, Tryz.ntmps101
      go_wp2_with (first | (go_at_call 76; refine (HL.out _).mono ?_; rintro e w' ⟨rfl, rfl⟩) | (go_at_call 103; refine (H3.out _).mono ?_; rintro e w' ⟨rfl, rfl⟩) | (go_at_call 117; refine (HH.out _).mono ?_; rintro e w' ⟨rfl, rfl⟩))
      go_ret
      exact ⟨rfl, rfl⟩
    · go_enter Tryz.func101, Tryz.ntmps101
      go_wp2_with (first | (go_at_call 76; refine (HL.out _).mono ?_; rintro e w' ⟨rfl, rfl⟩) | (go_at_call 103; refine (H3.out _).mono ?_; rintro e w' ⟨rfl, rfl⟩) | (go_at_call 117; refine (HH.out _).mono ?_; rintro e w' ⟨rfl, rfl⟩))
      go_ret
      exact ⟨rfl, rfl⟩
/-- A letter a to z as its great one, on numbers. -/
def upI (n : Int) : Int := if 97 ≤ n ∧ n ≤ 122 then n - 32 else n
theorem up8_toNat (b : UInt8) : ((up8 b).toNat : Int) = upI (b.toNat : Int) := by
  unfold up8 upI
  have hb := b.toNat_lt
  by_cases h : 97 ≤ b.toNat ∧ b.toNat ≤ 122
  · rw [if_pos h, if_pos (by omega)]
    rw [UInt8.toNat_sub]
    simp
    omega
  · rw [if_neg h, if_neg (by omega)]
set_option maxHeartbeats 1000000 in
theorem l7upper_any (n : Int) (w : World) (h0 : 0 ≤ n) (h1 : n ≤ 255) :
    Calls Tryz.prog 102 #[.int .u8 n] w fun e w' => e = .returned (.int .u8 (upI n)) ∧ w' = w := by
  unfold upI
  by_cases a1 : 97 ≤ n
  · by_cases a2 : n ≤ 122
    · rw [if_pos ⟨a1, a2⟩]
      have e1 : IntKind.u8.wrap (n - 32) = n - 32 := by rw [IntKind.wrap_u8]; omega
      go_enter Tryz.func102, Tryz.ntmps102
      go_wp2
      go_ret
      exact ⟨ret_int (by first | rfl | omega), rfl⟩
    · rw [if_neg (by omega)]
      go_enter Tryz.func102, Tryz.ntmps102
      go_wp2
      go_ret
      exact ⟨rfl, rfl⟩
  · rw [if_neg (by omega)]
    go_enter Tryz.func102, Tryz.ntmps102
    go_wp2
    go_ret
    exact ⟨rfl, rfl⟩
/-- The two digits behind the first byte, as ReadHex takes them. -/
theorem rhex_two {s : ByteArray} (h : 3 ≤ s.size) (i : Nat) (hi : i + 3 ≤ s.size) : rhexOk (s.extract (i + 1) (i + 3)) = (hexP (at8 s (i + 1)) && hexP (at8 s (i + 2))) ∧ (rhexOk (s.extract (i + 1) (i + 3)) = true → rhexN (s.extract (i + 1) (i + 3)) = ((nam8 (at8 s (i + 1)) (at8 s (i + 2))).toNat : Int)) := by
  have e : (s.extract (i + 1) (i + 3)).data.toList = [at8 s (i + 1), at8 s (i + 2)] := by
    rw [Lib.extract_data, drop_at8 (i := i + 1) (by omega), drop_at8 (i := i + 1 + 1) (by omega), show i + 3 - (i + 1) = 2 by omega]
    rfl
  have hz : (s.extract (i + 1) (i + 3)).size = 2 := by rw [ByteArray.size_extract]; omega
  have e1 : rhexOk (s.extract (i + 1) (i + 3)) = (hexP (at8 s (i + 1)) && hexP (at8 s (i + 2))) := by
    unfold rhexOk
    rw [hz, e]
    simp [allHex, hexP]
  refine ⟨e1, fun ht => ?_⟩
  rw [e1, Bool.and_eq_true] at ht
  unfold rhexN
  rw [e1, ht.1, ht.2, Bool.and_self, if_pos rfl, e]
  have b1 := hexV_bd ((at8 s (i + 1)).toNat : Int)
  have b2 := hexV_bd ((at8 s (i + 2)).toNat : Int)
  have g1 : 0 ≤ hex8 (at8 s (i + 1)) := by simpa [hexP] using ht.1
  have g2 : 0 ≤ hex8 (at8 s (i + 2)) := by simpa [hexP] using ht.2
  have g3 : hex8 (at8 s (i + 1)) ≤ 15 := b1.2
  have g4 : hex8 (at8 s (i + 2)) ≤ 15 := b2.2
  unfold nam8
  simp only [hval, List.foldl_cons, List.foldl_nil]
  simp
  omega
end Go.Proofs.YtmhohponikolfaaGreatDoor
namespace Go.Proofs.YtmhohponikolfaaGreatDoor
set_option linter.unusedVariables false
set_option linter.unusedSimpArgs false
open Go.RowKit
theorem below_drewN {B : Nat} {w w' : World} (h : Below B w w') (n : Nat) : Below B w (w'.drewN n) := h.trans ⟨rfl, rfl, rfl, Nat.le_refl _, fun _ _ => rfl⟩
/-- A block that is known whole. -/
def Blk (w : World) (b : Nat) (c : Array Value) (t : TypeId) : Prop := w.heap[b]? = some (.cells c t (0, 0))
theorem Blk.lt {w : World} {b : Nat} {c : Array Value} {t : TypeId} (h : Blk w b c t) : b < w.heap.size := (Array.getElem?_eq_some_iff.1 h).1
theorem Blk.cell {w : World} {b : Nat} {c : Array Value} {t : TypeId} (h : Blk w b c t) (j : Nat) : w.cell? ⟨b, j, none⟩ = c[j]? := by
  unfold Blk at h
  simp [World.cell?, h]
theorem Blk.free {w : World} {b : Nat} {c : Array Value} {t : TypeId} (h : Blk w b c t) (j : Nat) : w.frozen? ⟨b, j, none⟩ = false := by
  unfold Blk at h
  simp [World.frozen?, h]
theorem Blk.new (w : World) (c : Array Value) (t : TypeId) : Blk (w.alloc (.cells c t)) w.heap.size c t := heap_alloc_last w _
theorem Blk.kept {w w' : World} {b B : Nat} {c : Array Value} {t : TypeId} (h : Blk w b c t) (k : Below B w w') (hb : b < B) : Blk w' b c t := by
  unfold Blk at *
  rw [k.block b hb]; exact h
theorem Blk.later {w w' : World} {b : Nat} {c : Array Value} {t : TypeId} (h : Blk w b c t) (k : Below w.heap.size w w') : Blk w' b c t := h.kept k h.lt
theorem Blk.alloc {w : World} {b : Nat} {c : Array Value} {t : TypeId} (h : Blk w b c t) (o : Obj) : Blk (w.alloc o) b c t := h.later (below_a1 w o)
theorem Blk.drew {w : World} {b : Nat} {c : Array Value} {t : TypeId} (h : Blk w b c t) : Blk w.drew b c t := h
theorem Blk.drewN {w : World} {b : Nat} {c : Array Value} {t : TypeId} (h : Blk w b c t) (n : Nat) : Blk (w.drewN n) b c t := h
theorem Blk.set {w : World} {b : Nat} {c : Array Value} {t : TypeId} (h : Blk w b c t) (j : Nat) (v : Value) : Blk (w.setCell ⟨b, j, none⟩ v) b (c.setIfInBounds j v) t := by
  rw [setCell_eq_setRow w b j c t (0, 0) v h]
  exact setRow_heap w b c _ t _ h
theorem Blk.other {w : World} {b b' : Nat} {c : Array Value} {t : TypeId} (h : Blk w b c t) (hne : b' ≠ b) (j : Nat) (v : Value) : Blk (w.setCell ⟨b', j, none⟩ v) b c t := by
  unfold Blk at *
  simp [World.setCell, Array.getElem?_modify, hne, h]

theorem Blk.load {P : Program} {w : World} {b : Nat} {c : Array Value} {t ty : TypeId} {n : Nat} {e : TypeId} (h : Blk w b c t) (hu : P.underlying ty = some (.array n e)) (hi : (P.info? ty).map (·.size) = some c.size) :
    (Instr.loadAt ty (.pointer (some ⟨b, 0, none⟩))).run P w = .ok (.agg c) w := by
  simp only [Instr.loadAt, Instr.sureAddr, Sem.run_bind, Sem.run_pure, Result.andThen]
  exact run_loadVar_row w b t ty c (0, 0) _ h hu rfl hi
theorem Blk.loadV {P : Program} {w : World} {b : Nat} {c : Array Value} {t ty : TypeId} {n : Nat} {e : TypeId} (h : Blk w b c t) (hu : P.underlying ty = some (.array n e)) (hi : (P.info? ty).map (·.size) = some c.size) :
    (loadVar ty ⟨b, 0, none⟩).run P w = .ok (.agg c) w := run_loadVar_row w b t ty c (0, 0) _ h hu rfl hi
theorem Blk.store {P : Program} {w : World} {b : Nat} {c c' : Array Value} {t ty : TypeId} (h : Blk w b c t) (hi : (P.info? ty).map (·.size) = some c'.size) (ho : c.size = c'.size) (h1 : c'.all (·.oneCell') = true) :
    (Instr.storeAt ty (.pointer (some ⟨b, 0, none⟩)) (.agg c')).run P w = .ok () (w.setRow b c') := by
  simp only [Instr.storeAt, Instr.sureAddr, Sem.run_bind, Sem.run_pure, Result.andThen]
  exact run_storeVar_row w b t ty c c' h hi ho h1
theorem Blk.row {w : World} {b : Nat} {c c' : Array Value} {t : TypeId} (h : Blk w b c t) : Blk (w.setRow b c') b c' t := setRow_heap w b c c' t _ h
theorem Blk.rowOther {w : World} {b b' : Nat} {c c' : Array Value} {t : TypeId} (h : Blk w b c t) (hne : b' ≠ b) : Blk (w.setRow b' c') b c t := by
  unfold Blk at *
  rw [setRow_other w b' b c' (by omega)]
  exact h

theorem wp_loadA {P : Program} {ops : Array Oper} {rest : List Oper} {o : Oper} {a : Act} {Q : Exit → Act → World → Prop} {w : World} {b : Nat} {c : Array Value} {t ty : TypeId} {n : Nat} {e : TypeId} (hg : o.guard = none) (x : Operand) (ho : o.op = Op.load ty x)
    (hx : a.eval x = .pointer (some ⟨b, 0, none⟩)) (hB : Blk w b c t) (hu : P.underlying ty = some (.array n e)) (hi : (P.info? ty).map (·.size) = some c.size)
    (k : wpList P ops Q rest (a.put o.dst (.agg c)) w) : wpList P ops Q (o :: rest) a w := by
  refine wpList_plain hg fun K hK => ?_
  have hrun := hB.load hu hi
  unfold Oper.wp
  simp [execOp, ho, hx, hrun, Result.andThen]
  exact hK _ _ k
theorem wp_storeA {P : Program} {ops : Array Oper} {rest : List Oper} {o : Oper} {a : Act} {Q : Exit → Act → World → Prop} {w : World} {b : Nat} {c c' : Array Value} {t ty : TypeId} (hg : o.guard = none) (hd : o.dst = none) (x y : Operand) (ho : o.op = Op.store ty x y)
    (hx : a.eval x = .pointer (some ⟨b, 0, none⟩)) (hy : a.eval y = .agg c') (hB : Blk w b c t) (hi : (P.info? ty).map (·.size) = some c'.size) (hs : c.size = c'.size) (h1 : c'.all (·.oneCell') = true)
    (k : wpList P ops Q rest a (w.setRow b c')) : wpList P ops Q (o :: rest) a w := by
  refine wpList_plain hg fun K hK => ?_
  have hrun := hB.store hi hs h1
  unfold Oper.wp
  simp [execOp, ho, hx, hy, hrun, Result.andThen]
  have e : a.put o.dst undef = a := by rw [hd]; rfl
  have k' : wpList P ops Q rest (a.put o.dst undef) (w.setRow b c') := by rw [e]; exact k
  exact hK _ _ k'
theorem results_cell1 {fn : Func} {p : Tmp} {ty : TypeId} (h : fn.results = #[.cell p ty]) (tmps : Array Value) (P : Program) (w : World) {b : Nat} {c : Array Value} {t : TypeId} {n : Nat} {e : TypeId} (hp : tmps.getD p undef = .pointer (some ⟨b, 0, none⟩)) (hB : Blk w b c t)
    (hu : P.underlying ty = some (.array n e)) (hi : (P.info? ty).map (·.size) = some c.size) : (results fn tmps).run P w = .ok (.agg c) w := by
  have hrun := hB.loadV hu hi
  have ha : (asAddr (tmps.getD p undef)).run P w = .ok ⟨b, 0, none⟩ w := by rw [hp]; rfl
  have he : (results fn tmps).run P w = ((asAddr (tmps.getD p undef)).run P w).andThen fun a w₁ => (loadVar ty a).run P w₁ := by
    simp only [results, h]
    simp [Sem.run_bind, Result.andThen]
  rw [he, ha]
  exact hrun
end Go.Proofs.YtmhohponikolfaaGreatDoor
namespace Go.Proofs.YtmhohponikolfaaGreatDoor
set_option linter.unusedVariables false
set_option linter.unusedSimpArgs false
open Go
section
variable {P : Program} {md : Region.Mode} {ops : Array Oper} {C : World → Prop}
/-- No operation from n on comes up while one of k0 .. n - 1 has not. -/
def Waits (md : Region.Mode) (ops : Array Oper) (k0 n : Nat) : Prop :=
  ∀ up, HeadInv md ops n up → ∀ i, k0 ≤ i → i < n → up.getD i true = false → ∀ t, n ≤ t → t ∉ Region.ready md ops up
/-- The operations below n, in whatever order; where f of them have come up, L. -/
def Hd (P : Program) (md : Region.Mode) (ops : Array Oper) (C : World → Prop) (n : Nat) (L : Array Bool → Act → Prop) : Nat → Array Bool → Act → Prop
  | 0 => L
  | f + 1 => fun up a => (∃ i, i ∈ Region.ready md ops up) ∧ ∀ i ∈ Region.ready md ops up, i < n ∧ qOp P ops C i (Hd P md ops C n L f (up.setIfInBounds i true)) a
theorem Hd.wp {n g : Nat} {L : Array Bool → Act → Prop} {Q : Exit → Act → World → Prop} (hL : ∀ up a w, C w → L up a → wpAny P md ops Q g up a w) (f : Nat) :
    ∀ up a w, C w → Hd P md ops C n L f up a → wpAny P md ops Q (f + g) up a w := by
  induction f with
  | zero => intro up a w hw h; rw [Nat.zero_add]; exact hL up a w hw h
  | succ f ih =>
    intro up a w hw ⟨⟨i0, h0⟩, h⟩
    have e : f + 1 + g = (f + g) + 1 := by omega
    rw [e]
    refine ⟨fun hn => ?_, fun i hi => wpOp_of_qOp hw (fun a' w' hw' h' => ih _ a' w' hw' h') (h i hi).2⟩
    rw [hn] at h0; cases h0
/-- What may come up now, and yields the same in every world of the class, may be taken first. -/
theorem Hd.first {n i : Nat} {oi : Oper} {v : Value} {L : Array Bool → Act → Prop} (hi : ops[i]? = some oi) (hsel : Region.noSelect ops = true) (k0 : Nat) (hw : Waits md ops k0 n) (hk : k0 ≤ i) (hin : i < n)
    (hL : ∀ up a, L up a → ∀ j ∈ Region.ready md ops up, n ≤ j) (f : Nat) :
    ∀ up a, HeadInv md ops n up → (∀ j oj, ops[j]? = some oj → j ≠ i → up.getD j true = false → (∀ e ∈ oj.after, Region.binds md e = true → e.on ≠ i) → oi.apart ops oj = true) →
      i ∈ Region.ready md ops up → YieldsIn P ops C oi v a → Hd P md ops C n L f (up.setIfInBounds i true) (a.put oi.dst v) → Hd P md ops C n L (f + 1) up a := by
  have hno := Region.noSelect_spec hsel
  induction f with
  | zero =>
    intro up a inv _ hr hy H
    refine ⟨⟨i, hr⟩, fun j hj => ?_⟩
    have hjn : j < n := Nat.lt_of_not_le fun h => hw up inv i hk hin (mem_ready.1 hr).1 j h hj
    refine ⟨hjn, ?_⟩
    by_cases e : j = i
    · subst e; exact hy.qOp hi H
    · have := hL _ _ H j (ready_mono hj e)
      omega
  | succ f ih =>
    intro up a inv hap hr hy H
    refine ⟨⟨i, hr⟩, fun j hj => ?_⟩
    have hjn : j < n := Nat.lt_of_not_le fun h => hw up inv i hk hin (mem_ready.1 hr).1 j h hj
    refine ⟨hjn, ?_⟩
    by_cases e : j = i
    · subst e; exact hy.qOp hi H
    · obtain ⟨hju, oj, hoj, hall⟩ := mem_ready.1 hj
      have hnw : ∀ x ∈ oj.after, Region.binds md x = true → x.on ≠ i := by
        intro x hx hb ho
        have h1 := hall x hx hb
        rw [ho, getD_both (mem_ready.1 hr).1] at h1
        cases h1
      refine qOp_mono (fun a' h' => ?_) (qOp_put hoj (hap j oj hoj e hju hnw) (fun cs b => hno i oi cs b hi) (fun cs b => hno j oj cs b hoj) hy (H.2 j (ready_mono hj e)).2)
      refine ih _ a' (inv.set hj hjn) (fun k ok hk hki hun hw => hap k ok hk hki ?_ hw) (ready_mono hr (Ne.symm e)) h'.1 ?_
      · by_cases ejk : j = k
        · subst ejk; exact hju
        · rwa [getD_set_ne true ejk] at hun
      · rw [Array.setIfInBounds_comm _ _ e]; exact h'.2
theorem Hd.text {n g : Nat} {Lq : Act → Prop} (hsel : Region.noSelect ops = true) (k0 : Nat) (hw : Waits md ops k0 n) (l : List Oper) :
    ∀ k up a, k0 ≤ k → (∀ j, j < l.length → l[j]? = ops[k + j]?) → k + l.length = n → HeadInv md ops n up → Region.lexHead md ops g l.length k up = true → wpQuiet P ops C Lq l a →
      Hd P md ops C n (fun up' a' => Region.seqB md ops g n up' = true ∧ Lq a') l.length up a := by
  induction l with
  | nil =>
    intro k up a _ _ hk _ hB h
    obtain rfl : k = n := by simpa using hk
    exact ⟨by simpa [Region.lexHead] using hB, h⟩
  | cons o l ih =>
    intro k up a hk0 hl hk inv hB h
    have h0 : ops[k]? = some o := by simpa using (hl 0 (by simp)).symm
    simp only [List.length_cons, Region.lexHead, Bool.and_eq_true] at hB
    obtain ⟨⟨hr0, hf⟩, hB'⟩ := hB
    have hr : k ∈ Region.ready md ops up := by simpa using hr0
    simp only [List.length_cons] at hk
    have hq : qOp P ops C k (wpQuiet P ops C Lq l) a := by unfold qOp; rw [h0]; exact h
    obtain ⟨v, hy, hK⟩ := yieldsIn_of_qOp h0 hq
    refine Hd.first h0 hsel k0 hw hk0 (by omega) (fun up' a' hh => seqB_ready hh.1) l.length up a inv (Region.free_spec h0 hf) hr hy ?_
    refine ih (k + 1) _ _ (by omega) (fun j hj => ?_) (by omega) (inv.set hr (by omega)) hB' hK
    have := hl (j + 1) (by simp; omega)
    rw [show k + 1 + j = k + (j + 1) by omega, ← this]
    simp
theorem wp_region_quiet_tail {id : Nat} {Q : Exit → Act → World → Prop} {a : Act} {w : World} {l : List Oper} (C : World → Prop) (n : Nat) (hm : P.follows .mixedOrders = true) (hB : Region.lexTailB .any l.toArray n = true) (hC : C { w with drawn := w.drawn + 1 })
    (h : wpQuiet P l.toArray C (fun a' => ∀ w', C w' → wpList P l.toArray Q (l.drop n) a' w') (l.take n) a) : (Code.region id l.toArray true).wp P Q a w := by
  simp only [Region.lexTailB, Bool.and_eq_true, decide_eq_true_eq] at hB
  obtain ⟨⟨⟨⟨hsel, hn⟩, hs⟩, hc⟩, hlex⟩ := hB
  have hnl : n < l.length := by simpa using hn
  have htl : (l.take n).length = n := by simp; omega
  have hdl : (l.drop n).length = l.toArray.size - n := by simp
  have inv0 : HeadInv .any l.toArray n (Array.replicate l.toArray.size false) :=
    ⟨by simp, fun j oj _ hl => (by rw [getD_replicate_false] at hl; cases hl), fun t _ ht => getD_in (by simpa using ht) (getD_replicate_false _ _)⟩
  have H := Hd.text (C := C) (md := .any) (g := l.toArray.size - n) hsel 0 (fun up inv i _ hin hun t ht => tail_waits hs hc hn inv _ i rfl hin hun t ht) (l.take n) 0 (Array.replicate l.toArray.size false) a (Nat.le_refl _)
    (fun j hj => by rw [htl] at hj; simp [hj]) (by rw [htl]; omega) inv0 (by rw [htl]; exact hlex) h
  have HW := Hd.wp (Q := Q) (g := l.toArray.size - n) (fun up a' w' hw' hh => by
    have := wpAny_of_seq (P := P) (md := .any) (Q' := Q) (l.drop n) n up a' w' (fun j => by simp [List.getElem?_drop]) (by rw [hdl]; exact hh.1) (hh.2 w' hw')
    rwa [hdl] at this) _ _ a _ hC H
  refine wp_region_any hm ?_
  rw [htl, show n + (l.toArray.size - n) = l.toArray.size by omega] at HW
  exact HW
/-- The same, at the class 'w after some draws'. -/
theorem wp_region_draws_tail {id : Nat} {Q : Exit → Act → World → Prop} {a : Act} {w : World} {l : List Oper} (n : Nat) (hm : P.follows .mixedOrders = true) (hB : Region.lexTailB .any l.toArray n = true)
    (h : wpQuiet P l.toArray (fun w' => ∃ m, w' = w.drewN m) (fun a' => ∀ w', (∃ m, w' = w.drewN m) → wpList P l.toArray Q (l.drop n) a' w') (l.take n) a) : (Code.region id l.toArray true).wp P Q a w :=
  wp_region_quiet_tail (fun w' => ∃ m, w' = w.drewN m) n hm hB ⟨1, rfl⟩ h
/-- Each of k0 .. n - 1 is waited for by a later one up to n, each behind n by the next. -/
def lateB (md : Region.Mode) (ops : Array Oper) (k0 n : Nat) : Bool :=
  ((List.range n).all fun i => decide (i < k0) || (List.range (n + 1)).any fun j => decide (i < j) && Region.waitsFor md ops j i) && Region.chainB md ops n
theorem late_waits {k0 n : Nat} (hB : lateB md ops k0 n = true) : Waits md ops k0 n := by
  simp only [lateB, Bool.and_eq_true] at hB
  obtain ⟨hs, hc⟩ := hB
  intro up inv
  have unl : ∀ {x : Nat}, x < ops.size → up.getD x false ≠ true → up.getD x true = false := fun {x} hx h => getD_in (by rw [inv.size]; exact hx) (by simpa using h)
  have key : ∀ d i, n - i = d → k0 ≤ i → i < n → up.getD i true = false → n ∉ Region.ready md ops up := by
    intro d
    induction d using Nat.strongRecOn with
    | _ d ih =>
      intro i hd hk hi hu hr
      obtain ⟨_, o, ho, hall⟩ := mem_ready.1 hr
      have h1 := List.all_eq_true.1 hs i (List.mem_range.2 hi)
      have h2 : ¬ i < k0 := by omega
      simp only [h2, decide_false, Bool.false_or, List.any_eq_true, Bool.and_eq_true, decide_eq_true_eq] at h1
      obtain ⟨j, hjm, hij, hwj⟩ := h1
      have hjn : j ≤ n := by have := List.mem_range.1 hjm; omega
      obtain ⟨oj, hoj, e, he, hbd, hon⟩ := Region.waitsFor_spec hwj
      by_cases hl : up.getD j false = true
      · have h3 := inv.closed j oj hoj hl e he hbd
        rw [hon, getD_both hu] at h3; cases h3
      · by_cases hjn' : j = n
        · subst hjn'
          obtain rfl : oj = o := Option.some.inj (hoj.symm.trans ho)
          have h3 := hall e he hbd
          rw [hon, getD_both hu] at h3; cases h3
        · exact ih (n - j) (by omega) j rfl (by omega) (by omega) (unl (Array.getElem?_eq_some_iff.1 hoj).1 hl) hr
  intro i hk hi hu t ht hr
  by_cases htn : t = n
  · subst htn; exact key _ i rfl hk hi hu hr
  · obtain ⟨_, o, ho, hall⟩ := mem_ready.1 hr
    have htl := (Array.getElem?_eq_some_iff.1 ho).1
    have h1 := List.all_eq_true.1 hc t (List.mem_range.2 htl)
    have h2 : ¬ t ≤ n := by omega
    simp only [h2, decide_false, Bool.false_or] at h1
    obtain ⟨o', ho', e, he, hbd, hon⟩ := Region.waitsFor_spec h1
    obtain rfl : o' = o := Option.some.inj (ho'.symm.trans ho)
    have h3 := hall e he hbd
    rw [hon, getD_both (inv.tail (t - 1) (by omega) (by omega))] at h3; cases h3
/-- A first operation that yields the same in every world is taken first; then as above. -/
def leadB (ops : Array Oper) (n : Nat) : Bool :=
  Region.noSelect ops && decide (0 < n) && decide (n < ops.size) && lateB .any ops 1 n && (Region.ready .any ops (Array.replicate ops.size false)).contains 0 && Region.free .any ops (Array.replicate ops.size false) 0 && Region.lexHead .any ops (ops.size - n) (n - 1) 1 ((Array.replicate ops.size false).setIfInBounds 0 true)
theorem wp_region_lead_tail {id : Nat} {Q : Exit → Act → World → Prop} {a : Act} {w : World} {o0 : Oper} {l : List Oper} (C : World → Prop) (n : Nat) (v0 : Value) (hm : P.follows .mixedOrders = true) (hB : leadB (o0 :: l).toArray (n + 1) = true)
    (hQ : ∀ c a w, Q (.panic c) (a.put o0.dst v0) w → Q (.panic c) a w) (hy : Yields P (o0 :: l).toArray o0 v0 a) (hC : C { w with drawn := w.drawn + 1 })
    (h : wpQuiet P (o0 :: l).toArray C (fun a' => ∀ w', C w' → wpList P (o0 :: l).toArray Q (l.drop n) a' w') (l.take n) (a.put o0.dst v0)) : (Code.region id (o0 :: l).toArray true).wp P Q a w := by
  simp only [leadB, Bool.and_eq_true, decide_eq_true_eq] at hB
  obtain ⟨⟨⟨⟨⟨⟨hsel, _⟩, hn⟩, hlate⟩, hr⟩, hf⟩, hlex⟩ := hB
  have hsz : (o0 :: l).toArray.size = l.length + 1 := by simp
  have hnl : n < l.length := by rw [hsz] at hn; omega
  have htl : (l.take n).length = n := by rw [List.length_take]; omega
  have hdl : (l.drop n).length = (o0 :: l).toArray.size - (n + 1) := by rw [List.length_drop, hsz]; omega
  have inv0 : HeadInv .any (o0 :: l).toArray (n + 1) (Array.replicate (o0 :: l).toArray.size false) :=
    ⟨by simp, fun j oj _ hl => (by rw [getD_replicate_false] at hl; cases hl), fun t _ ht => getD_in (by simpa using ht) (getD_replicate_false _ _)⟩
  have hr0 : 0 ∈ Region.ready .any (o0 :: l).toArray (Array.replicate (o0 :: l).toArray.size false) := by simpa using hr
  have inv1 := inv0.set hr0 (by omega)
  have H := Hd.text (C := C) (md := .any) (g := (o0 :: l).toArray.size - (n + 1)) hsel 1 (late_waits hlate) (l.take n) 1 _ (a.put o0.dst v0) (Nat.le_refl _)
    (fun j hj => by rw [htl] at hj; rw [List.getElem?_take, if_pos hj, show 1 + j = j + 1 by omega]; simp) (by rw [htl]; omega) inv1 (by rw [htl]; exact hlex) h
  have HW := Hd.wp (Q := Q) (g := (o0 :: l).toArray.size - (n + 1)) (fun up a' w' hw' hh => by
    have := wpAny_of_seq (P := P) (md := .any) (Q' := Q) (l.drop n) (n + 1) up a' w' (fun j => by rw [List.getElem?_drop, show n + 1 + j = (n + j) + 1 by omega]; simp) (by rw [hdl]; exact hh.1) (hh.2 w' hw')
    rwa [hdl] at this) _ _ (a.put o0.dst v0) _ hC H
  refine wp_region_any hm ?_
  have e : (o0 :: l).toArray.size = ((l.take n).length + ((o0 :: l).toArray.size - (n + 1))) + 1 := by rw [htl, hsz]; omega
  have T := wpAny_take (P := P) (md := .any) (i := 0) (oi := o0) (v := v0) (fuel := (l.take n).length + ((o0 :: l).toArray.size - (n + 1))) (by simp) hsel hf hr hQ hy HW
  rw [← e] at T
  exact T
/-- The same, at the class 'w after some draws'. -/
theorem wp_region_lead_draws {id : Nat} {Q : Exit → Act → World → Prop} {a : Act} {w : World} {o0 : Oper} {l : List Oper} (n : Nat) (v0 : Value) (hm : P.follows .mixedOrders = true) (hB : leadB (o0 :: l).toArray (n + 1) = true)
    (hQ : ∀ c a w, Q (.panic c) (a.put o0.dst v0) w → Q (.panic c) a w) (hy : Yields P (o0 :: l).toArray o0 v0 a)
    (h : wpQuiet P (o0 :: l).toArray (fun w' => ∃ m, w' = w.drewN m) (fun a' => ∀ w', (∃ m, w' = w.drewN m) → wpList P (o0 :: l).toArray Q (l.drop n) a' w') (l.take n) (a.put o0.dst v0)) : (Code.region id (o0 :: l).toArray true).wp P Q a w :=
  wp_region_lead_tail (fun w' => ∃ m, w' = w.drewN m) n v0 hm hB hQ hy ⟨1, rfl⟩ h
end
end Go.Proofs.YtmhohponikolfaaGreatDoor
namespace Go.Proofs.YtmhohponikolfaaGreatDoor
set_option linter.unusedVariables false
set_option linter.unusedSimpArgs false
open Go.RowKit
theorem Buf.drewU {w0 w : World} {v : Value} {l : List UInt8} (h : Buf w0 w v l) : Buf w0 w.drew v l := ⟨h.below.drew, h.own⟩
theorem Buf.drewNU {w0 w : World} {v : Value} {l : List UInt8} (h : Buf w0 w v l) (n : Nat) : Buf w0 (w.drewN n) v l :=
  ⟨below_drewN h.below n, h.own.kept (⟨rfl, rfl, rfl, Nat.le_refl _, fun _ _ _ => rfl⟩ : w.grownBy (w.drewN n) none) (by simp; exact Classical.em _)⟩
theorem three_cells (W : World) (y0 y1 y2 : UInt8) : ∀ (j : Nat) (v : Value), [c8 y0, c8 y1, c8 y2][j]? = some v → (W.alloc (.cells #[c8 y0, c8 y1, c8 y2] 5)).cell? ((⟨W.heap.size, 0, none⟩ : Addr).add j) = some v := by
  intro j v hv
  rw [Addr.add_lit, Nat.zero_add, (Blk.new W #[c8 y0, c8 y1, c8 y2] 5).cell j]
  simpa using hv
/-- append(buf, three bytes). -/
theorem wp_app3 {ops : Array Oper} {rest : List Oper} {o : Oper} {a : Act} {Q : Exit → Act → World → Prop} {W : World} (hgd : o.guard = none) (s x : Operand)
    (ho : o.op = .call { callee := .builtin .append, args := #[s, x], argTypes := #[22, 22] }) (w0 : World) (v : Value) (l : List UInt8) (hs : a.eval s = v) (hbuf : Buf w0 W v l)
    (n0 n1 n2 : Int) (y0 y1 y2 : UInt8) (h0 : n0 = (y0.toNat : Int)) (h1 : n1 = (y1.toNat : Int)) (h2 : n2 = (y2.toNat : Int)) (hx : a.eval x = .slice (some ⟨W.heap.size, 0, none⟩) 3 3) (hlen : l.length ≤ 1099511627776)
    (h : ∀ v' W', Buf w0 W' v' (l ++ [y0, y1, y2]) → wpList Tryz.prog ops Q rest (a.put o.dst v') W') :
    wpList Tryz.prog ops Q (o :: rest) a (W.alloc (.cells #[.int .u8 n0, .int .u8 n1, .int .u8 n2] 5)) := by
  subst h0 h1 h2
  obtain ⟨i0, hi, hz0, hz1, hz2⟩ := info_parts Tryz.infoU8
  refine wpList_append_own _ hgd s x 22 ho w0.heap.size 5 i0 (.int .u8 0) 1 1 Tryz.underlying22 hi hz0 hz1 hz2 rfl (by decide) v l.length (l.map c8) hs (hbuf.own.alloc _) ⟨W.heap.size, 0, none⟩ 3 3 [c8 y0, c8 y1, c8 y2] hx rfl (three_cells W y0 y1 y2) (fun u hu => by simp at hu; rcases hu with rfl | rfl | rfl <;> rfl) (by unfold maxLen; omega) (by omega) (by have := hbuf.below.size; simp; omega) ?_
  intro v' W' hown hgrow _
  refine h v' W' ⟨?_, ?_⟩
  · refine (hbuf.alloc _).below.grown hgrow (by have := hbuf.below.size; simp; omega) ?_
    intro k hk
    exact (hbuf.own.lt k hk).1
  · rw [List.length_append, List.map_append]
    exact hown
theorem ne37' {n : UInt8} (h : n ≠ 37) : ((n.toNat : Int) != 37) = true := by
  rw [bne_iff_ne]
  intro hh
  exact h (UInt8.toNat_inj.1 (by have : n.toNat = 37 := by omega
                                 rw [this]; rfl))
theorem evL_end {s : ByteArray} {k : Nat} (h : s.size ≤ k) : evL (s.data.toList.drop k) = [] := by
  rw [List.drop_of_length_le (by rw [len_data]; exact h)]; rfl
set_option maxRecDepth 100000 in
set_option maxHeartbeats 4000000 in
theorem l7percent_any (s : ByteArray) (w : World) (hs : s.size ≤ 1048576) :
    Calls Tryz.prog 59 #[.string s] w fun e w' => e = .returned (.string (evB s)) ∧ Below w.heap.size w w' := by
  have hel := evL_len s.data.toList.length s.data.toList (Nat.le_refl _)
  rw [len_data] at hel
  unfold evB
  generalize hR : evL s.data.toList = R at *
  have HR := hideB2 hR
  clear hR
  go_enter Tryz.func59, Tryz.ntmps59
  go_wp2
  go_loopw [3, 4] (fun ov i wr => ∃ (k : Nat) (o : List UInt8), k ≤ s.size ∧ i = .int .i64 k ∧ o ++ evL (s.data.toList.drop k) = R ∧ Buf w wr ov o) (fun _ i _ => s.size - (intOf i).toNat)
  case atStart => exact ⟨0, [], Nat.zero_le _, rfl, by rw [List.drop_zero, List.nil_append]; exact HR.out, Buf.start w⟩
  case round =>
    obtain ⟨k, o, hk, rfl, ho, hbuf⟩ := hrel
    have hol : o.length ≤ 1048576 := by
      have := congrArg List.length ho
      rw [List.length_append] at this
      omega
    have HO := hideB2 ho
    clear ho
    by_cases hlt : k < s.size
    · have hat : s[k] = at8 s k := at8_eq s k hlt
      by_cases h37 : at8 s k = 37 ∧ k + 3 ≤ s.size
      · obtain ⟨h37, h3⟩ := h37
        have hb : ((s[k].toNat : Int) != 37) = false := by rw [hat, h37]; rfl
        have e2 : IntKind.i64.wrap ((k : Int) + 2) = (k : Int) + 2 := by rw [IntKind.wrap_i64]; omega
        have e1 : IntKind.i64.wrap ((k : Int) + 1) = (k : Int) + 1 := by rw [IntKind.wrap_i64]; omega
        have e3 : IntKind.i64.wrap ((k : Int) + 3) = (k : Int) + 3 := by rw [IntKind.wrap_i64]; omega
        have c0 : ¬ ((s.size : Int) ≤ (k : Int) + 2) := by omega
        have c1 : (0 : Int) ≤ (k : Int) + 1 := by omega
        have c2 : (k : Int) + 1 ≤ (k : Int) + 3 := by omega
        have c3 : (k : Int) + 3 ≤ (s.size : Int) := by omega
        obtain ⟨r1, r2⟩ := rhex_two (s := s) (by omega) k h3
        have HRH := hideB2 (fun W => sReadHex_any (s.extract (k + 1) (k + 3)) W (by rw [ByteArray.size_extract]; unfold maxLen; omega))
        have hq : hexAt s k = (hexP (at8 s (k + 1)) && hexP (at8 s (k + 2))) := by unfold hexAt; rw [decide_eq_true h3, beq_iff_eq.2 h37]; rfl
        rw [r1, ← hq] at HRH
        rw [r1, ← hq] at r2
        clear r1 hq
        generalize hxx : s.extract (k + 1) (k + 3) = x at *
        cases hqv : hexAt s k
        · rw [hqv] at HRH
          have HN := hideB2 (show (o ++ [at8 s k]) ++ evL (s.data.toList.drop (k + 1)) = R by rw [List.append_assoc, List.singleton_append, ← evL_on hlt hqv]; exact HO.out)
          have HY := hideB2 (show (s[k].toNat : Int) = ((at8 s k).toNat : Int) by rw [hat])
          clear hqv hat h37 r2 HO
          go_wp2_with (first | (go_at_call 100; (try rw [hxx]); refine (HRH.out _).mono ?_; rintro e w' ⟨rfl, rfl⟩) | (at_builtin; refine wp_app rfl (.tmp 56) (.tmp 60) rfl _ _ rfl hbuf _ (at8 s k) HY.out rfl (by omega) ?_; intro v2 W2 hbuf2))
          go_roundw
          case rel => exact ⟨k + 1, _, by omega, by go_num, HN.out, hbuf2⟩
          case measure => simp [intOf]; omega
        · rw [hqv] at HRH
          have r3 := r2 hqv
          have hst := evL_at hqv
          rw [r3] at HRH
          have h8 : (0 : Int) ≤ ((nam8 (at8 s (k + 1)) (at8 s (k + 2))).toNat : Int) ∧ ((nam8 (at8 s (k + 1)) (at8 s (k + 2))).toNat : Int) ≤ 255 := ⟨u8_lo _, u8_hi _⟩
          have HF := hideB2 (fun W => l7free_any ((nam8 (at8 s (k + 1)) (at8 s (k + 2))).toNat : Int) W h8.1 h8.2)
          have g1 : s[k + 1] = at8 s (k + 1) := at8_eq s (k + 1) (by omega)
          have g2 : s[k + 2] = at8 s (k + 2) := at8_eq s (k + 2) (by omega)
          unfold pctP at hst
          change Hid (∀ W, Calls _ _ _ W fun e w' => e = .returned (.bool (opn8 (nam8 (at8 s (k + 1)) (at8 s (k + 2))))) ∧ w' = W) at HF
          cases hfr : opn8 (nam8 (at8 s (k + 1)) (at8 s (k + 2)))
          · rw [hfr] at HF hst
            rw [if_neg (by simp)] at hst
            have HN := hideB2 (show (o ++ [37, up8 (at8 s (k + 1)), up8 (at8 s (k + 2))]) ++ evL (s.data.toList.drop (k + 3)) = R by rw [List.append_assoc, ← hst]; exact HO.out)
            have HY1 := hideB2 (up8_toNat (at8 s (k + 1)))
            have HY2 := hideB2 (up8_toNat (at8 s (k + 2)))
            have HG1 := hideB2 (show (s[k + 1].toNat : Int) = ((at8 s (k + 1)).toNat : Int) by rw [g1])
            have hi2 : ((k : Int) + 2).toNat < s.size := by omega
            have HG2 := hideB2 (show ((s[((k : Int) + 2).toNat]'hi2).toNat : Int) = ((at8 s (k + 2)).toNat : Int) by rw [at8_eq s _ hi2, show ((k : Int) + 2).toNat = k + 2 by omega])
            have HUP := hideB2 (fun n W h0 h1 => l7upper_any n W h0 h1)
            have hw8 : IntKind.u8.wrap ((nam8 (at8 s (k + 1)) (at8 s (k + 2))).toNat : Int) = ((nam8 (at8 s (k + 1)) (at8 s (k + 2))).toNat : Int) := by rw [IntKind.wrap_u8]; omega
            clear hqv hat h37 r2 r3 HO hst hfr g1 g2
            generalize ((nam8 (at8 s (k + 1)) (at8 s (k + 2))).toNat : Int) = nv at *
            generalize up8 (at8 s (k + 1)) = y1 at *
            generalize up8 (at8 s (k + 2)) = y2 at *
            rw [← HG1.out] at HY1
            rw [← HG2.out] at HY2
            clear HG1 HG2
            go_wp2_with (first | (go_at_call 100; (try rw [hxx]); refine (HRH.out _).mono ?_; rintro e w' ⟨rfl, rfl⟩) | (go_at_call 101; refine (HF.out _).mono ?_; rintro e w' ⟨rfl, rfl⟩))
            obtain ⟨pa, pc, rfl⟩ := hbuf.form
            have d0 : (0 : Int) ≤ (k : Int) + 2 := by omega
            have d1 : (k : Int) + 1 < (s.size : Int) := by omega
            have d2 : (k : Int) + 2 < (s.size : Int) := by omega
            have d3 : k + 1 < s.size := by omega
            have d4 : k + 2 < s.size := by omega
            have HBF := hideB2 hbuf
            clear hbuf
            refine wp_region_lead_draws 10 (.slice pa o.length pc) ?_ ?_ (fun _ _ _ h => h) (Or.inl ⟨rfl, fun _ => rfl⟩) ?_
            · kernel_rfl
            · kernel_rfl
            simp only [List.take_succ_cons, List.take_zero, List.drop_succ_cons, List.drop_zero]
            go_simp
            repeat (go_big_quiet_step ((go_at_call 102; exact Calls.quiet_of_same (HUP.out _ _ (u8_lo _) (u8_hi _)))))
            refine wpQuiet_nil ?_
            intro nq
            go_wp2_with (at_builtin; refine wp_app3 rfl (.tmp 40) (.tmp 51) rfl w _ _ rfl (HBF.out.drewNU nq) _ _ _ 37 y1 y2 rfl HY1.out.symm HY2.out.symm rfl (by omega) ?_; intro v5 W5 hbuf5)
            go_roundw
            case rel => exact ⟨k + 3, _, by omega, by go_num, HN.out, hbuf5⟩
            case measure => simp [intOf]; omega
          · rw [hfr] at HF hst
            rw [if_pos rfl] at hst
            have HN := hideB2 (show (o ++ [nam8 (at8 s (k + 1)) (at8 s (k + 2))]) ++ evL (s.data.toList.drop (k + 3)) = R by rw [List.append_assoc, ← hst]; exact HO.out)
            have hw8 : IntKind.u8.wrap ((nam8 (at8 s (k + 1)) (at8 s (k + 2))).toNat : Int) = ((nam8 (at8 s (k + 1)) (at8 s (k + 2))).toNat : Int) := by rw [IntKind.wrap_u8]; omega
            have HY := hideB2 (show ((nam8 (at8 s (k + 1)) (at8 s (k + 2))).toNat : Int) = ((nam8 (at8 s (k + 1)) (at8 s (k + 2))).toNat : Int) from rfl)
            clear hqv hat h37 r2 r3 HO hst hfr g1 g2
            generalize nam8 (at8 s (k + 1)) (at8 s (k + 2)) = y at *
            go_wp2_with (first | (go_at_call 100; (try rw [hxx]); refine (HRH.out _).mono ?_; rintro e w' ⟨rfl, rfl⟩) | (go_at_call 101; refine (HF.out _).mono ?_; rintro e w' ⟨rfl, rfl⟩) | (at_builtin; refine wp_app rfl (.tmp 66) (.tmp 69) rfl _ _ rfl hbuf _ y (by first | rfl | exact hw8) rfl (by omega) ?_; intro v2 W2 hbuf2))
            go_roundw
            case rel => exact ⟨k + 3, _, by omega, by go_num, HN.out, hbuf2⟩
            case measure => simp [intOf]; omega
      · have hno : hexAt s k = false := by
          cases hh : hexAt s k with
          | false => rfl
          | true => obtain ⟨x1, x2, _⟩ := hexAt_iff.1 hh; exact absurd ⟨x2, x1⟩ h37
        have HN := hideB2 (show (o ++ [at8 s k]) ++ evL (s.data.toList.drop (k + 1)) = R by rw [List.append_assoc, List.singleton_append, ← evL_on hlt hno]; exact HO.out)
        have HY := hideB2 (show (s[k].toNat : Int) = ((at8 s k).toNat : Int) by rw [hat])
        by_cases h37' : at8 s k = 37
        · have hb : ((s[k].toNat : Int) != 37) = false := by rw [hat, h37']; rfl
          have e2 : IntKind.i64.wrap ((k : Int) + 2) = (k : Int) + 2 := by rw [IntKind.wrap_i64]; omega
          have c0 : (s.size : Int) ≤ (k : Int) + 2 := by
            have : ¬ (k + 3 ≤ s.size) := fun hh => h37 ⟨h37', hh⟩
            omega
          clear hno hat h37 h37' HO
          go_wp2_with (at_builtin; refine wp_app rfl (.tmp 24) (.tmp 28) rfl _ _ rfl hbuf _ (at8 s k) HY.out rfl (by omega) ?_; intro v2 W2 hbuf2)
          go_roundw
          case rel => exact ⟨k + 1, _, by omega, by go_num, HN.out, hbuf2⟩
          case measure => simp [intOf]; omega
        · have hb : ((s[k].toNat : Int) != 37) = true := by rw [hat]; exact ne37' h37'
          clear hno hat h37 h37' HO
          go_wp2_with (at_builtin; refine wp_app rfl (.tmp 24) (.tmp 28) rfl _ _ rfl hbuf _ (at8 s k) HY.out rfl (by omega) ?_; intro v2 W2 hbuf2)
          go_roundw
          case rel => exact ⟨k + 1, _, by omega, by go_num, HN.out, hbuf2⟩
          case measure => simp [intOf]; omega
    · have HE := hideB2 (show R = o by rw [← HO.out, evL_end (by omega), List.append_nil])
      have kb := hbuf.text
      have HB := hideB2 hbuf.below
      clear hbuf
      go_wp2
      go_ret
      exact ⟨ret_str (by rw [HE.out]), HB.out⟩
end Go.Proofs.YtmhohponikolfaaGreatDoor
