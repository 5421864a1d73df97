/-
  Bytes that may stand in a target: walks of both sides. · The walks over chapter 1: ReadHex. · Contracts of the library's functions at this program, laid off the kit's shelf in plain words. · Chapter 7: what a % stands for; the walks of both sides. · Chapter 7: what a % stands for, and a text cut; the specification's side. · Chapter 7: a text with its % looked at; the program's side. · Chapter 7: the pieces that stay, and a path in its one form; the program's side. · Chapter 7: a path in its one form; the program's side.
-/
import Derived.Test.YthdgeepedofleaaGreatDoorJ0
import Derived.Test.YthdgeepedofleaaGreatDoorJ1
import Derived.Test.YthdgeepedofleaaGreatDoorJ3
import Derived.Shelf.Strings.OnBuilder
import Derived.Shelf.Strings.IndexAnyAll
import Derived.Test.YthdgeepedofleaaGreatDoorProg
import Derived.Test.YthdgeepedofleaaGreatDoorJ4
import Derived.Lib.IndexAny
namespace Go.Proofs.YthdgeepedofleaaGreatDoor
set_option linter.unusedVariables false
set_option linter.unusedSimpArgs false
open Go.RowKit
theorem targQ_no1 {s : ByteArray} (h : withinB (s.size : Int) 1 200 = false) : targQ s = false := by
  unfold targQ; rw [show (decide (1 ≤ (s.size : Int)) && decide ((s.size : Int) ≤ 200)) = false from h]; rfl
theorem targQ_no2 {s : ByteArray} (h : allB vis8 s = false) : targQ s = false := by unfold targQ; rw [h]; simp
theorem targQ_yes {s : ByteArray} (h1 : withinB (s.size : Int) 1 200 = true) (h : allB vis8 s = true) : targQ s = true := by
  unfold targQ; rw [show (decide (1 ≤ (s.size : Int)) && decide ((s.size : Int) ≤ 200)) = true from h1, h]; rfl
set_option maxHeartbeats 1000000 in
theorem targetOk_any (s : ByteArray) (w : World) (hs : s.size ≤ maxLen) :
    Calls Tryz.prog 182 #[.string s] w fun e w' => e = .returned (.bool (targQ s)) ∧ w' = w := by
  unfold maxLen at hs
  cases h1 : withinB (s.size : Int) 1 200
  · have hf := hideB2 (targQ_no1 h1)
    go_enter Tryz.func182, Tryz.ntmps182
    go_wp2_with (go_at_call 34; refine (within_any _ _ _ _).mono ?_; rintro e w' ⟨rfl, rfl⟩; rw [h1])
    go_ret
    exact ⟨ret_bool hf.out, rfl⟩
  · have H1 := hideB2 h1
    clear h1
    go_enter Tryz.func182, Tryz.ntmps182
    go_wp2_with (go_at_call 34; refine (within_any _ _ _ _).mono ?_; rintro e w' ⟨rfl, rfl⟩; rw [H1.out])
    go_loop [10] (fun i => ∃ k : Nat, k ≤ s.size ∧ i = .int .i64 k ∧ ∀ j, j < k → vis8 (at8 s j) = true) (fun i => s.size - (intOf i).toNat)
    case atStart => exact ⟨0, Nat.zero_le _, rfl, fun j hj => by omega⟩
    case round =>
      obtain ⟨k, hk, rfl, hall⟩ := hrel
      have Hall : Hid (∀ j, j < k → vis8 (at8 s j) = true) := hall
      clear hall
      by_cases hlt : k < s.size
      · have e64 : wrap64 (s[k].toNat : Int) = (s[k].toNat : Int) := by
          have h1 := u8_hi s[k]
          have h2 := u8_lo s[k]
          unfold wrap64
          omega
        cases hg0 : vis8 (at8 s k)
        · have hg := hideB2 (show withinB (s[k].toNat : Int) 33 126 = false by rw [at8_eq s k hlt]; exact hg0)
          have hfin : Hid (targQ s = false) := targQ_no2 (allB_no hlt hg0)
          clear hg0
          go_wp2_with (go_at_call 34; refine (within_any _ _ _ _).mono ?_; rintro e w' ⟨rfl, rfl⟩; rw [e64, hg.out])
          go_ret
          exact ⟨ret_bool hfin.out, rfl⟩
        · have hg := hideB2 (show withinB (s[k].toNat : Int) 33 126 = true by rw [at8_eq s k hlt]; exact hg0)
          have Hg : Hid (vis8 (at8 s k) = true) := hg0
          clear hg0
          go_wp2_with (go_at_call 34; refine (within_any _ _ _ _).mono ?_; rintro e w' ⟨rfl, rfl⟩; rw [e64, hg.out])
          go_round
          case rel => exact ⟨k + 1, by omega, by go_num, all_succ Hall.out Hg.out⟩
          case measure => simp [intOf]; omega
      · have hfin : Hid (targQ s = true) := targQ_yes H1.out (allB_yes (fun j hj => Hall.out j (by omega)))
        go_wp2
        go_ret
        exact ⟨ret_bool hfin.out, rfl⟩
theorem vis_int (n : Int) : visP n = (!decide (n < 33) && !decide (126 < n)) := by
  unfold visP
  by_cases h1 : n < 33 <;> by_cases h2 : 126 < n <;> simp [h1, h2] <;> omega
set_option maxHeartbeats 1000000 in
theorem l6visible_any (s : ByteArray) (w : World) (hs : s.size ≤ maxLen) :
    Calls Tryz.prog 123 #[.string s] w fun e w' => e = .returned (.bool (decide (0 < (s.size : Int)) && allB vis8 s)) ∧ w' = w := by
  unfold maxLen at hs
  generalize hR : (decide (0 < (s.size : Int)) && allB vis8 s) = R
  have HR := hideB2 hR
  clear hR
  go_enter Tryz.func123, Tryz.ntmps123
  go_wp2
  go_loop [3] (fun i => ∃ k : Nat, k ≤ s.size ∧ i = .int .i64 k ∧ ∀ j, j < k → vis8 (at8 s j) = true) (fun i => s.size - (intOf i).toNat)
  case atStart => exact ⟨0, Nat.zero_le _, rfl, fun j hj => by omega⟩
  case round =>
    obtain ⟨k, hk, rfl, hall⟩ := hrel
    have Hall : Hid (∀ j, j < k → vis8 (at8 s j) = true) := hall
    clear hall
    by_cases hlt : k < s.size
    · have hat : (s[k].toNat : Int) = ((at8 s k).toNat : Int) := by rw [at8_eq s k hlt]
      by_cases h33 : (s[k].toNat : Int) < 33
      · have hfin : Hid (R = false) := by
          show R = false
          rw [← HR.out, allB_no hlt (by unfold vis8; rw [← hat, vis_int]; simp [h33]), Bool.and_false]
        clear hat
        go_wp2
        go_ret
        exact ⟨ret_bool hfin.out, rfl⟩
      · by_cases h126 : (126 : Int) < (s[k].toNat : Int)
        · have hfin : Hid (R = false) := by
            show R = false
            rw [← HR.out, allB_no hlt (by unfold vis8; rw [← hat, vis_int]; simp [h126]), Bool.and_false]
          clear hat
          have d33 : decide ((s[k].toNat : Int) < 33) = false := decide_eq_false h33
          go_wp2
          go_ret
          exact ⟨ret_bool hfin.out, rfl⟩
        · have Hg : Hid (vis8 (at8 s k) = true) := by
            show vis8 _ = true
            unfold vis8; rw [← hat, vis_int]; simp [h33, h126]
          clear hat
          have d33 : decide ((s[k].toNat : Int) < 33) = false := decide_eq_false h33
          have d126 : decide ((126 : Int) < (s[k].toNat : Int)) = false := decide_eq_false h126
          go_wp2
          go_round
          case rel => exact ⟨k + 1, by omega, by go_num, all_succ Hall.out Hg.out⟩
          case measure => simp [intOf]; omega
    · have hfin : Hid (R = decide (0 < s.size)) := by
        show R = _
        rw [← HR.out, allB_yes (fun j hj => Hall.out j (by omega)), Bool.and_true]
        apply decide_eq_decide.2
        omega
      go_wp2
      go_ret
      exact ⟨ret_bool hfin.out, rfl⟩
end Go.Proofs.YthdgeepedofleaaGreatDoor
namespace Go.Proofs.YthdgeepedofleaaGreatDoor
set_option linter.unusedVariables false
set_option linter.unusedSimpArgs false
open Go.RowKit

theorem ret_ib6 {k : IntKind} {n m : Int} {a b : Bool} (h : m = n) (h' : b = a) : Ending.returned (.tuple #[.int k n, .bool a]) = .returned (.tuple #[.int k m, .bool b]) := by rw [h, h']
theorem hexV_neg {n : Int} (h : hexV n < 0) : digP n = false ∧ (lowI n < 97 ∨ 102 < lowI n) := by
  unfold hexV at h
  split at h
  · rename_i hd; rw [digP_iff] at hd; omega
  · rename_i hd
    split at h
    · omega
    · exact ⟨by simpa using hd, by omega⟩
theorem hexV_pos {n : Int} (h : 0 ≤ hexV n) : (digP n = true ∧ hexV n = n - 48) ∨ (digP n = false ∧ 97 ≤ lowI n ∧ lowI n ≤ 102 ∧ hexV n = lowI n - 87) := by
  cases hd : digP n
  · right
    by_cases hl : 97 ≤ lowI n ∧ lowI n ≤ 102
    · exact ⟨rfl, hl.1, hl.2, hexV_let hd hl.1 hl.2⟩
    · rw [hexV_no hd (by omega)] at h; omega
  · left; exact ⟨rfl, hexV_dig hd⟩
set_option maxHeartbeats 1000000 in
theorem hexValue_any (n : Int) (w : World) (h0 : 0 ≤ n) (h1 : n ≤ 255) :
    Calls Tryz.prog 304 #[.int .u8 n] w fun e w' => e = .returned (.int .i64 (hexV n)) ∧ w' = w := by
  cases hd : digP n
  · by_cases hl : 97 ≤ lowI n ∧ lowI n ≤ 102
    · obtain ⟨ha, hb⟩ := hl
      rw [hexV_let hd ha hb]
      go_enter Tryz.func304, Tryz.ntmps304
      go_wp2_with (first | (go_at_call 223; refine (smallByte_any _ _ (by omega) (by omega)).mono ?_; rintro e w' ⟨rfl, rfl⟩) | (go_at_call 261; refine (digitByte_any _ _).mono ?_; rintro e w' ⟨rfl, rfl⟩))
      go_ret
      exact ⟨ret_int (by omega), rfl⟩
    · have hl' : lowI n < 97 ∨ 102 < lowI n := by omega
      rw [hexV_no hd hl']
      have hl2 : lowI n < 97 ∨ (102 < lowI n ∧ decide (lowI n ≤ 102) = false) := by
        rcases hl' with h | h
        · exact Or.inl h
        · exact Or.inr ⟨h, by simp; omega⟩
      clear hl hl'
      rcases hl2 with hl | ⟨hl, hl3⟩
      all_goals
        go_enter Tryz.func304, Tryz.ntmps304
        go_wp2_with (first | (go_at_call 223; refine (smallByte_any _ _ (by omega) (by omega)).mono ?_; rintro e w' ⟨rfl, rfl⟩) | (go_at_call 261; refine (digitByte_any _ _).mono ?_; rintro e w' ⟨rfl, rfl⟩))
        go_ret
        exact ⟨rfl, rfl⟩
  · have hb := digP_iff.1 hd
    rw [hexV_dig hd]
    go_enter Tryz.func304, Tryz.ntmps304
    go_wp2_with (first | (go_at_call 223; refine (smallByte_any _ _ (by omega) (by omega)).mono ?_; rintro e w' ⟨rfl, rfl⟩) | (go_at_call 261; refine (digitByte_any _ _).mono ?_; rintro e w' ⟨rfl, rfl⟩))
    go_ret
    exact ⟨rfl, rfl⟩
set_option maxHeartbeats 1000000 in
theorem ReadHex_any (s : ByteArray) (w : World) (hs : s.size ≤ maxLen) :
    Calls Tryz.prog 287 #[.string s] w fun e w' => e = .returned (.tuple #[.int .i64 (rhexN s), .bool (rhexOk s)]) ∧ w' = w := by
  unfold maxLen at hs
  by_cases h0 : s.size = 0
  · have hr := rhex_size (Or.inl h0)
    have hne : s.toList.isEmpty = true := by rw [ByteArray.toList_eq, List.isEmpty_iff, ← List.length_eq_zero_iff, Array.length_toList]; exact h0
    rw [hr.1, hr.2]
    clear hr
    go_enter Tryz.func287, Tryz.ntmps287
    go_wp2
    go_ret2
    exact ⟨rfl, rfl⟩
  · have hne2 : s.toList.isEmpty = false := by
      rw [ByteArray.toList_eq, List.isEmpty_eq_false_iff]
      intro hh
      apply h0
      rw [← len_data, hh]; rfl
    by_cases hbig : (7 : Int) < (s.size : Int)
    · have hr := rhex_size (s := s) (Or.inr (by omega))
      rw [hr.1, hr.2]
      clear hr
      go_enter Tryz.func287, Tryz.ntmps287
      go_wp2
      go_ret2
      exact ⟨rfl, rfl⟩
    · go_enter Tryz.func287, Tryz.ntmps287
      go_wp2
      clear hne2
      go_loop [4, 16] (fun n i => ∃ k : Nat, k ≤ s.size ∧ i = .int .i64 k ∧ n = .int .i64 (hval (s.data.toList.take k)) ∧ allHex (s.data.toList.take k) = true) (fun _ i => s.size - (intOf i).toNat)
      case atStart => exact ⟨0, Nat.zero_le _, rfl, rfl, rfl⟩
      case round =>
        obtain ⟨k, hk, rfl, rfl, hall⟩ := hrel
        have Hall : Hid (allHex (s.data.toList.take k) = true) := hall
        obtain ⟨hv0, hv1⟩ := hval_small s k (by omega) hall
        clear hall
        by_cases hlt : k < s.size
        · have hlo := u8_lo s[k]
          have hhi := u8_hi s[k]
          have hn0 : hexV (s[k].toNat : Int) = hex8 (at8 s k) := by rw [at8_eq s k hlt]; rfl
          by_cases hg0 : hex8 (at8 s k) < 0
          · have hfin : Hid (rhexN s = 0 ∧ rhexOk s = false) := rhex_no hlt hg0
            have hneg : hexV (s[k].toNat : Int) < 0 := by rw [hn0]; exact hg0
            clear hg0 hn0
            generalize hval (s.data.toList.take k) = v at *
            go_wp2_with (go_at_call 304; refine (hexValue_any _ _ (by omega) (by omega)).mono ?_; rintro e w' ⟨rfl, rfl⟩)
            go_ret2
            exact ⟨ret_ib6 hfin.out.1 hfin.out.2, rfl⟩
          · have hvq : Hid (hval (s.data.toList.take (k + 1)) = hval (s.data.toList.take k) * 16 + hexV (s[k].toNat : Int)) := by
              show _ = _
              rw [allDig_take_succ s k hlt, hval_snoc, hn0]
            have Hall2 : Hid (allHex (s.data.toList.take (k + 1)) = true) := by
              show _ = _
              rw [allDig_take_succ s k hlt]; exact allHex_snoc _ _ Hall.out (by omega)
            have hpos : 0 ≤ hexV (s[k].toNat : Int) := by rw [hn0]; omega
            have hp15 := (hexV_bd (s[k].toNat : Int)).2
            clear hg0 hn0
            generalize hval (s.data.toList.take k) = v at *
            go_wp2_with (go_at_call 304; refine (hexValue_any _ _ (by omega) (by omega)).mono ?_; rintro e w' ⟨rfl, rfl⟩)
            go_round
            case rel => exact ⟨k + 1, by omega, by go_num, congrArg (Value.int .i64) (by rw [hvq.out]), Hall2.out⟩
            case measure => simp [intOf]; omega
        · obtain rfl : k = s.size := by omega
          have ht : s.data.toList.take s.size = s.data.toList := List.take_of_length_le (by rw [len_data]; exact Nat.le_refl _)
          rw [ht] at Hall hv0 hv1 ⊢
          have hfin : Hid (rhexN s = hval s.data.toList ∧ rhexOk s = true) := rhex_yes (by omega) (by omega) Hall.out
          clear ht
          generalize hval s.data.toList = v at *
          go_wp2
          go_ret2
          exact ⟨ret_ib6 hfin.out.1 hfin.out.2, rfl⟩
set_option maxHeartbeats 1000000 in
theorem sReadHex_any (s : ByteArray) (w : World) (hs : s.size ≤ maxLen) :
    Calls Tryz.prog 207 #[.string s] w fun e w' => e = .returned (.tuple #[.int .i64 (rhexN s), .bool (rhexOk s)]) ∧ w' = w := by
  unfold maxLen at hs
  by_cases h0 : s.size = 0
  · have hr := rhex_size (Or.inl h0)
    have hne : ((s.size : Int) == 0) = true := by rw [beq_iff_eq]; omega
    rw [hr.1, hr.2]
    clear hr
    go_enter Tryz.func207, Tryz.ntmps207
    go_wp2
    go_ret2
    exact ⟨rfl, rfl⟩
  · have hne2 : ((s.size : Int) == 0) = false := by rw [Bool.eq_false_iff, ne_eq, beq_iff_eq]; omega
    by_cases hbig : (7 : Int) < (s.size : Int)
    · have hr := rhex_size (s := s) (Or.inr (by omega))
      rw [hr.1, hr.2]
      clear hr
      go_enter Tryz.func207, Tryz.ntmps207
      go_wp2
      go_ret2
      exact ⟨rfl, rfl⟩
    · go_enter Tryz.func207, Tryz.ntmps207
      go_wp2
      clear hne2
      go_loop [4, 5] (fun n i => ∃ k : Nat, k ≤ s.size ∧ i = .int .i64 k ∧ n = .int .i64 (hval (s.data.toList.take k)) ∧ allHex (s.data.toList.take k) = true) (fun _ i => s.size - (intOf i).toNat)
      case atStart => exact ⟨0, Nat.zero_le _, rfl, rfl, rfl⟩
      case round =>
        obtain ⟨k, hk, rfl, rfl, hall⟩ := hrel
        have Hall : Hid (allHex (s.data.toList.take k) = true) := hall
        obtain ⟨hv0, hv1⟩ := hval_small s k (by omega) hall
        clear hall
        by_cases hlt : k < s.size
        · have hlo := u8_lo s[k]
          have hhi := u8_hi s[k]
          have hn0 : hexV (s[k].toNat : Int) = hex8 (at8 s k) := by rw [at8_eq s k hlt]; rfl
          by_cases hg0 : hex8 (at8 s k) < 0
          · have hfin : Hid (rhexN s = 0 ∧ rhexOk s = false) := rhex_no hlt hg0
            have hneg : hexV (s[k].toNat : Int) < 0 := by rw [hn0]; exact hg0
            clear hg0 hn0
            generalize hval (s.data.toList.take k) = v at *
            have hno : digP (s[k].toNat : Int) = false ∧ (lowI (s[k].toNat : Int) < 97 ∨ 102 < lowI (s[k].toNat : Int)) := hexV_neg hneg
            obtain ⟨hd, hl⟩ := hno
            rw [← digP_low _ hlo] at hd
            clear hneg
            have hl2 : lowI (s[k].toNat : Int) < 97 ∨ (102 < lowI (s[k].toNat : Int) ∧ decide (lowI (s[k].toNat : Int) ≤ 102) = false) := by
              rcases hl with h | h
              · exact Or.inl h
              · exact Or.inr ⟨h, by simp; omega⟩
            rcases hl2 with hl | ⟨hl, hl3⟩
            all_goals
              go_wp2_with (first | (go_at_call 165; refine (l1lower_any _ _ (by omega) (by omega)).mono ?_; rintro e w' ⟨rfl, rfl⟩) | (go_at_call 166; refine (l1digit_any _ _).mono ?_; rintro e w' ⟨rfl, rfl⟩))
              go_ret2
              exact ⟨ret_ib6 hfin.out.1 hfin.out.2, rfl⟩
          · have hvq : Hid (hval (s.data.toList.take (k + 1)) = hval (s.data.toList.take k) * 16 + hexV (s[k].toNat : Int)) := by
              show _ = _
              rw [allDig_take_succ s k hlt, hval_snoc, hn0]
            have Hall2 : Hid (allHex (s.data.toList.take (k + 1)) = true) := by
              show _ = _
              rw [allDig_take_succ s k hlt]; exact allHex_snoc _ _ Hall.out (by omega)
            have hpos : 0 ≤ hexV (s[k].toNat : Int) := by rw [hn0]; omega
            have hp15 := (hexV_bd (s[k].toNat : Int)).2
            clear hg0 hn0
            generalize hval (s.data.toList.take k) = v at *
            have hyes := hexV_pos hpos
            rcases hyes with ⟨hd, he⟩ | ⟨hd, h97, h102, he⟩
            · have hd' : digP (lowI (s[k].toNat : Int)) = true := by rw [digP_low _ hlo]; exact hd
              have hlow := lowI_dig hd
              have hb := digP_iff.1 hd
              have he' : Hid (hexV (s[k].toNat : Int) = (s[k].toNat : Int) - 48) := he
              have hlo2 : lowI (s[k].toNat : Int) ≤ 57 := by rw [hlow]; exact hb.2
              have hlo3 : 48 ≤ lowI (s[k].toNat : Int) := by rw [hlow]; exact hb.1
              have Hlow : Hid (lowI (s[k].toNat : Int) = (s[k].toNat : Int)) := hlow
              clear he hd hb hlow
              go_wp2_with (first | (go_at_call 165; refine (l1lower_any _ _ (by omega) (by omega)).mono ?_; rintro e w' ⟨rfl, rfl⟩) | (go_at_call 166; refine (l1digit_any _ _).mono ?_; rintro e w' ⟨rfl, rfl⟩))
              go_round
              case rel => exact ⟨k + 1, by omega, by go_num, congrArg (Value.int .i64) (by rw [hvq.out, he'.out, Hlow.out]), Hall2.out⟩
              case measure => simp [intOf]; omega
            · have hd' : digP (lowI (s[k].toNat : Int)) = false := by rw [digP_low _ hlo]; exact hd
              have he' : Hid (hexV (s[k].toNat : Int) = lowI (s[k].toNat : Int) - 87) := he
              clear he hd
              go_wp2_with (first | (go_at_call 165; refine (l1lower_any _ _ (by omega) (by omega)).mono ?_; rintro e w' ⟨rfl, rfl⟩) | (go_at_call 166; refine (l1digit_any _ _).mono ?_; rintro e w' ⟨rfl, rfl⟩))
              go_round
              case rel => exact ⟨k + 1, by omega, by go_num, congrArg (Value.int .i64) (by rw [hvq.out, he'.out]; omega), Hall2.out⟩
              case measure => simp [intOf]; omega
        · obtain rfl : k = s.size := by omega
          have ht : s.data.toList.take s.size = s.data.toList := List.take_of_length_le (by rw [len_data]; exact Nat.le_refl _)
          rw [ht] at Hall hv0 hv1 ⊢
          have hfin : Hid (rhexN s = hval s.data.toList ∧ rhexOk s = true) := rhex_yes (by omega) (by omega) Hall.out
          clear ht
          generalize hval s.data.toList = v at *
          go_wp2
          go_ret2
          exact ⟨ret_ib6 hfin.out.1 hfin.out.2, rfl⟩
end Go.Proofs.YthdgeepedofleaaGreatDoor
namespace Go.Proofs
open Go.Shelf
def Tryz.lays158_ren : Go.Shelf.Ren := ⟨fun | 158 => 297 | 165 => 265 | 166 => 266 | 167 => 311 | 169 => 267 | 230 => 312 | 203 => 313 | 240 => 298 | 241 => 299 | 197 => 308 | 118 => 317 | 168 => 318 | 270 => 319 | 262 => 320 | 276 => 314 | 277 => 315 | 260 => 316 | 242 => 321 | 313 => 322 | 278 => 323 | 274 => 324 | 275 => 325 | n => n, fun | 9 => 9 | 4 => 4 | 3 => 3 | 5 => 5 | 72 => 246 | 0 => 0 | 76 => 250 | 75 => 249 | 107 => 276 | 70 => 244 | 20 => 20 | 37 => 22 | 127 => 267 | 21 => 21 | 105 => 272 | 164 => 277 | 162 => 290 | 203 => 288 | 119 => 283 | 46 => 144 | 139 => 286 | 138 => 285 | 51 => 165 | 160 => 291 | 208 => 297 | 206 => 295 | 80 => 113 | n => n, fun | 13 => 6 | 3 => 4 | 4 => 5 | n => n⟩
theorem Tryz.lays158 : Go.Proofs.Lays.n158 Tryz.prog Tryz.lays158_ren := {
  mixed := by kernel_rfl
  f118 := Tryz.func317.trans (congrArg some (by kernel_rfl))
  f158 := Tryz.func297.trans (congrArg some (by kernel_rfl))
  f165 := Tryz.func265.trans (congrArg some (by kernel_rfl))
  f166 := Tryz.func266.trans (congrArg some (by kernel_rfl))
  f167 := Tryz.func311.trans (congrArg some (by kernel_rfl))
  f168 := Tryz.func318.trans (congrArg some (by kernel_rfl))
  f169 := Tryz.func267.trans (congrArg some (by kernel_rfl))
  f197 := Tryz.func308.trans (congrArg some (by kernel_rfl))
  f203 := Tryz.func313.trans (congrArg some (by kernel_rfl))
  f230 := Tryz.func312.trans (congrArg some (by kernel_rfl))
  f240 := Tryz.func298.trans (congrArg some (by kernel_rfl))
  f241 := Tryz.func299.trans (congrArg some (by kernel_rfl))
  f242 := Tryz.func321.trans (congrArg some (by kernel_rfl))
  f260 := Tryz.func316.trans (congrArg some (by kernel_rfl))
  f262 := Tryz.func320.trans (congrArg some (by kernel_rfl))
  f270 := Tryz.func319.trans (congrArg some (by kernel_rfl))
  f274 := Tryz.func324.trans (congrArg some (by kernel_rfl))
  f275 := Tryz.func325.trans (congrArg some (by kernel_rfl))
  f276 := Tryz.func314.trans (congrArg some (by kernel_rfl))
  f277 := Tryz.func315.trans (congrArg some (by kernel_rfl))
  f278 := Tryz.func323.trans (congrArg some (by kernel_rfl))
  f313 := Tryz.func322.trans (congrArg some (by kernel_rfl))
  t0 := Tryz.underlying0
  a0 := Tryz.isAgg0
  z0 := Tryz.sizeOf0
  v0 := Tryz.zeroValue0
  t3 := Tryz.underlying3
  a3 := Tryz.isAgg3
  z3 := Tryz.sizeOf3
  v3 := Tryz.zeroValue3
  t4 := Tryz.underlying4
  a4 := Tryz.isAgg4
  z4 := Tryz.sizeOf4
  v4 := Tryz.zeroValue4
  t5 := Tryz.underlying5
  a5 := Tryz.isAgg5
  z5 := Tryz.sizeOf5
  v5 := Tryz.zeroValue5
  t9 := Tryz.underlying9
  a9 := Tryz.isAgg9
  z9 := Tryz.sizeOf9
  v9 := Tryz.zeroValue9
  t20 := Tryz.underlying20
  a20 := Tryz.isAgg20
  z20 := Tryz.sizeOf20
  v20 := Tryz.zeroValue20
  t21 := Tryz.underlying21
  a21 := Tryz.isAgg21
  z21 := Tryz.sizeOf21
  v21 := Tryz.zeroValue21
  t37 := Tryz.underlying22
  a37 := Tryz.isAgg22
  z37 := Tryz.sizeOf22
  v37 := Tryz.zeroValue22
  t46 := Tryz.underlying144
  a46 := Tryz.isAgg144
  z46 := Tryz.sizeOf144
  v46 := Tryz.zeroValue144
  t51 := Tryz.underlying165
  a51 := Tryz.isAgg165
  z51 := Tryz.sizeOf165
  v51 := Tryz.zeroValue165
  t70 := Tryz.underlying244
  a70 := Tryz.isAgg244
  z70 := Tryz.sizeOf244
  v70 := Tryz.zeroValue244
  t72 := Tryz.underlying246
  a72 := Tryz.isAgg246
  z72 := Tryz.sizeOf246
  v72 := Tryz.zeroValue246
  t75 := Tryz.underlying249
  a75 := Tryz.isAgg249
  z75 := Tryz.sizeOf249
  v75 := Tryz.zeroValue249
  t76 := Tryz.underlying250
  a76 := Tryz.isAgg250
  z76 := Tryz.sizeOf250
  v76 := Tryz.zeroValue250
  t105 := Tryz.underlying272
  a105 := Tryz.isAgg272
  z105 := Tryz.sizeOf272
  v105 := Tryz.zeroValue272
  t107 := Tryz.underlying276
  a107 := Tryz.isAgg276
  z107 := Tryz.sizeOf276
  v107 := Tryz.zeroValue276
  t119 := Tryz.underlying283
  a119 := Tryz.isAgg283
  z119 := Tryz.sizeOf283
  t127 := Tryz.underlying267
  a127 := Tryz.isAgg267
  z127 := Tryz.sizeOf267
  v127 := Tryz.zeroValue267
  t138 := Tryz.underlying285
  a138 := Tryz.isAgg285
  z138 := Tryz.sizeOf285
  v138 := Tryz.zeroValue285
  t139 := Tryz.underlying286
  a139 := Tryz.isAgg286
  z139 := Tryz.sizeOf286
  v139 := Tryz.zeroValue286
  t160 := Tryz.underlying291
  a160 := Tryz.isAgg291
  z160 := Tryz.sizeOf291
  v160 := Tryz.zeroValue291
  t162 := Tryz.underlying290
  a162 := Tryz.isAgg290
  z162 := Tryz.sizeOf290
  v162 := Tryz.zeroValue290
  t164 := Tryz.underlying277
  a164 := Tryz.isAgg277
  z164 := Tryz.sizeOf277
  v164 := Tryz.zeroValue277
  t203 := Tryz.underlying288
  a203 := Tryz.isAgg288
  z203 := Tryz.sizeOf288
  v203 := Tryz.zeroValue288
  t206 := Tryz.underlying295
  a206 := Tryz.isAgg295
  z206 := Tryz.sizeOf295
  v206 := Tryz.zeroValue295
  t208 := Tryz.underlying297
  a208 := Tryz.isAgg297
  z208 := Tryz.sizeOf297
  v208 := Tryz.zeroValue297
  g3 := by kernel_rfl
  g4 := by kernel_rfl
  g13 := by kernel_rfl }
def Tryz.lays150_ren : Go.Shelf.Ren := ⟨fun | 150 => 226 | 153 => 262 | 152 => 289 | 226 => 290 | 227 => 291 | 228 => 292 | 137 => 305 | 119 => 306 | 224 => 116 | 225 => 115 | 217 => 114 | 266 => 155 | n => n, fun | 9 => 9 | 4 => 4 | 3 => 3 | 5 => 5 | 21 => 21 | 117 => 262 | 116 => 261 | 0 => 0 | 46 => 144 | 124 => 271 | n => n, fun | n => n⟩
theorem Tryz.lays150 : Go.Proofs.Lays.n150 Tryz.prog Tryz.lays150_ren := {
  mixed := by kernel_rfl
  f119 := Tryz.func306.trans (congrArg some (by kernel_rfl))
  f137 := Tryz.func305.trans (congrArg some (by kernel_rfl))
  f150 := Tryz.func226.trans (congrArg some (by kernel_rfl))
  f152 := Tryz.func289.trans (congrArg some (by kernel_rfl))
  f153 := Tryz.func262.trans (congrArg some (by kernel_rfl))
  f217 := Tryz.func114.trans (congrArg some (by kernel_rfl))
  f224 := Tryz.func116.trans (congrArg some (by kernel_rfl))
  f225 := Tryz.func115.trans (congrArg some (by kernel_rfl))
  f226 := Tryz.func290.trans (congrArg some (by kernel_rfl))
  f227 := Tryz.func291.trans (congrArg some (by kernel_rfl))
  f228 := Tryz.func292.trans (congrArg some (by kernel_rfl))
  f266 := Tryz.func155.trans (congrArg some (by kernel_rfl))
  t0 := Tryz.underlying0
  a0 := Tryz.isAgg0
  z0 := Tryz.sizeOf0
  v0 := Tryz.zeroValue0
  t3 := Tryz.underlying3
  a3 := Tryz.isAgg3
  z3 := Tryz.sizeOf3
  v3 := Tryz.zeroValue3
  t4 := Tryz.underlying4
  a4 := Tryz.isAgg4
  z4 := Tryz.sizeOf4
  v4 := Tryz.zeroValue4
  t5 := Tryz.underlying5
  a5 := Tryz.isAgg5
  z5 := Tryz.sizeOf5
  v5 := Tryz.zeroValue5
  t9 := Tryz.underlying9
  a9 := Tryz.isAgg9
  z9 := Tryz.sizeOf9
  v9 := Tryz.zeroValue9
  t21 := Tryz.underlying21
  a21 := Tryz.isAgg21
  z21 := Tryz.sizeOf21
  v21 := Tryz.zeroValue21
  t46 := Tryz.underlying144
  a46 := Tryz.isAgg144
  z46 := Tryz.sizeOf144
  v46 := Tryz.zeroValue144
  t116 := Tryz.underlying261
  a116 := Tryz.isAgg261
  z116 := Tryz.sizeOf261
  t117 := Tryz.underlying262
  a117 := Tryz.isAgg262
  z117 := Tryz.sizeOf262
  v117 := Tryz.zeroValue262
  t124 := Tryz.underlying271
  a124 := Tryz.isAgg271
  z124 := Tryz.sizeOf271
  v124 := Tryz.zeroValue271 }
end Go.Proofs
namespace Go.Proofs.YthdgeepedofleaaGreatDoor
set_option linter.unusedVariables false
set_option linter.unusedSimpArgs false
open Go.RowKit
theorem inL_opn (n : Int) (h0 : 0 ≤ n) (h1 : n ≤ 255) : decide (0 ≤ Lib.indexByte opnL n.toNat.toUInt8) = inL opnL n := by
  have hn : ((n.toNat.toUInt8).toNat : Int) = n := by simp; omega
  have h := Lib.contains_iff_indexByte opnL n.toNat.toUInt8
  rw [← h]
  unfold inL
  rw [Bool.eq_iff_iff, List.contains_iff_mem, List.any_eq_true]
  constructor
  · intro hm
    exact ⟨_, hm, by rw [beq_iff_eq]; exact hn⟩
  · rintro ⟨x, hx, he⟩
    rw [beq_iff_eq] at he
    have : x = n.toNat.toUInt8 := by
      apply UInt8.toNat_inj.1
      omega
    rw [← this]; exact hx
set_option maxRecDepth 100000 in
set_option maxHeartbeats 1000000 in
theorem IndexByteN_any (s : ByteArray) (c : Int) (w : World) :
    Calls Tryz.prog 114 #[.string s, .int .u8 c] w fun e w' => e = .returned (.int .i64 (Lib.indexByte s.data.toList c.toNat.toUInt8)) ∧ w' = w := by
  go_enter Tryz.func114, Tryz.ntmps114
  go_wp2
  rw [run_callFunc_extern Tryz.func155 (by kernel_rfl) (by kernel_rfl) (by kernel_rfl) (e := Extern.BytealgIndexByte.indexByte) (by kernel_rfl), Lib.run_indexByteString]
  simp only [Result.andThen]
  rw [Oper.upon_value]
  go_wp2
  go_ret
  exact ⟨rfl, rfl⟩
set_option maxHeartbeats 1000000 in
theorem sIndexByte_any (s : ByteArray) (c : Int) (w : World) :
    Calls Tryz.prog 305 #[.string s, .int .u8 c] w fun e w' => e = .returned (.int .i64 (Lib.indexByte s.data.toList c.toNat.toUInt8)) ∧ w' = w := by
  go_enter Tryz.func305, Tryz.ntmps305
  go_wp2_with (go_at_call 114; refine (IndexByteN_any _ _ _).mono ?_; rintro e w' ⟨rfl, rfl⟩)
  go_ret
  exact ⟨rfl, rfl⟩
theorem opnP_let {n : Int} (h : letP n = true) : opnP n = true := by simp [opnP, h]
theorem opnP_dig {n : Int} (h : digP n = true) : opnP n = true := by simp [opnP, h]
theorem opnP_sig {n : Int} (h1 : letP n = false) (h2 : digP n = false) : opnP n = inL opnL n := by simp [opnP, h1, h2]
set_option maxHeartbeats 1000000 in
theorem openByte_any (n : Int) (w : World) (h0 : 0 ≤ n) (h1 : n ≤ 255) :
    Calls Tryz.prog 296 #[.int .u8 n] w fun e w' => e = .returned (.bool (opnP n)) ∧ w' = w := by
  have HI := hideB2 (fun W => sIndexByte_any ⟨#[45, 46, 95, 126]⟩ n W)
  have HO := hideB2 (inL_opn n h0 h1)
  change Hid (∀ W, Calls _ _ _ W fun e w' => e = .returned (.int .i64 (Lib.indexByte opnL n.toNat.toUInt8)) ∧ w' = W) at HI
  generalize Lib.indexByte opnL n.toNat.toUInt8 = x at *
  cases hl : letP n
  · cases hd : digP n
    · rw [opnP_sig hl hd]
      have H2 := hideB2 (fun W => letterByte_any n W h0 h1)
      have H3 := hideB2 (fun W => digitByte_any n W)
      have HL := hideB2 hl
      have HD := hideB2 hd
      rw [hl] at H2
      rw [hd] at H3
      clear hl hd
      go_enter Tryz.func296, Tryz.ntmps296
      go_wp2_with (first | (go_at_call 310; refine (H2.out _).mono ?_; rintro e w' ⟨rfl, rfl⟩) | (go_at_call 261; refine (H3.out _).mono ?_; rintro e w' ⟨rfl, rfl⟩) | (go_at_call 305; refine (HI.out _).mono ?_; rintro e w' ⟨rfl, rfl⟩))
      go_ret
      exact ⟨ret_bool HO.out.symm, rfl⟩
    · rw [opnP_dig hd]
      have H2 := hideB2 (fun W => letterByte_any n W h0 h1)
      have H3 := hideB2 (fun W => digitByte_any n W)
      rw [hl] at H2
      rw [hd] at H3
      clear hl hd
      go_enter Tryz.func296, Tryz.ntmps296
      go_wp2_with (first | (go_at_call 310; refine (H2.out _).mono ?_; rintro e w' ⟨rfl, rfl⟩) | (go_at_call 261; refine (H3.out _).mono ?_; rintro e w' ⟨rfl, rfl⟩))
      go_ret
      exact ⟨rfl, rfl⟩
  · rw [opnP_let hl]
    have H2 := hideB2 (fun W => letterByte_any n W h0 h1)
    rw [hl] at H2
    clear hl
    go_enter Tryz.func296, Tryz.ntmps296
    go_wp2_with (go_at_call 310; refine (H2.out _).mono ?_; rintro e w' ⟨rfl, rfl⟩)
    go_ret
    exact ⟨rfl, rfl⟩
set_option maxHeartbeats 1000000 in
theorem l7free_any (n : Int) (w : World) (h0 : 0 ≤ n) (h1 : n ≤ 255) :
    Calls Tryz.prog 210 #[.int .u8 n] w fun e w' => e = .returned (.bool (opnP n)) ∧ w' = w := by
  have HH := hideB2 (fun W => l1has_any ⟨#[45, 46, 95, 126]⟩ n W (by decide))
  change Hid (∀ W, Calls _ _ _ W fun e w' => e = .returned (.bool (inL opnL n)) ∧ w' = W) at HH
  have H3 := hideB2 (fun W => l1digit_any n W)
  have HL := hideB2 (fun W => l1lower_any n W h0 h1)
  have HP : opnP n = (letP n || (digP n || inL opnL n)) := by unfold opnP; rw [Bool.or_assoc]
  rw [HP]
  unfold letP
  clear HP
  generalize lowI n = m at *
  generalize inL opnL n = z at *
  generalize digP n = d at *
  by_cases a1 : 97 ≤ m
  · by_cases a2 : m ≤ 122
    · rw [decide_eq_true a1, decide_eq_true a2]
      go_enter Tryz.func210, Tryz.ntmps210
      go_wp2_with (first | (go_at_call 165; refine (HL.out _).mono ?_; rintro e w' ⟨rfl, rfl⟩) | (go_at_call 166; refine (H3.out _).mono ?_; rintro e w' ⟨rfl, rfl⟩) | (go_at_call 248; refine (HH.out _).mono ?_; rintro e w' ⟨rfl, rfl⟩))
      go_ret
      exact ⟨rfl, rfl⟩
    · have d2 := decide_eq_false a2
      rw [d2, Bool.and_false, Bool.false_or]
      cases d
      · go_enter Tryz.func210, Tryz.ntmps210
        go_wp2_with (first | (go_at_call 165; refine (HL.out _).mono ?_; rintro e w' ⟨rfl, rfl⟩) | (go_at_call 166; refine (H3.out _).mono ?_; rintro e w' ⟨rfl, rfl⟩) | (go_at_call 248; refine (HH.out _).mono ?_; rintro e w' ⟨rfl, rfl⟩))
        go_ret
        exact ⟨rfl, rfl⟩
      · go_enter Tryz.func210, Tryz.ntmps210
        go_wp2_with (first | (go_at_call 165; refine (HL.out _).mono ?_; rintro e w' ⟨rfl, rfl⟩) | (go_at_call 166; refine (H3.out _).mono ?_; rintro e w' ⟨rfl, rfl⟩) | (go_at_call 248; refine (HH.out _).mono ?_; rintro e w' ⟨rfl, rfl⟩))
        go_ret
        exact ⟨rfl, rfl⟩
  · rw [decide_eq_false a1, Bool.false_and, Bool.false_or]
    cases d
    · go_enter Tryz.func210, Tryz.ntmps210
      go_wp2_with (first | (go_at_call 165; refine (HL.out _).mono ?_; rintro e w' ⟨rfl, rfl⟩) | (go_at_call 166; refine (H3.out _).mono ?_; rintro e w' ⟨rfl, rfl⟩) | (go_at_call 248; refine (HH.out _).mono ?_; rintro e w' ⟨rfl, rfl⟩))
      go_ret
      exact ⟨rfl, rfl⟩
    · go_enter Tryz.func210, Tryz.ntmps210
      go_wp2_with (first | (go_at_call 165; refine (HL.out _).mono ?_; rintro e w' ⟨rfl, rfl⟩) | (go_at_call 166; refine (H3.out _).mono ?_; rintro e w' ⟨rfl, rfl⟩) | (go_at_call 248; refine (HH.out _).mono ?_; rintro e w' ⟨rfl, rfl⟩))
      go_ret
      exact ⟨rfl, rfl⟩
/-- A letter a to z as its great one, on numbers. -/
def upI (n : Int) : Int := if 97 ≤ n ∧ n ≤ 122 then n - 32 else n
theorem up8_toNat (b : UInt8) : ((up8 b).toNat : Int) = upI (b.toNat : Int) := by
  unfold up8 upI
  have hb := b.toNat_lt
  by_cases h : 97 ≤ b.toNat ∧ b.toNat ≤ 122
  · rw [if_pos h, if_pos (by omega)]
    rw [UInt8.toNat_sub]
    simp
    omega
  · rw [if_neg h, if_neg (by omega)]
set_option maxHeartbeats 1000000 in
theorem l7upper_any (n : Int) (w : World) (h0 : 0 ≤ n) (h1 : n ≤ 255) :
    Calls Tryz.prog 211 #[.int .u8 n] w fun e w' => e = .returned (.int .u8 (upI n)) ∧ w' = w := by
  unfold upI
  by_cases a1 : 97 ≤ n
  · by_cases a2 : n ≤ 122
    · rw [if_pos ⟨a1, a2⟩]
      have e1 : IntKind.u8.wrap (n - 32) = n - 32 := by rw [IntKind.wrap_u8]; omega
      go_enter Tryz.func211, Tryz.ntmps211
      go_wp2
      go_ret
      exact ⟨ret_int (by first | rfl | omega), rfl⟩
    · rw [if_neg (by omega)]
      go_enter Tryz.func211, Tryz.ntmps211
      go_wp2
      go_ret
      exact ⟨rfl, rfl⟩
  · rw [if_neg (by omega)]
    go_enter Tryz.func211, Tryz.ntmps211
    go_wp2
    go_ret
    exact ⟨rfl, rfl⟩
/-- The two digits behind the first byte, as ReadHex takes them. -/
theorem rhex_two {s : ByteArray} (h : 3 ≤ s.size) (i : Nat) (hi : i + 3 ≤ s.size) : rhexOk (s.extract (i + 1) (i + 3)) = (hexP (at8 s (i + 1)) && hexP (at8 s (i + 2))) ∧ (rhexOk (s.extract (i + 1) (i + 3)) = true → rhexN (s.extract (i + 1) (i + 3)) = ((nam8 (at8 s (i + 1)) (at8 s (i + 2))).toNat : Int)) := by
  have e : (s.extract (i + 1) (i + 3)).data.toList = [at8 s (i + 1), at8 s (i + 2)] := by
    rw [Lib.extract_data, drop_at8 (i := i + 1) (by omega), drop_at8 (i := i + 1 + 1) (by omega), show i + 3 - (i + 1) = 2 by omega]
    rfl
  have hz : (s.extract (i + 1) (i + 3)).size = 2 := by rw [ByteArray.size_extract]; omega
  have e1 : rhexOk (s.extract (i + 1) (i + 3)) = (hexP (at8 s (i + 1)) && hexP (at8 s (i + 2))) := by
    unfold rhexOk
    rw [hz, e]
    simp [allHex, hexP]
  refine ⟨e1, fun ht => ?_⟩
  rw [e1, Bool.and_eq_true] at ht
  unfold rhexN
  rw [e1, ht.1, ht.2, Bool.and_self, if_pos rfl, e]
  have b1 := hexV_bd ((at8 s (i + 1)).toNat : Int)
  have b2 := hexV_bd ((at8 s (i + 2)).toNat : Int)
  have g1 : 0 ≤ hex8 (at8 s (i + 1)) := by simpa [hexP] using ht.1
  have g2 : 0 ≤ hex8 (at8 s (i + 2)) := by simpa [hexP] using ht.2
  have g3 : hex8 (at8 s (i + 1)) ≤ 15 := b1.2
  have g4 : hex8 (at8 s (i + 2)) ≤ 15 := b2.2
  unfold nam8
  simp only [hval, List.foldl_cons, List.foldl_nil]
  simp
  omega
end Go.Proofs.YthdgeepedofleaaGreatDoor
namespace Go.Proofs.YthdgeepedofleaaGreatDoor
set_option linter.unusedVariables false
set_option linter.unusedSimpArgs false
open Go.RowKit
theorem Buf.drewU {w0 w : World} {v : Value} {l : List UInt8} (h : Buf w0 w v l) : Buf w0 w.drew v l := ⟨h.below.drew, h.own⟩
theorem Buf.drewNU {w0 w : World} {v : Value} {l : List UInt8} (h : Buf w0 w v l) (n : Nat) : Buf w0 (w.drewN n) v l :=
  ⟨below_drewN h.below n, h.own.kept (⟨rfl, rfl, rfl, Nat.le_refl _, fun _ _ _ => rfl⟩ : w.grownBy (w.drewN n) none) (by simp; exact Classical.em _)⟩
theorem three_cells (W : World) (y0 y1 y2 : UInt8) : ∀ (j : Nat) (v : Value), [c8 y0, c8 y1, c8 y2][j]? = some v → (W.alloc (.cells #[c8 y0, c8 y1, c8 y2] 5)).cell? ((⟨W.heap.size, 0, none⟩ : Addr).add j) = some v := by
  intro j v hv
  rw [Addr.add_lit, Nat.zero_add, (Blk.new W #[c8 y0, c8 y1, c8 y2] 5).cell j]
  simpa using hv
/-- append(buf, three bytes). -/
theorem wp_app3 {ops : Array Oper} {rest : List Oper} {o : Oper} {a : Act} {Q : Exit → Act → World → Prop} {W : World} (hgd : o.guard = none) (s x : Operand)
    (ho : o.op = .call { callee := .builtin .append, args := #[s, x], argTypes := #[22, 22] }) (w0 : World) (v : Value) (l : List UInt8) (hs : a.eval s = v) (hbuf : Buf w0 W v l)
    (n0 n1 n2 : Int) (y0 y1 y2 : UInt8) (h0 : n0 = (y0.toNat : Int)) (h1 : n1 = (y1.toNat : Int)) (h2 : n2 = (y2.toNat : Int)) (hx : a.eval x = .slice (some ⟨W.heap.size, 0, none⟩) 3 3) (hlen : l.length ≤ 1099511627776)
    (h : ∀ v' W', Buf w0 W' v' (l ++ [y0, y1, y2]) → wpList Tryz.prog ops Q rest (a.put o.dst v') W') :
    wpList Tryz.prog ops Q (o :: rest) a (W.alloc (.cells #[.int .u8 n0, .int .u8 n1, .int .u8 n2] 5)) := by
  subst h0 h1 h2
  obtain ⟨i0, hi, hz0, hz1, hz2⟩ := info_parts Tryz.infoU8
  refine wpList_append_own _ hgd s x 22 ho w0.heap.size 5 i0 (.int .u8 0) 1 1 Tryz.underlying22 hi hz0 hz1 hz2 rfl (by decide) v l.length (l.map c8) hs (hbuf.own.alloc _) ⟨W.heap.size, 0, none⟩ 3 3 [c8 y0, c8 y1, c8 y2] hx rfl (three_cells W y0 y1 y2) (fun u hu => by simp at hu; rcases hu with rfl | rfl | rfl <;> rfl) (by unfold maxLen; omega) (by omega) (by have := hbuf.below.size; simp; omega) ?_
  intro v' W' hown hgrow _
  refine h v' W' ⟨?_, ?_⟩
  · refine (hbuf.alloc _).below.grown hgrow (by have := hbuf.below.size; simp; omega) ?_
    intro k hk
    exact (hbuf.own.lt k hk).1
  · rw [List.length_append, List.map_append]
    exact hown
theorem ne37' {n : UInt8} (h : n ≠ 37) : ((n.toNat : Int) != 37) = true := by
  rw [bne_iff_ne]
  intro hh
  exact h (UInt8.toNat_inj.1 (by have : n.toNat = 37 := by omega
                                 rw [this]; rfl))
theorem evL_end {s : ByteArray} {k : Nat} (h : s.size ≤ k) : evL (s.data.toList.drop k) = [] := by
  rw [List.drop_of_length_le (by rw [len_data]; exact h)]; rfl
set_option maxRecDepth 100000 in
set_option maxHeartbeats 4000000 in
theorem l7percent_any (s : ByteArray) (w : World) (hs : s.size ≤ 1048576) :
    Calls Tryz.prog 168 #[.string s] w fun e w' => e = .returned (.string (evB s)) ∧ Below w.heap.size w w' := by
  have hel := evL_len s.data.toList.length s.data.toList (Nat.le_refl _)
  rw [len_data] at hel
  unfold evB
  generalize hR : evL s.data.toList = R at *
  have HR := hideB2 hR
  clear hR
  go_enter Tryz.func168, Tryz.ntmps168
  go_wp2
  go_loopw [3, 4] (fun ov i wr => ∃ (k : Nat) (o : List UInt8), k ≤ s.size ∧ i = .int .i64 k ∧ o ++ evL (s.data.toList.drop k) = R ∧ Buf w wr ov o) (fun _ i _ => s.size - (intOf i).toNat)
  case atStart => exact ⟨0, [], Nat.zero_le _, rfl, by rw [List.drop_zero, List.nil_append]; exact HR.out, Buf.start w⟩
  case round =>
    obtain ⟨k, o, hk, rfl, ho, hbuf⟩ := hrel
    have hol : o.length ≤ 1048576 := by
      have := congrArg List.length ho
      rw [List.length_append] at this
      omega
    have HO := hideB2 ho
    clear ho
    by_cases hlt : k < s.size
    · have hat : s[k] = at8 s k := at8_eq s k hlt
      by_cases h37 : at8 s k = 37 ∧ k + 3 ≤ s.size
      · obtain ⟨h37, h3⟩ := h37
        have hb : ((s[k].toNat : Int) != 37) = false := by rw [hat, h37]; rfl
        have e2 : IntKind.i64.wrap ((k : Int) + 2) = (k : Int) + 2 := by rw [IntKind.wrap_i64]; omega
        have e1 : IntKind.i64.wrap ((k : Int) + 1) = (k : Int) + 1 := by rw [IntKind.wrap_i64]; omega
        have e3 : IntKind.i64.wrap ((k : Int) + 3) = (k : Int) + 3 := by rw [IntKind.wrap_i64]; omega
        have c0 : ¬ ((s.size : Int) ≤ (k : Int) + 2) := by omega
        have c1 : (0 : Int) ≤ (k : Int) + 1 := by omega
        have c2 : (k : Int) + 1 ≤ (k : Int) + 3 := by omega
        have c3 : (k : Int) + 3 ≤ (s.size : Int) := by omega
        obtain ⟨r1, r2⟩ := rhex_two (s := s) (by omega) k h3
        have HRH := hideB2 (fun W => sReadHex_any (s.extract (k + 1) (k + 3)) W (by rw [ByteArray.size_extract]; unfold maxLen; omega))
        have hq : hexAt s k = (hexP (at8 s (k + 1)) && hexP (at8 s (k + 2))) := by unfold hexAt; rw [decide_eq_true h3, beq_iff_eq.2 h37]; rfl
        rw [r1, ← hq] at HRH
        rw [r1, ← hq] at r2
        clear r1 hq
        generalize hxx : s.extract (k + 1) (k + 3) = x at *
        cases hqv : hexAt s k
        · rw [hqv] at HRH
          have HN := hideB2 (show (o ++ [at8 s k]) ++ evL (s.data.toList.drop (k + 1)) = R by rw [List.append_assoc, List.singleton_append, ← evL_on hlt hqv]; exact HO.out)
          have HY := hideB2 (show (s[k].toNat : Int) = ((at8 s k).toNat : Int) by rw [hat])
          clear hqv hat h37 r2 HO
          go_wp2_with (first | (go_at_call 207; (try rw [hxx]); refine (HRH.out _).mono ?_; rintro e w' ⟨rfl, rfl⟩) | (at_builtin; refine wp_app rfl (.tmp 56) (.tmp 60) rfl _ _ rfl hbuf _ (at8 s k) HY.out rfl (by omega) ?_; intro v2 W2 hbuf2))
          go_roundw
          case rel => exact ⟨k + 1, _, by omega, by go_num, HN.out, hbuf2⟩
          case measure => simp [intOf]; omega
        · rw [hqv] at HRH
          have r3 := r2 hqv
          have hst := evL_at hqv
          rw [r3] at HRH
          have h8 : (0 : Int) ≤ ((nam8 (at8 s (k + 1)) (at8 s (k + 2))).toNat : Int) ∧ ((nam8 (at8 s (k + 1)) (at8 s (k + 2))).toNat : Int) ≤ 255 := ⟨u8_lo _, u8_hi _⟩
          have HF := hideB2 (fun W => l7free_any ((nam8 (at8 s (k + 1)) (at8 s (k + 2))).toNat : Int) W h8.1 h8.2)
          have g1 : s[k + 1] = at8 s (k + 1) := at8_eq s (k + 1) (by omega)
          have g2 : s[k + 2] = at8 s (k + 2) := at8_eq s (k + 2) (by omega)
          unfold pctP at hst
          change Hid (∀ W, Calls _ _ _ W fun e w' => e = .returned (.bool (opn8 (nam8 (at8 s (k + 1)) (at8 s (k + 2))))) ∧ w' = W) at HF
          cases hfr : opn8 (nam8 (at8 s (k + 1)) (at8 s (k + 2)))
          · rw [hfr] at HF hst
            rw [if_neg (by simp)] at hst
            have HN := hideB2 (show (o ++ [37, up8 (at8 s (k + 1)), up8 (at8 s (k + 2))]) ++ evL (s.data.toList.drop (k + 3)) = R by rw [List.append_assoc, ← hst]; exact HO.out)
            have HY1 := hideB2 (up8_toNat (at8 s (k + 1)))
            have HY2 := hideB2 (up8_toNat (at8 s (k + 2)))
            have HG1 := hideB2 (show (s[k + 1].toNat : Int) = ((at8 s (k + 1)).toNat : Int) by rw [g1])
            have hi2 : ((k : Int) + 2).toNat < s.size := by omega
            have HG2 := hideB2 (show ((s[((k : Int) + 2).toNat]'hi2).toNat : Int) = ((at8 s (k + 2)).toNat : Int) by rw [at8_eq s _ hi2, show ((k : Int) + 2).toNat = k + 2 by omega])
            have HUP := hideB2 (fun n W h0 h1 => l7upper_any n W h0 h1)
            have hw8 : IntKind.u8.wrap ((nam8 (at8 s (k + 1)) (at8 s (k + 2))).toNat : Int) = ((nam8 (at8 s (k + 1)) (at8 s (k + 2))).toNat : Int) := by rw [IntKind.wrap_u8]; omega
            clear hqv hat h37 r2 r3 HO hst hfr g1 g2
            generalize ((nam8 (at8 s (k + 1)) (at8 s (k + 2))).toNat : Int) = nv at *
            generalize up8 (at8 s (k + 1)) = y1 at *
            generalize up8 (at8 s (k + 2)) = y2 at *
            rw [← HG1.out] at HY1
            rw [← HG2.out] at HY2
            clear HG1 HG2
            go_wp2_with (first | (go_at_call 207; (try rw [hxx]); refine (HRH.out _).mono ?_; rintro e w' ⟨rfl, rfl⟩) | (go_at_call 210; refine (HF.out _).mono ?_; rintro e w' ⟨rfl, rfl⟩))
            obtain ⟨pa, pc, rfl⟩ := hbuf.form
            have d0 : (0 : Int) ≤ (k : Int) + 2 := by omega
            have d1 : (k : Int) + 1 < (s.size : Int) := by omega
            have d2 : (k : Int) + 2 < (s.size : Int) := by omega
            have d3 : k + 1 < s.size := by omega
            have d4 : k + 2 < s.size := by omega
            have HBF := hideB2 hbuf
            clear hbuf
            refine wp_region_lead_draws 10 (.slice pa o.length pc) ?_ ?_ (fun _ _ _ h => h) (Or.inl ⟨rfl, fun _ => rfl⟩) ?_
            · kernel_rfl
            · kernel_rfl
            simp only [List.take_succ_cons, List.take_zero, List.drop_succ_cons, List.drop_zero]
            go_simp
            repeat (go_big_quiet_step ((go_at_call 211; exact Calls.quiet_of_same (HUP.out _ _ (u8_lo _) (u8_hi _)))))
            refine wpQuiet_nil ?_
            intro nq
            go_wp2_with (at_builtin; refine wp_app3 rfl (.tmp 40) (.tmp 51) rfl w _ _ rfl (HBF.out.drewNU nq) _ _ _ 37 y1 y2 rfl HY1.out.symm HY2.out.symm rfl (by omega) ?_; intro v5 W5 hbuf5)
            go_roundw
            case rel => exact ⟨k + 3, _, by omega, by go_num, HN.out, hbuf5⟩
            case measure => simp [intOf]; omega
          · rw [hfr] at HF hst
            rw [if_pos rfl] at hst
            have HN := hideB2 (show (o ++ [nam8 (at8 s (k + 1)) (at8 s (k + 2))]) ++ evL (s.data.toList.drop (k + 3)) = R by rw [List.append_assoc, ← hst]; exact HO.out)
            have hw8 : IntKind.u8.wrap ((nam8 (at8 s (k + 1)) (at8 s (k + 2))).toNat : Int) = ((nam8 (at8 s (k + 1)) (at8 s (k + 2))).toNat : Int) := by rw [IntKind.wrap_u8]; omega
            have HY := hideB2 (show ((nam8 (at8 s (k + 1)) (at8 s (k + 2))).toNat : Int) = ((nam8 (at8 s (k + 1)) (at8 s (k + 2))).toNat : Int) from rfl)
            clear hqv hat h37 r2 r3 HO hst hfr g1 g2
            generalize nam8 (at8 s (k + 1)) (at8 s (k + 2)) = y at *
            go_wp2_with (first | (go_at_call 207; (try rw [hxx]); refine (HRH.out _).mono ?_; rintro e w' ⟨rfl, rfl⟩) | (go_at_call 210; refine (HF.out _).mono ?_; rintro e w' ⟨rfl, rfl⟩) | (at_builtin; refine wp_app rfl (.tmp 66) (.tmp 69) rfl _ _ rfl hbuf _ y (by first | rfl | exact hw8) rfl (by omega) ?_; intro v2 W2 hbuf2))
            go_roundw
            case rel => exact ⟨k + 3, _, by omega, by go_num, HN.out, hbuf2⟩
            case measure => simp [intOf]; omega
      · have hno : hexAt s k = false := by
          cases hh : hexAt s k with
          | false => rfl
          | true => obtain ⟨x1, x2, _⟩ := hexAt_iff.1 hh; exact absurd ⟨x2, x1⟩ h37
        have HN := hideB2 (show (o ++ [at8 s k]) ++ evL (s.data.toList.drop (k + 1)) = R by rw [List.append_assoc, List.singleton_append, ← evL_on hlt hno]; exact HO.out)
        have HY := hideB2 (show (s[k].toNat : Int) = ((at8 s k).toNat : Int) by rw [hat])
        by_cases h37' : at8 s k = 37
        · have hb : ((s[k].toNat : Int) != 37) = false := by rw [hat, h37']; rfl
          have e2 : IntKind.i64.wrap ((k : Int) + 2) = (k : Int) + 2 := by rw [IntKind.wrap_i64]; omega
          have c0 : (s.size : Int) ≤ (k : Int) + 2 := by
            have : ¬ (k + 3 ≤ s.size) := fun hh => h37 ⟨h37', hh⟩
            omega
          clear hno hat h37 h37' HO
          go_wp2_with (at_builtin; refine wp_app rfl (.tmp 24) (.tmp 28) rfl _ _ rfl hbuf _ (at8 s k) HY.out rfl (by omega) ?_; intro v2 W2 hbuf2)
          go_roundw
          case rel => exact ⟨k + 1, _, by omega, by go_num, HN.out, hbuf2⟩
          case measure => simp [intOf]; omega
        · have hb : ((s[k].toNat : Int) != 37) = true := by rw [hat]; exact ne37' h37'
          clear hno hat h37 h37' HO
          go_wp2_with (at_builtin; refine wp_app rfl (.tmp 24) (.tmp 28) rfl _ _ rfl hbuf _ (at8 s k) HY.out rfl (by omega) ?_; intro v2 W2 hbuf2)
          go_roundw
          case rel => exact ⟨k + 1, _, by omega, by go_num, HN.out, hbuf2⟩
          case measure => simp [intOf]; omega
    · have HE := hideB2 (show R = o by rw [← HO.out, evL_end (by omega), List.append_nil])
      have kb := hbuf.text
      have HB := hideB2 hbuf.below
      clear hbuf
      go_wp2
      go_ret
      exact ⟨ret_str (by rw [HE.out]), HB.out⟩
end Go.Proofs.YthdgeepedofleaaGreatDoor
namespace Go.Proofs.YthdgeepedofleaaGreatDoor
set_option linter.unusedVariables false
set_option linter.unusedSimpArgs false
open Go.RowKit
def strLen : Value → Nat
  | .string b => b.size
  | _ => 0
/-- The byte that the first bytes of s name, or 0. -/
def namV (s : ByteArray) : Int := if hexAt s 0 = true then ((nam8 (at8 s 1) (at8 s 2)).toNat : Int) else 0
theorem namV_bd (s : ByteArray) : 0 ≤ namV s ∧ namV s ≤ 255 := by
  unfold namV
  split
  · exact ⟨u8_lo _, u8_hi _⟩
  · omega
theorem hexAt_short {s : ByteArray} (h : s.size < 3) : hexAt s 0 = false := by
  unfold hexAt; rw [decide_eq_false (by omega)]; rfl
theorem hexAt_other {s : ByteArray} (h : at8 s 0 ≠ 37) : hexAt s 0 = false := by
  unfold hexAt; rw [beq_eq_false_iff_ne.2 h]; simp
theorem hexAt_rhex {s : ByteArray} (h3 : 3 ≤ s.size) (h : at8 s 0 = 37) : rhexOk (s.extract 1 3) = hexAt s 0 ∧ rhexN (s.extract 1 3) = namV s := by
  obtain ⟨e1, e2⟩ := rhex_two h3 0 (by omega)
  have e0 : hexAt s 0 = (hexP (at8 s (0 + 1)) && hexP (at8 s (0 + 2))) := by
    unfold hexAt; rw [decide_eq_true (by omega), beq_iff_eq.2 h]; rfl
  have e3 : rhexOk (s.extract 1 3) = hexAt s 0 := by rw [e0]; exact e1
  refine ⟨e3, ?_⟩
  unfold namV
  cases hh : hexAt s 0
  · rw [if_neg (by simp)]
    have : rhexOk (s.extract 1 3) = false := by rw [e3, hh]
    unfold rhexN; rw [this]; rfl
  · rw [if_pos rfl]
    exact e2 (by rw [show s.extract (0 + 1) (0 + 3) = s.extract 1 3 from rfl, e3, hh])
theorem ne37 {n : UInt8} (h : n ≠ 37) : ((n.toNat : Int) != 37) = true := by
  rw [bne_iff_ne]
  intro hh
  exact h (UInt8.toNat_inj.1 (by have : n.toNat = 37 := by omega
                                 rw [this]; rfl))
set_option maxHeartbeats 1000000 in
theorem namedByte_any (s : ByteArray) (w : World) (hs : s.size ≤ maxLen) :
    Calls Tryz.prog 295 #[.string s] w fun e w' => e = .returned (.tuple #[.int .u8 (namV s), .bool (hexAt s 0)]) ∧ w' = w := by
  unfold maxLen at hs
  by_cases h3 : s.size < 3
  · have e0 := hexAt_short h3
    have e1 : namV s = 0 := by unfold namV; rw [e0]; rfl
    rw [e0, e1]
    have h3' : (s.size : Int) < 3 := by omega
    clear e0 e1
    go_enter Tryz.func295, Tryz.ntmps295
    go_wp2
    go_ret2
    exact ⟨rfl, rfl⟩
  · have h3' : ¬ (s.size : Int) < 3 := by omega
    have h0 : 0 < s.size := by omega
    have hat : s[0]'h0 = at8 s 0 := at8_eq s 0 h0
    by_cases h37 : at8 s 0 = 37
    · obtain ⟨e0, e1⟩ := hexAt_rhex (by omega) h37
      have hb : ((s[0].toNat : Int) != 37) = false := by rw [hat, h37]; rfl
      have HB := namV_bd s
      have HR := hideB2 (fun W => ReadHex_any (s.extract 1 3) W (by rw [ByteArray.size_extract]; unfold maxLen; omega))
      rw [e0, e1] at HR
      clear e0 e1 hat h37
      generalize namV s = v at *
      generalize hexAt s 0 = q at *
      have e1 : IntKind.u8.wrap v = v := by rw [IntKind.wrap_u8]; omega
      have c1 : (3 : Int) ≤ (s.size : Int) := by omega
      generalize hx : s.extract 1 3 = x at *
      go_enter Tryz.func295, Tryz.ntmps295
      go_wp2_with (go_at_call 287; first | rw [hx] | skip; refine (HR.out _).mono ?_; rintro e w' ⟨rfl, rfl⟩)
      go_ret2
      first | exact ⟨rfl, rfl⟩ | (rw [e1]; exact ⟨rfl, rfl⟩)
    · have e0 := hexAt_other h37
      have e1 : namV s = 0 := by unfold namV; rw [e0]; rfl
      have hb : ((s[0].toNat : Int) != 37) = true := by rw [hat]; exact ne37 h37
      rw [e0, e1]
      clear e0 e1 hat
      go_enter Tryz.func295, Tryz.ntmps295
      go_wp2
      go_ret2
      exact ⟨rfl, rfl⟩
theorem Tryz.extraU : Builder.Extra Tryz.prog Tryz.lays158_ren := { sizeBuilder := by kernel_rfl, liesBuilder := by kernel_rfl, t5 := Tryz.underlying5, a5 := Tryz.isAgg5, z5 := Tryz.sizeOf5, v5 := Tryz.zeroValue5, infoByte := by kernel_rfl, cellsByte := by kernel_rfl, sizeByte := by kernel_rfl, neB5 := by decide }
theorem upperB_up8 (b : UInt8) : Lib.upperB b = up8 b := by
  unfold Lib.upperB up8 Lib.isLowerB
  by_cases h : 97 ≤ b.toNat ∧ b.toNat ≤ 122
  · rw [if_pos h, if_pos]
    rw [Bool.and_eq_true, decide_eq_true_eq, decide_eq_true_eq]
    exact ⟨UInt8.le_iff_toNat_le.2 h.1, UInt8.le_iff_toNat_le.2 h.2⟩
  · rw [if_neg h, if_neg]
    rw [Bool.and_eq_true, decide_eq_true_eq, decide_eq_true_eq]
    rintro ⟨h1, h2⟩
    exact h ⟨UInt8.le_iff_toNat_le.1 h1, UInt8.le_iff_toNat_le.1 h2⟩
theorem hexP_ascii {b : UInt8} (h : hexP b = true) : b.toNat < 128 := by
  unfold hexP hex8 hexV at h
  have h0 : 0 ≤ (if digP (b.toNat : Int) = true then (b.toNat : Int) - 48 else if 97 ≤ lowI (b.toNat : Int) ∧ lowI (b.toNat : Int) ≤ 102 then lowI (b.toNat : Int) - 87 else -1) := of_decide_eq_true h
  split at h0
  · rename_i hd; rw [digP_iff] at hd; omega
  · split at h0
    · rename_i hl
      unfold lowI at hl
      split at hl
      · omega
      · omega
    · omega
theorem up3 {s : ByteArray} (h : hexAt s 0 = true) : (s.extract 0 3).data.toList = [37, at8 s 1, at8 s 2] := by
  obtain ⟨h1, h2, h3, h4⟩ := hexAt_iff.1 h
  rw [Lib.extract_data, drop_at8 (i := 0) (by omega), drop_at8 (i := 0 + 1) (by omega), drop_at8 (i := 0 + 1 + 1) (by omega), h2]
  rfl
set_option maxHeartbeats 1000000 in
theorem upper3_any (s : ByteArray) (w : World) (h : hexAt s 0 = true) :
    Calls Tryz.prog 297 #[.string (s.extract 0 3)] w fun e w' => e = .returned (.string ⟨#[37, up8 (at8 s 1), up8 (at8 s 2)]⟩) ∧ Below w.heap.size w w' := by
  have e := up3 h
  obtain ⟨h1, h2, h3, h4⟩ := hexAt_iff.1 h
  refine (Any.strings_ToUpper_ascii Tryz.lays158 Tryz.extraU (s.extract 0 3) w (by rw [ByteArray.size_extract]; omega) ?_).mono ?_
  · intro j b hj
    rw [e] at hj
    have hm := List.mem_of_getElem? hj
    simp only [List.mem_cons, List.not_mem_nil, or_false] at hm
    rcases hm with rfl | rfl | rfl
    · decide
    · exact hexP_ascii h3
    · exact hexP_ascii h4
  · rintro e1 w' ⟨rfl, hb⟩
    refine ⟨?_, hb⟩
    rw [e]
    show Ending.returned (.string ⟨#[Lib.upperB 37, Lib.upperB (at8 s 1), Lib.upperB (at8 s 2)]⟩) = _
    rw [upperB_up8, upperB_up8, upperB_up8]
    rfl
theorem evP_miss {s : ByteArray} (h : hexAt s 0 = false) : evP s = s.extract 0 1 ∧ evN s = 1 := by
  unfold evP evN; rw [h]; exact ⟨rfl, rfl⟩
theorem evP_hit {s : ByteArray} (h : hexAt s 0 = true) : evP s = ⟨(pctP (at8 s 1) (at8 s 2)).toArray⟩ ∧ evN s = 3 := by
  unfold evP evN; rw [h]; exact ⟨rfl, rfl⟩
set_option maxHeartbeats 2000000 in
theorem evenPart_any (s : ByteArray) (w : World) (hs : s.size ≤ maxLen) (hpos : 0 < s.size) :
    Calls Tryz.prog 264 #[.string s] w fun e w' => e = .returned (.tuple #[.string (evP s), .int .i64 (evN s)]) ∧ Below w.heap.size w w' := by
  have HN := hideB2 (fun W => namedByte_any s W hs)
  have HB := namV_bd s
  unfold maxLen at hs
  cases hq : hexAt s 0
  · obtain ⟨e1, e2⟩ := evP_miss hq
    rw [e1, e2]
    rw [hq] at HN
    have c1 : (1 : Int) ≤ (s.size : Int) := by omega
    clear e1 e2 hq
    generalize namV s = v at *
    go_enter Tryz.func264, Tryz.ntmps264
    go_wp2_with (go_at_call 295; refine (HN.out _).mono ?_; rintro e w' ⟨rfl, rfl⟩)
    go_ret2
    exact ⟨rfl, Below.refl _ _⟩
  · obtain ⟨e1, e2⟩ := evP_hit hq
    rw [e1, e2]
    have ev : namV s = ((nam8 (at8 s 1) (at8 s 2)).toNat : Int) := by unfold namV; rw [hq]; rfl
    have hp : opn8 (nam8 (at8 s 1) (at8 s 2)) = opnP (namV s) := by rw [ev]; rfl
    have h3 := (hexAt_iff.1 hq).1
    have HU := hideB2 (fun W => upper3_any s W hq)
    have HO := hideB2 (fun W => openByte_any (namV s) W HB.1 HB.2)
    have c1 : (3 : Int) ≤ (s.size : Int) := by omega
    rw [hq] at HN
    unfold pctP
    rw [hp]
    clear e1 e2 hq hp
    cases ho : opnP (namV s)
    · rw [ho] at HO
      rw [if_neg (by simp)]
      clear ho ev
      generalize namV s = v at *
      generalize hx : s.extract 0 3 = x at *
      generalize up8 (at8 s 1) = y1 at *
      generalize up8 (at8 s 2) = y2 at *
      go_enter Tryz.func264, Tryz.ntmps264
      go_wp2_with (first | (go_at_call 295; refine (HN.out _).mono ?_; rintro e w' ⟨rfl, rfl⟩) | (go_at_call 296; refine (HO.out _).mono ?_; rintro e w' ⟨rfl, rfl⟩) | (go_at_call 297; (try rw [hx]); refine (HU.out _).mono ?_; rintro e w' ⟨rfl, hb⟩))
      go_ret2
      exact ⟨rfl, hb⟩
    · rw [ho] at HO
      rw [if_pos rfl]
      clear ho
      generalize nam8 (at8 s 1) (at8 s 2) = y at *
      have kb := fun W => (Buf.one W (namV s) y ev).text
      have HBL := hideB2 (below_a1 w (.cells #[.int .u8 (namV s)] 5))
      clear HU
      generalize namV s = v at *
      have HE := hideB2 ev
      clear ev
      go_enter Tryz.func264, Tryz.ntmps264
      go_wp2_with (first | (go_at_call 295; refine (HN.out _).mono ?_; rintro e w' ⟨rfl, rfl⟩) | (go_at_call 296; refine (HO.out _).mono ?_; rintro e w' ⟨rfl, rfl⟩))
      go_ret2
      exact ⟨rfl, HBL.out⟩
theorem evP_le (s : ByteArray) : (evP s).size ≤ evN s := by
  unfold evP evN
  split
  · show (pctP _ _).toArray.size ≤ 3
    simpa using pctP_len _ _
  · rw [ByteArray.size_extract]; omega
theorem evB_nil {s : ByteArray} (h : s.size = 0) : evB s = ⟨#[]⟩ := by
  have e : s.data.toList = [] := List.eq_nil_of_length_eq_zero (by rw [len_data]; exact h)
  unfold evB
  rw [e]
  rfl
theorem bytes_assoc (a b c : ByteArray) : (a ++ b) ++ c = a ++ (b ++ c) := by
  apply bytes_ext
  simp [Go.Joins.data_append]
theorem bytes_nil_right (a : ByteArray) : a ++ (⟨#[]⟩ : ByteArray) = a := by
  apply bytes_ext
  simp [Go.Joins.data_append]
theorem bytes_nil_left (a : ByteArray) : (⟨#[]⟩ : ByteArray) ++ a = a := by
  apply bytes_ext
  simp [Go.Joins.data_append]
theorem empty_of {s : ByteArray} (h : s.size = 0) : s.toList.isEmpty = true := by
  rw [ByteArray.toList_eq, List.isEmpty_iff, ← List.length_eq_zero_iff, Array.length_toList]; exact h
theorem nonempty_of {s : ByteArray} (h : s.size ≠ 0) : s.toList.isEmpty = false := by
  rw [ByteArray.toList_eq, List.isEmpty_eq_false_iff]
  intro hh
  apply h
  show s.data.size = 0
  rw [← Array.length_toList, hh]; rfl
set_option maxHeartbeats 2000000 in
theorem evenPercents_any (s : ByteArray) (w : World) (hs : s.size ≤ 1048576) :
    Calls Tryz.prog 228 #[.string s] w fun e w' => e = .returned (.string (evB s)) ∧ Below w.heap.size w w' := by
  generalize hR : evB s = R
  have HR := hideB2 hR
  clear hR
  go_enter Tryz.func228, Tryz.ntmps228
  go_wp2
  go_loopw [0, 3] (fun sv ov wr => ∃ x y : ByteArray, sv = .string x ∧ ov = .string y ∧ y ++ evB x = R ∧ y.size + x.size ≤ 1048576 ∧ Below w.heap.size w wr) (fun sv _ _ => strLen sv)
  case atStart => exact ⟨s, ⟨#[]⟩, rfl, rfl, by rw [bytes_nil_left]; exact HR.out, by show 0 + s.size ≤ _; omega, Below.refl _ _⟩
  case round =>
    obtain ⟨x, y, rfl, rfl, hy, hsz, hb⟩ := hrel
    have HY := hideB2 hy
    have HB := hideB2 hb
    clear hy hb
    by_cases hx : x.size = 0
    · have hne := empty_of hx
      have HF := hideB2 (show R = y by rw [← HY.out, evB_nil hx, bytes_nil_right])
      clear hx
      go_wp2
      go_ret
      exact ⟨ret_str HF.out, HB.out⟩
    · have hne := nonempty_of hx
      have HE := hideB2 (fun W => evenPart_any x W (by unfold maxLen; omega) (by omega))
      have hst := evB_step (s := x) (by omega)
      have hl := evN_le (s := x) (by omega)
      have hp := evN_pos x
      have hle := evP_le x
      have HS := hideB2 (show (y ++ evP x) ++ evB (x.extract (evN x) x.size) = R by rw [bytes_assoc, ← hst]; exact HY.out)
      have hez : (x.extract (evN x) x.size).size = x.size - evN x := by rw [ByteArray.size_extract]; omega
      have hya : (y ++ evP x).size = y.size + (evP x).size := ByteArray.size_append
      have HZ := hideB2 (show (y ++ evP x).size + (x.extract (evN x) x.size).size ≤ 1048576 by omega)
      have HM := hideB2 (show (x.extract (evN x) x.size).size < x.size by omega)
      clear hst hez hya
      generalize evP x = p at *
      generalize evN x = n at *
      have c1 : (0 : Int) ≤ (n : Int) := by omega
      have c2 : (n : Int) ≤ (x.size : Int) := by omega
      go_wp2_with fail
      refine (HE.out _).mono ?_
      rintro e w1 ⟨rfl, hb1⟩
      have HB1 := hideB2 (below_then HB.out hb1)
      clear hb1 HB
      go_wp2
      go_roundw
      case rel => exact ⟨_, _, rfl, rfl, HS.out, HZ.out, HB1.out⟩
      case measure => exact HM.out
end Go.Proofs.YthdgeepedofleaaGreatDoor
namespace Go.Proofs.YthdgeepedofleaaGreatDoor
set_option linter.unusedVariables false
set_option linter.unusedSimpArgs false
open Go.RowKit
theorem keepS_dd {k : List ByteArray} {x : ByteArray} (h : eqB x dd = true) : keepS k x = k.take (k.length - 1) ∧ dotQ x = true := by
  unfold keepS dotQ
  rw [if_pos h, h, Bool.or_true, List.dropLast_eq_take]
  exact ⟨rfl, rfl⟩
theorem keepS_d1 {k : List ByteArray} {x : ByteArray} (h : eqB x dd = false) (h1 : eqB x d1 = true) : keepS k x = k ∧ dotQ x = true := by
  unfold keepS dotQ
  rw [h, h1]
  exact ⟨rfl, rfl⟩
theorem keepS_no {k : List ByteArray} {x : ByteArray} (h : eqB x dd = false) (h1 : eqB x d1 = false) : keepS k x = k ++ [x] ∧ dotQ x = false := by
  unfold keepS dotQ
  rw [h, h1]
  exact ⟨rfl, rfl⟩
theorem eqB_dd (x : ByteArray) : (x.toList == [46, 46]) = eqB x dd := by
  unfold eqB; rw [ByteArray.toList_eq dd]; rfl
theorem eqB_d1 (x : ByteArray) : (x.toList == [46]) = eqB x d1 := by
  unfold eqB; rw [ByteArray.toList_eq d1]; rfl
set_option maxRecDepth 100000 in
set_option maxHeartbeats 4000000 in
theorem keptPieces_any (v : Value) (L : List ByteArray) (w0 w : World) (hv : BufS w0 w v L) (hl : L.length ≤ 1048577) :
    Calls Tryz.prog 230 #[v] w fun e w' => ∃ v', e = .returned v' ∧ BufS w w' v' (keptL L) := by
  have hcells := fun (h : 0 < L.length) => hv.cells h
  obtain ⟨a, c0, rfl⟩ := hv.form
  have HC := hideB2 (show ∀ j, j < L.length → ∃ g, a = some ⟨g, 0, none⟩ ∧ g < w.heap.size ∧ w.cell? ⟨g, j, none⟩ = some (.string (L.getD j ⟨#[]⟩)) from fun j hj => by
    obtain ⟨g, cap, e, _, hlt, hc⟩ := hcells (by omega)
    injection e with e1
    exact ⟨g, e1, hlt, hc j hj⟩)
  clear hcells hv
  generalize hn : L.length = n at *
  have HN := hideB2 hn
  clear hn
  go_enter Tryz.func230, Tryz.ntmps230
  go_wp2
  go_loopw [3, 4, 9] (fun kv ev i wr => ∃ k : Nat, k ≤ n ∧ i = .int .i64 k ∧ ev = .bool (lastDot (L.take k)) ∧ BufS w wr kv (keepL (L.take k))) (fun _ _ i _ => n - (intOf i).toNat)
  case atStart => exact ⟨0, Nat.zero_le _, rfl, rfl, BufS.start w⟩
  case round =>
    obtain ⟨k, hk, rfl, rfl, hbuf⟩ := hrel
    have hlen : (keepL (L.take k)).length ≤ 1048577 := by
      have h1 := (keepL_le (L.take k)).1
      rw [List.length_take] at h1
      omega
    by_cases hlt : k < n
    · obtain ⟨g, rfl, hgl, hcell⟩ := HC.out k hlt
      have p0 : wr.cell? ⟨g, k, none⟩ = some (.string (L.getD k ⟨#[]⟩)) := (hbuf.below.cell (p := ⟨g, k, none⟩) hgl).trans hcell
      have hkL : k < L.length := by rw [HN.out]; exact hlt
      have hgx : L.getD k ⟨#[]⟩ = L[k] := by rw [List.getD, List.getElem?_eq_getElem hkL]; rfl
      have HT := hideB2 (keepL_take hkL)
      have HD := hideB2 (lastDot_take hkL)
      rw [← hgx] at HT HD
      clear hcell hgx
      generalize L.getD k ⟨#[]⟩ = x at *
      generalize keepL (L.take k) = K at *
      generalize lastDot (L.take k) = q at *
      cases hdd : eqB x dd
      · cases hd1 : eqB x d1
        · obtain ⟨e1, e2⟩ := keepS_no (k := K) hdd hd1
          have HT2 := hideB2 (HT.out.trans e1)
          have HD2 := hideB2 (HD.out.trans e2)
          rw [← eqB_dd] at hdd
          rw [← eqB_d1] at hd1
          clear e1 e2 HT HD
          go_wp2_with (at_builtin; refine wp_sapp rfl (.tmp 24) (.tmp 26) rfl _ _ rfl hbuf x rfl (by omega) ?_; intro v2 W2 hbuf2)
          go_roundw
          case rel => exact ⟨k + 1, by omega, by go_num, by rw [HD2.out], by rw [HT2.out]; exact hbuf2⟩
          case measure => simp [intOf]; omega
        · obtain ⟨e1, e2⟩ := keepS_d1 (k := K) hdd hd1
          have HT2 := hideB2 (HT.out.trans e1)
          have HD2 := hideB2 (HD.out.trans e2)
          rw [← eqB_dd] at hdd
          rw [← eqB_d1] at hd1
          clear e1 e2 HT HD
          have HBF := hideB2 hbuf
          clear hbuf
          go_wp2
          go_roundw
          case rel => exact ⟨k + 1, by omega, by go_num, by rw [HD2.out], by rw [HT2.out]; exact HBF.out⟩
          case measure => simp [intOf]; omega
      · obtain ⟨e1, e2⟩ := keepS_dd (k := K) hdd
        have HT2 := hideB2 (HT.out.trans e1)
        have HD2 := hideB2 (HD.out.trans e2)
        rw [← eqB_dd] at hdd
        clear e1 e2 HT HD
        rcases hbuf.own.2 with ⟨rfl, h0⟩ | ⟨g1, cap1, _, rfl, _, _, hcap, hmx, _⟩
        · obtain rfl : K = [] := List.eq_nil_of_length_eq_zero h0
          have HBF := hideB2 hbuf
          clear hbuf h0
          go_wp2
          go_roundw
          case rel => exact ⟨k + 1, by omega, by go_num, by rw [HD2.out], by rw [HT2.out]; exact HBF.out⟩
          case measure => simp [intOf]; omega
        · have HBF := hideB2 (hbuf.shrink (K.length - 1) (by omega))
          clear hbuf
          generalize K.length = q1 at *
          unfold maxLen at hmx
          by_cases hq1 : 1 ≤ q1
          · have e1 : IntKind.i64.wrap ((q1 : Int) - 1) = ((q1 - 1 : Nat) : Int) := by rw [IntKind.wrap_i64]; omega
            have e2 : ¬ (((q1 - 1 : Nat) : Int) < 0) := by omega
            have e3 : ((q1 - 1 : Nat) : Int) ≤ (cap1 : Int) := by omega
            generalize q1 - 1 = m at *
            go_wp2
            go_roundw
            case rel => exact ⟨k + 1, by omega, by go_num, by rw [HD2.out], by rw [HT2.out]; exact HBF.out⟩
            case measure => simp [intOf]; omega
          · obtain rfl : q1 = 0 := by omega
            go_wp2
            go_roundw
            case rel => exact ⟨k + 1, by omega, by go_num, by rw [HD2.out], by rw [HT2.out]; exact HBF.out⟩
            case measure => simp [intOf]; omega
    · obtain rfl : k = n := by omega
      have ht : L.take k = L := List.take_of_length_le (by rw [HN.out]; exact Nat.le_refl _)
      rw [ht] at hbuf hlen ⊢
      have HK := hideB2 (show keptL L = if lastDot L = true then keepL L ++ [⟨#[]⟩] else keepL L from rfl)
      clear ht
      generalize keepL L = K at *
      cases hq : lastDot L
      · rw [hq] at HK
        have HK2 := hideB2 (HK.out.trans (if_neg (by simp)))
        have HBF := hideB2 hbuf
        clear hq hbuf
        go_wp2
        go_ret
        exact ⟨_, rfl, by rw [HK2.out]; exact HBF.out⟩
      · rw [hq] at HK
        have HK2 := hideB2 (HK.out.trans (if_pos rfl))
        clear hq
        go_wp2_with (at_builtin; refine wp_sapp rfl (.tmp 30) (.tmp 31) rfl _ _ rfl hbuf ⟨#[]⟩ rfl (by omega) ?_; intro v2 W2 hbuf2)
        go_ret
        exact ⟨_, rfl, by rw [HK2.out]; exact hbuf2⟩
end Go.Proofs.YthdgeepedofleaaGreatDoor
namespace Go.Proofs.YthdgeepedofleaaGreatDoor
set_option linter.unusedVariables false
set_option linter.unusedSimpArgs false
open Go.RowKit
theorem keptL_le (l : List ByteArray) : (keptL l).length ≤ l.length + 1 ∧ sumS (keptL l) ≤ sumS l := by
  have h := keepL_le l
  unfold keptL
  split
  · have e : sumS (keepL l ++ [⟨#[]⟩]) = sumS (keepL l) := by simp [sumS]; rfl
    rw [List.length_append, List.length_singleton, e]; omega
  · omega
theorem joinS_size (c : UInt8) (l : List ByteArray) : (joinS c l).size ≤ l.length + sumS l := by
  cases l with
  | nil => show (0 : Nat) ≤ _; omega
  | cons x r =>
    have h1 := congrArg List.length (joinS_tail c x r)
    rw [tailS_len, List.length_cons, len_data] at h1
    omega
theorem clnL_join (l : List ByteArray) : (⟨#[47]⟩ : ByteArray) ++ joinS 47 l = clnL l := by
  apply bytes_ext
  rw [Go.Joins.data_append]
  cases l with
  | nil => rfl
  | cons x r =>
    unfold clnL
    rw [if_neg (by simp)]
    exact joinS_tail 47 x r
theorem splS_le (c : UInt8) (s : ByteArray) : (splS c s).length ≤ s.size + 1 ∧ sumS (splS c s) ≤ s.size := by
  have h1 := splS_len c s
  have h2 := splS_cnt c s
  have h3 := splS_sum c s.size s (Nat.le_refl _)
  omega
def slash1 (s : ByteArray) : Bool := decide (0 < s.size) && (at8 s 0 == 47)
theorem ext1_eq {s : ByteArray} (h : 0 < s.size) (c : UInt8) : ((s.extract 0 1).toList == [c]) = (at8 s 0 == c) := by
  rw [ByteArray.toList_eq, Lib.extract_data, drop_at8 (i := 0) h]
  simp
set_option maxHeartbeats 1000000 in
theorem HasPre1_any (s : ByteArray) (w : World) (hs : s.size ≤ maxLen) :
    Calls Tryz.prog 95 #[.string s, .string ⟨#[47]⟩] w fun e w' => e = .returned (.bool (slash1 s)) ∧ w' = w := by
  unfold maxLen at hs
  by_cases h0 : s.size = 0
  · have e : slash1 s = false := by unfold slash1; rw [h0]; rfl
    have h1 : ¬ (1 : Int) ≤ (s.size : Int) := by omega
    rw [e]
    clear e
    go_enter Tryz.func95, Tryz.ntmps95
    go_wp2
    go_ret
    exact ⟨rfl, rfl⟩
  · have e : slash1 s = (at8 s 0 == 47) := by unfold slash1; rw [decide_eq_true (by omega)]; rfl
    have h1 : (1 : Int) ≤ (s.size : Int) := by omega
    have h2 := ext1_eq (s := s) (by omega) 47
    rw [e]
    clear e h0
    generalize (at8 s 0 == 47) = q at *
    go_enter Tryz.func95, Tryz.ntmps95
    go_wp2
    go_ret
    exact ⟨by first | rfl | (rw [h2]), rfl⟩
theorem vis_ascii {s : ByteArray} (h : targQ s = true) : ∀ (j : Nat) (b : UInt8), s.data.toList[j]? = some b → b.toNat < 128 := by
  intro j b hj
  have h1 := (targQ_iff.1 h).2.2
  unfold allB at h1
  rw [List.all_eq_true] at h1
  have h2 := h1 b (List.mem_of_getElem? hj)
  unfold vis8 visP at h2
  simp at h2
  omega
theorem nof_mem (b : UInt8) : [35, 63].contains b = !nof8 b := by
  unfold nof8
  by_cases h1 : b = 35
  · subst h1; rfl
  · by_cases h2 : b = 63
    · subst h2; rfl
    · rw [bne_iff_ne.2 h1, bne_iff_ne.2 h2]
      simp [h1, h2]
theorem nof_list (l : List UInt8) : Lib.containsAny l [35, 63] = !l.all nof8 := by
  unfold Lib.containsAny
  induction l with
  | nil => rfl
  | cons b l ih =>
    have hge := Lib.indexAny_ge [35, 63] l
    rw [Lib.indexAny, nof_mem, List.all_cons]
    cases hb : nof8 b
    · simp
    · rw [Bool.true_and, ← ih]
      simp only [Bool.not_true, Bool.false_eq_true, if_false]
      by_cases h : Lib.indexAny l [35, 63] = -1
      · rw [if_pos (beq_iff_eq.2 h), h]
      · rw [if_neg (fun e => h (beq_iff_eq.1 e))]
        rw [decide_eq_true (by omega), decide_eq_true (by omega)]
theorem nof_any (s : ByteArray) : Lib.containsAny s.data.toList [35, 63] = !allB nof8 s := nof_list _
theorem ContNof_any (s : ByteArray) (w : World) (h : targQ s = true) :
    Calls Tryz.prog 226 #[.string s, .string ⟨#[35, 63]⟩] w fun e w' => e = .returned (.bool (!allB nof8 s)) ∧ Below w.heap.size w w' := by
  have hz := (targQ_iff.1 h).2.1
  refine (Any.strings_ContainsAny_laid Tryz.lays150 (by kernel_rfl) s ⟨#[35, 63]⟩ w (by omega) (by decide) (vis_ascii h) ?_).mono ?_
  · intro j b hj
    have hm := List.mem_of_getElem? hj
    simp only [List.mem_cons, List.not_mem_nil, or_false] at hm
    rcases hm with rfl | rfl <;> decide
  · rintro e w' ⟨rfl, hb⟩
    exact ⟨ret_bool (nof_any s).symm, hb⟩
theorem pthQ_no1 {s : ByteArray} (h : slash1 s = false) : pthQ s = false := by
  unfold pthQ
  cases ht : targQ s
  · rfl
  · have h0 := (targQ_iff.1 ht).1
    unfold slash1 at h
    rw [decide_eq_true (by omega), Bool.true_and] at h
    rw [h]; rfl
theorem pthQ_no2 {s : ByteArray} (h : targQ s = false) : pthQ s = false := by unfold pthQ; rw [h]; rfl
theorem pthQ_no3 {s : ByteArray} (h : allB nof8 s = false) : pthQ s = false := by unfold pthQ; rw [h, Bool.and_false]
theorem pthQ_yes {s : ByteArray} (h1 : slash1 s = true) (h2 : targQ s = true) (h3 : allB nof8 s = true) : pthQ s = true := by
  unfold pthQ
  unfold slash1 at h1
  rw [Bool.and_eq_true] at h1
  rw [h2, h1.2, h3]; rfl
theorem clnB_no {s : ByteArray} (h : pthQ s = false) : clnB s = ⟨#[]⟩ := by unfold clnB; rw [if_neg (by rw [h]; simp)]
theorem clnB_yes {s : ByteArray} (h : pthQ s = true) : clnB s = clnL (keptL (splS 47 (evB (s.extract 1 s.size)))) := by unfold clnB; rw [if_pos h]
set_option maxHeartbeats 4000000 in
theorem CleanPath_any (s : ByteArray) (w : World) (hs : s.size ≤ maxLen) :
    Calls Tryz.prog 187 #[.string s] w fun e w' => e = .returned (.string (clnB s)) ∧ Below w.heap.size w w' := by
  have H1 := hideB2 (fun W => HasPre1_any s W hs)
  cases q1 : slash1 s
  · rw [clnB_no (pthQ_no1 q1)]
    rw [q1] at H1
    clear q1
    go_enter Tryz.func187, Tryz.ntmps187
    go_wp2_with (go_at_call 95; refine (H1.out _).mono ?_; rintro e w' ⟨rfl, rfl⟩)
    go_ret
    exact ⟨rfl, Below.refl _ _⟩
  · rw [q1] at H1
    have H2 := hideB2 (fun W => targetOk_any s W hs)
    cases q2 : targQ s
    · rw [clnB_no (pthQ_no2 q2)]
      rw [q2] at H2
      clear q1 q2
      go_enter Tryz.func187, Tryz.ntmps187
      go_wp2_with (first | (go_at_call 95; refine (H1.out _).mono ?_; rintro e w' ⟨rfl, rfl⟩) | (go_at_call 182; refine (H2.out _).mono ?_; rintro e w' ⟨rfl, rfl⟩))
      go_ret
      exact ⟨rfl, Below.refl _ _⟩
    · rw [q2] at H2
      have H3 := hideB2 (fun W => ContNof_any s W q2)
      cases q3 : allB nof8 s
      · rw [clnB_no (pthQ_no3 q3)]
        rw [q3] at H3
        clear q1 q2 q3
        go_enter Tryz.func187, Tryz.ntmps187
        go_wp2_with (first | (go_at_call 95; refine (H1.out _).mono ?_; rintro e w' ⟨rfl, rfl⟩) | (go_at_call 182; refine (H2.out _).mono ?_; rintro e w' ⟨rfl, rfl⟩) | (go_at_call 226; refine (H3.out _).mono ?_; rintro e w' ⟨rfl, hb⟩))
        go_ret
        exact ⟨rfl, hb⟩
      · rw [q3] at H3
        rw [clnB_yes (pthQ_yes q1 q2 q3)]
        have hz := (targQ_iff.1 q2).2.1
        have hz1 := (targQ_iff.1 q2).1
        have c1 : (1 : Int) ≤ (s.size : Int) := by omega
        have hx : (s.extract 1 s.size).size ≤ 200 := by rw [ByteArray.size_extract]; omega
        clear q1 q2 q3
        generalize hxx : s.extract 1 s.size = x at *
        have H4 := hideB2 (fun W => evenPercents_any x W (by omega))
        have hev := evB_size x
        generalize evB x = y at *
        have H5 := hideB2 (fun W => SplitS_any y 47 W (by omega))
        have hsp := splS_le 47 y
        generalize splS 47 y = L at *
        have H6 := hideB2 (fun w0 w1 v (h : BufS w0 w1 v L) => keptPieces_any v L w0 w1 h (by omega))
        have hkp := keptL_le L
        generalize keptL L = K at *
        have H7 := hideB2 (fun w0 w1 v (h : BufS w0 w1 v K) => JoinS_any w0 w1 v 47 K h (by omega) (by have := joinS_size 47 K; omega))
        have HR := hideB2 (clnL_join K)
        have hjs := joinS_size 47 K
        have hjz : (joinS 47 K).size ≤ 1000 := by omega
        clear hkp hsp hev hjs
        generalize joinS 47 K = z at *
        go_enter Tryz.func187, Tryz.ntmps187
        go_wp2_with (first | (go_at_call 95; refine (H1.out _).mono ?_; rintro e w' ⟨rfl, rfl⟩) | (go_at_call 182; refine (H2.out _).mono ?_; rintro e w' ⟨rfl, rfl⟩) | (go_at_call 226; refine (H3.out _).mono ?_; rintro e w3 ⟨rfl, hb3⟩) | (go_at_call 228; (try rw [hxx]); refine (H4.out _).mono ?_; rintro e w4 ⟨rfl, hb4⟩) | (go_at_call 227; refine (H5.out _).mono ?_; rintro e w5 ⟨v5, rfl, hb5⟩) | (go_at_call 230; refine (H6.out _ _ _ hb5).mono ?_; rintro e w6 ⟨v6, rfl, hb6⟩) | (go_at_call 229; refine (H7.out _ _ _ hb6).mono ?_; rintro e w7 ⟨rfl, hb7⟩))
        go_ret
        exact ⟨ret_str HR.out.symm, below_then (below_then (below_then (below_then hb3 hb4) hb5.below) hb6.below) hb7⟩
end Go.Proofs.YthdgeepedofleaaGreatDoor
