/-
  The walks over chapter 1: ReadHex.
-/
import Derived.Test.YtefhpjipcdmbaabGreatDoorW2
import Derived.Test.YtefhpjipcdmbaabGreatDoorM6
namespace Go.Proofs.YtefhpjipcdmbaabGreatDoor
set_option linter.unusedVariables false
set_option linter.unusedSimpArgs false
open Go.RowKit

theorem ret_ib6 {k : IntKind} {n m : Int} {a b : Bool} (h : m = n) (h' : b = a) : Ending.returned (.tuple #[.int k n, .bool a]) = .returned (.tuple #[.int k m, .bool b]) := by rw [h, h']
theorem hexV_neg {n : Int} (h : hexV n < 0) : digP n = false ∧ (lowI n < 97 ∨ 102 < lowI n) := by
  unfold hexV at h
  split at h
  · rename_i hd; rw [digP_iff] at hd; omega
  · rename_i hd
    split at h
    · omega
    · exact ⟨by simpa using hd, by omega⟩
theorem hexV_pos {n : Int} (h : 0 ≤ hexV n) : (digP n = true ∧ hexV n = n - 48) ∨ (digP n = false ∧ 97 ≤ lowI n ∧ lowI n ≤ 102 ∧ hexV n = lowI n - 87) := by
  cases hd : digP n
  · right
    by_cases hl : 97 ≤ lowI n ∧ lowI n ≤ 102
    · exact ⟨rfl, hl.1, hl.2, hexV_let hd hl.1 hl.2⟩
    · rw [hexV_no hd (by omega)] at h; omega
  · left; exact ⟨rfl, hexV_dig hd⟩
set_option maxHeartbeats 1000000 in
theorem hexValue_any (n : Int) (w : World) (h0 : 0 ≤ n) (h1 : n ≤ 255) :
    Calls Tryz.prog 126 #[.int .u8 n] w fun e w' => e = .returned (.int .i64 (hexV n)) ∧ w' = w := by
  cases hd : digP n
  · by_cases hl : 97 ≤ lowI n ∧ lowI n ≤ 102
    · obtain ⟨ha, hb⟩ := hl
      rw [hexV_let hd ha hb]
      go_enter Tryz.func126, Tryz.ntmps126
      go_wp2_with (first | (go_at_call 66; refine (smallByte_any _ _ (by omega) (by omega)).mono ?_; rintro e w' ⟨rfl, rfl⟩) | (go_at_call 89; refine (digitByte_any _ _).mono ?_; rintro e w' ⟨rfl, rfl⟩))
      go_ret
      exact ⟨ret_int (by omega), rfl⟩
    · have hl' : lowI n < 97 ∨ 102 < lowI n := by omega
      rw [hexV_no hd hl']
      have hl2 : lowI n < 97 ∨ (102 < lowI n ∧ decide (lowI n ≤ 102) = false) := by
        rcases hl' with h | h
        · exact Or.inl h
        · exact Or.inr ⟨h, by simp; omega⟩
      clear hl hl'
      rcases hl2 with hl | ⟨hl, hl3⟩
      all_goals
        go_enter Tryz.func126, Tryz.ntmps126
        go_wp2_with (first | (go_at_call 66; refine (smallByte_any _ _ (by omega) (by omega)).mono ?_; rintro e w' ⟨rfl, rfl⟩) | (go_at_call 89; refine (digitByte_any _ _).mono ?_; rintro e w' ⟨rfl, rfl⟩))
        go_ret
        exact ⟨rfl, rfl⟩
  · have hb := digP_iff.1 hd
    rw [hexV_dig hd]
    go_enter Tryz.func126, Tryz.ntmps126
    go_wp2_with (first | (go_at_call 66; refine (smallByte_any _ _ (by omega) (by omega)).mono ?_; rintro e w' ⟨rfl, rfl⟩) | (go_at_call 89; refine (digitByte_any _ _).mono ?_; rintro e w' ⟨rfl, rfl⟩))
    go_ret
    exact ⟨rfl, rfl⟩
set_option maxHeartbeats 1000000 in
theorem ReadHex_any (s : ByteArray) (w : World) (hs : s.size ≤ maxLen) :
    Calls Tryz.prog 115 #[.string s] w fun e w' => e = .returned (.tuple #[.int .i64 (rhexN s), .bool (rhexOk s)]) ∧ w' = w := by
  unfold maxLen at hs
  by_cases h0 : s.size = 0
  · have hr := rhex_size (Or.inl h0)
    have hne : s.toList.isEmpty = true := by rw [ByteArray.toList_eq, List.isEmpty_iff, ← List.length_eq_zero_iff, Array.length_toList]; exact h0
    rw [hr.1, hr.2]
    clear hr
    go_enter Tryz.func115, Tryz.ntmps115
    go_wp2
    go_ret2
    exact ⟨rfl, rfl⟩
  · have hne2 : s.toList.isEmpty = false := by
      rw [ByteArray.toList_eq, List.isEmpty_eq_false_iff]
      intro hh
      apply h0
      rw [← len_data, hh]; rfl
    by_cases hbig : (7 : Int) < (s.size : Int)
    · have hr := rhex_size (s := s) (Or.inr (by omega))
      rw [hr.1, hr.2]
      clear hr
      go_enter Tryz.func115, Tryz.ntmps115
      go_wp2
      go_ret2
      exact ⟨rfl, rfl⟩
    · go_enter Tryz.func115, Tryz.ntmps115
      go_wp2
      clear hne2
      go_loop [4, 16] (fun n i => ∃ k : Nat, k ≤ s.size ∧ i = .int .i64 k ∧ n = .int .i64 (hval (s.data.toList.take k)) ∧ allHex (s.data.toList.take k) = true) (fun _ i => s.size - (intOf i).toNat)
      case atStart => exact ⟨0, Nat.zero_le _, rfl, rfl, rfl⟩
      case round =>
        obtain ⟨k, hk, rfl, rfl, hall⟩ := hrel
        have Hall : Hid (allHex (s.data.toList.take k) = true) := hall
        obtain ⟨hv0, hv1⟩ := hval_small s k (by omega) hall
        clear hall
        by_cases hlt : k < s.size
        · have hlo := u8_lo s[k]
          have hhi := u8_hi s[k]
          have hn0 : hexV (s[k].toNat : Int) = hex8 (at8 s k) := by rw [at8_eq s k hlt]; rfl
          by_cases hg0 : hex8 (at8 s k) < 0
          · have hfin : Hid (rhexN s = 0 ∧ rhexOk s = false) := rhex_no hlt hg0
            have hneg : hexV (s[k].toNat : Int) < 0 := by rw [hn0]; exact hg0
            clear hg0 hn0
            generalize hval (s.data.toList.take k) = v at *
            go_wp2_with (go_at_call 126; refine (hexValue_any _ _ (by omega) (by omega)).mono ?_; rintro e w' ⟨rfl, rfl⟩)
            go_ret2
            exact ⟨ret_ib6 hfin.out.1 hfin.out.2, rfl⟩
          · have hvq : Hid (hval (s.data.toList.take (k + 1)) = hval (s.data.toList.take k) * 16 + hexV (s[k].toNat : Int)) := by
              show _ = _
              rw [allDig_take_succ s k hlt, hval_snoc, hn0]
            have Hall2 : Hid (allHex (s.data.toList.take (k + 1)) = true) := by
              show _ = _
              rw [allDig_take_succ s k hlt]; exact allHex_snoc _ _ Hall.out (by omega)
            have hpos : 0 ≤ hexV (s[k].toNat : Int) := by rw [hn0]; omega
            have hp15 := (hexV_bd (s[k].toNat : Int)).2
            clear hg0 hn0
            generalize hval (s.data.toList.take k) = v at *
            go_wp2_with (go_at_call 126; refine (hexValue_any _ _ (by omega) (by omega)).mono ?_; rintro e w' ⟨rfl, rfl⟩)
            go_round
            case rel => exact ⟨k + 1, by omega, by go_num, congrArg (Value.int .i64) (by rw [hvq.out]), Hall2.out⟩
            case measure => simp [intOf]; omega
        · obtain rfl : k = s.size := by omega
          have ht : s.data.toList.take s.size = s.data.toList := List.take_of_length_le (by rw [len_data]; exact Nat.le_refl _)
          rw [ht] at Hall hv0 hv1 ⊢
          have hfin : Hid (rhexN s = hval s.data.toList ∧ rhexOk s = true) := rhex_yes (by omega) (by omega) Hall.out
          clear ht
          generalize hval s.data.toList = v at *
          go_wp2
          go_ret2
          exact ⟨ret_ib6 hfin.out.1 hfin.out.2, rfl⟩
set_option maxHeartbeats 1000000 in
theorem sReadHex_any (s : ByteArray) (w : World) (hs : s.size ≤ maxLen) :
    Calls Tryz.prog 81 #[.string s] w fun e w' => e = .returned (.tuple #[.int .i64 (rhexN s), .bool (rhexOk s)]) ∧ w' = w := by
  unfold maxLen at hs
  by_cases h0 : s.size = 0
  · have hr := rhex_size (Or.inl h0)
    have hne : ((s.size : Int) == 0) = true := by rw [beq_iff_eq]; omega
    rw [hr.1, hr.2]
    clear hr
    go_enter Tryz.func81, Tryz.ntmps81
    go_wp2
    go_ret2
    exact ⟨rfl, rfl⟩
  · have hne2 : ((s.size : Int) == 0) = false := by rw [Bool.eq_false_iff, ne_eq, beq_iff_eq]; omega
    by_cases hbig : (7 : Int) < (s.size : Int)
    · have hr := rhex_size (s := s) (Or.inr (by omega))
      rw [hr.1, hr.2]
      clear hr
      go_enter Tryz.func81, Tryz.ntmps81
      go_wp2
      go_ret2
      exact ⟨rfl, rfl⟩
    · go_enter Tryz.func81, Tryz.ntmps81
      go_wp2
      clear hne2
      go_loop [4, 5] (fun n i => ∃ k : Nat, k ≤ s.size ∧ i = .int .i64 k ∧ n = .int .i64 (hval (s.data.toList.take k)) ∧ allHex (s.data.toList.take k) = true) (fun _ i => s.size - (intOf i).toNat)
      case atStart => exact ⟨0, Nat.zero_le _, rfl, rfl, rfl⟩
      case round =>
        obtain ⟨k, hk, rfl, rfl, hall⟩ := hrel
        have Hall : Hid (allHex (s.data.toList.take k) = true) := hall
        obtain ⟨hv0, hv1⟩ := hval_small s k (by omega) hall
        clear hall
        by_cases hlt : k < s.size
        · have hlo := u8_lo s[k]
          have hhi := u8_hi s[k]
          have hn0 : hexV (s[k].toNat : Int) = hex8 (at8 s k) := by rw [at8_eq s k hlt]; rfl
          by_cases hg0 : hex8 (at8 s k) < 0
          · have hfin : Hid (rhexN s = 0 ∧ rhexOk s = false) := rhex_no hlt hg0
            have hneg : hexV (s[k].toNat : Int) < 0 := by rw [hn0]; exact hg0
            clear hg0 hn0
            generalize hval (s.data.toList.take k) = v at *
            have hno : digP (s[k].toNat : Int) = false ∧ (lowI (s[k].toNat : Int) < 97 ∨ 102 < lowI (s[k].toNat : Int)) := hexV_neg hneg
            obtain ⟨hd, hl⟩ := hno
            rw [← digP_low _ hlo] at hd
            clear hneg
            have hl2 : lowI (s[k].toNat : Int) < 97 ∨ (102 < lowI (s[k].toNat : Int) ∧ decide (lowI (s[k].toNat : Int) ≤ 102) = false) := by
              rcases hl with h | h
              · exact Or.inl h
              · exact Or.inr ⟨h, by simp; omega⟩
            rcases hl2 with hl | ⟨hl, hl3⟩
            all_goals
              go_wp2_with (first | (go_at_call 60; refine (l1lower_any _ _ (by omega) (by omega)).mono ?_; rintro e w' ⟨rfl, rfl⟩) | (go_at_call 61; refine (l1digit_any _ _).mono ?_; rintro e w' ⟨rfl, rfl⟩))
              go_ret2
              exact ⟨ret_ib6 hfin.out.1 hfin.out.2, rfl⟩
          · have hvq : Hid (hval (s.data.toList.take (k + 1)) = hval (s.data.toList.take k) * 16 + hexV (s[k].toNat : Int)) := by
              show _ = _
              rw [allDig_take_succ s k hlt, hval_snoc, hn0]
            have Hall2 : Hid (allHex (s.data.toList.take (k + 1)) = true) := by
              show _ = _
              rw [allDig_take_succ s k hlt]; exact allHex_snoc _ _ Hall.out (by omega)
            have hpos : 0 ≤ hexV (s[k].toNat : Int) := by rw [hn0]; omega
            have hp15 := (hexV_bd (s[k].toNat : Int)).2
            clear hg0 hn0
            generalize hval (s.data.toList.take k) = v at *
            have hyes := hexV_pos hpos
            rcases hyes with ⟨hd, he⟩ | ⟨hd, h97, h102, he⟩
            · have hd' : digP (lowI (s[k].toNat : Int)) = true := by rw [digP_low _ hlo]; exact hd
              have hlow := lowI_dig hd
              have hb := digP_iff.1 hd
              have he' : Hid (hexV (s[k].toNat : Int) = (s[k].toNat : Int) - 48) := he
              have hlo2 : lowI (s[k].toNat : Int) ≤ 57 := by rw [hlow]; exact hb.2
              have hlo3 : 48 ≤ lowI (s[k].toNat : Int) := by rw [hlow]; exact hb.1
              have Hlow : Hid (lowI (s[k].toNat : Int) = (s[k].toNat : Int)) := hlow
              clear he hd hb hlow
              go_wp2_with (first | (go_at_call 60; refine (l1lower_any _ _ (by omega) (by omega)).mono ?_; rintro e w' ⟨rfl, rfl⟩) | (go_at_call 61; refine (l1digit_any _ _).mono ?_; rintro e w' ⟨rfl, rfl⟩))
              go_round
              case rel => exact ⟨k + 1, by omega, by go_num, congrArg (Value.int .i64) (by rw [hvq.out, he'.out, Hlow.out]), Hall2.out⟩
              case measure => simp [intOf]; omega
            · have hd' : digP (lowI (s[k].toNat : Int)) = false := by rw [digP_low _ hlo]; exact hd
              have he' : Hid (hexV (s[k].toNat : Int) = lowI (s[k].toNat : Int) - 87) := he
              clear he hd
              go_wp2_with (first | (go_at_call 60; refine (l1lower_any _ _ (by omega) (by omega)).mono ?_; rintro e w' ⟨rfl, rfl⟩) | (go_at_call 61; refine (l1digit_any _ _).mono ?_; rintro e w' ⟨rfl, rfl⟩))
              go_round
              case rel => exact ⟨k + 1, by omega, by go_num, congrArg (Value.int .i64) (by rw [hvq.out, he'.out]; omega), Hall2.out⟩
              case measure => simp [intOf]; omega
        · obtain rfl : k = s.size := by omega
          have ht : s.data.toList.take s.size = s.data.toList := List.take_of_length_le (by rw [len_data]; exact Nat.le_refl _)
          rw [ht] at Hall hv0 hv1 ⊢
          have hfin : Hid (rhexN s = hval s.data.toList ∧ rhexOk s = true) := rhex_yes (by omega) (by omega) Hall.out
          clear ht
          generalize hval s.data.toList = v at *
          go_wp2
          go_ret2
          exact ⟨ret_ib6 hfin.out.1 hfin.out.2, rfl⟩
end Go.Proofs.YtefhpjipcdmbaabGreatDoor
