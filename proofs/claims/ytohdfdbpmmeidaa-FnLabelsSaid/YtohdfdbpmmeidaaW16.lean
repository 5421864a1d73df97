/-
  The walks over chapter 1: impl.ReadBase32.
-/
import Derived.Test.YtohdfdbpmmeidaaW15
import Derived.Test.YtohdfdbpmmeidaaM11
import Derived.Test.YtohdfdbpmmeidaaW7
namespace Go.Proofs.Ytohdfdbpmmeidaa
set_option linter.unusedVariables false
set_option linter.unusedSimpArgs false
open Go.RowKit
theorem val5_up {n : Int} (h1 : 65 ≤ n) (h2 : n ≤ 90) : val5 n = n - 65 := by unfold val5; rw [if_pos ⟨h1, h2⟩]
theorem val5_dig {n : Int} (h1 : 50 ≤ n) (h2 : n ≤ 55) : val5 n = n - 24 := by unfold val5; rw [if_neg (by omega), if_pos ⟨h1, h2⟩]
theorem val5_no {n : Int} (h1 : ¬ (65 ≤ n ∧ n ≤ 90)) (h2 : ¬ (50 ≤ n ∧ n ≤ 55)) : val5 n = -1 := by unfold val5; rw [if_neg h1, if_neg h2]
set_option maxHeartbeats 1000000 in
theorem fiveValue_any (n : Int) (w : World) (h0 : 0 ≤ n) (h255 : n ≤ 255) :
    Calls Try.prog 54 #[.int .u8 n] w fun e w' => e = .returned (.int .i64 (val5 n)) ∧ w' = w := by
  by_cases a1 : 65 ≤ n
  · by_cases a2 : n ≤ 90
    · rw [val5_up a1 a2]
      go_enter Try.func54, Try.ntmps54
      go_wp2
      go_ret
      exact ⟨rfl, rfl⟩
    · rw [val5_no (by omega) (by omega)]
      have b1 : 50 ≤ n := by omega
      have b2 : ¬ n ≤ 55 := by omega
      go_enter Try.func54, Try.ntmps54
      go_wp2
      go_ret
      exact ⟨rfl, rfl⟩
  · by_cases b1 : 50 ≤ n
    · by_cases b2 : n ≤ 55
      · rw [val5_dig b1 b2]
        have e1 : n - 50 + 26 = n - 24 := by omega
        go_enter Try.func54, Try.ntmps54
        go_wp2
        go_ret
        exact ⟨ret_int (by omega), rfl⟩
      · rw [val5_no (by omega) (by omega)]
        go_enter Try.func54, Try.ntmps54
        go_wp2
        go_ret
        exact ⟨rfl, rfl⟩
    · rw [val5_no (by omega) (by omega)]
      go_enter Try.func54, Try.ntmps54
      go_wp2
      go_ret
      exact ⟨rfl, rfl⟩
set_option maxHeartbeats 2000000 in
theorem ReadBase32_any (s : ByteArray) (w : World) (hs : s.size ≤ maxLen) :
    Calls Try.prog 47 #[.string s] w fun e w' => e = .returned (.tuple #[.string (rbB s), .bool (rbOk s)]) ∧ Below w.heap.size w w' := by
  have hs' := hs
  unfold maxLen at hs'
  by_cases hbig : (6400 : Int) < (s.size : Int)
  · have hr := rb_big (s := s) (by omega)
    rw [rb_no hr, hr]
    go_enter Try.func47, Try.ntmps47
    go_wp2
    go_ret2
    exact ⟨rfl, Below.refl _ _⟩
  · go_enter Try.func47, Try.ntmps47
    go_wp2
    go_loopw [4, 5, 6, 14] (fun v b hv i wr => ∃ (k m h : Nat), k ≤ s.size ∧ i = .int .i64 (k : Int) ∧ 8 * m + h = 5 * k ∧ h ≤ 7 ∧ b = .int .i64 (accL s (8 * m) h : Nat) ∧ hv = .int .i64 (h : Int) ∧ (∀ j, j < k → isL (at8 s j) = true) ∧ Buf w wr v (out5 s m)) (fun _ _ _ i _ => s.size - (intOf i).toNat)
    case atStart => exact ⟨0, 0, 0, Nat.zero_le _, rfl, rfl, by omega, rfl, rfl, fun j hj => by omega, Buf.start w⟩
    case round =>
      obtain ⟨k, m, h, hk, rfl, hmh, hh, rfl, rfl, hall, hbuf⟩ := hrel
      have HA : Hid (∀ j, j < k → isL (at8 s j) = true) := hall
      have HM : Hid (8 * m + h = 5 * k) := hmh
      clear hall
      by_cases hlt : k < s.size
      · have hlo := u8_lo s[k]
        have hhi := u8_hi s[k]
        have hat := at8_eq s k hlt
        cases hL : isL (at8 s k)
        · have hr := rb_letter hlt hL
          have hv : val5 (s[k].toNat : Int) = -1 := by
            rw [hat]
            unfold isL at hL
            rw [decide_eq_false_iff_not] at hL
            unfold val5 at *
            split at hL
            · omega
            · split at hL
              · omega
              · rename_i h1 h2; rw [if_neg h1, if_neg h2]
          have HR : Hid (rbB s = ⟨#[]⟩ ∧ rbOk s = false) := ⟨rb_no hr, hr⟩
          clear hat hL hr hmh
          go_wp2_with (go_at_call 54; refine (fiveValue_any _ _ hlo hhi).mono ?_; rintro e w' ⟨rfl, rfl⟩)
          go_ret2
          exact ⟨ret_sb HR.out.1 HR.out.2, hbuf.below⟩
        · have hv : val5 (s[k].toNat : Int) = (lv5 (at8 s k) : Int) := by rw [hat]; exact v5_val hL
          have hv32 := v5_lt (at8 s k)
          have hal := accL_lt s (8 * m) h
          have hp : 2 ^ h ≤ 128 := Nat.pow_le_pow_right (by decide) hh (n := 2)
          have hor : bits .or .i64 ((accL s (8 * m) h : Int) * 32) (lv5 (at8 s k) : Int) = ((accL s (8 * m) (h + 5) : Nat) : Int) := by
            rw [or_i64 5 _ _ (by omega) (by omega) (by omega) (by omega) (by omega) (by omega), accL_letter s (8 * m) h k hmh]
            simp
          have HA2 : Hid (∀ j, j < k + 1 → isL (at8 s j) = true) := by
            intro j hj
            rcases Nat.lt_or_ge j k with h' | h'
            · exact HA.out j h'
            · rw [show j = k from by omega]; exact hL
          clear hL hat hmh
          generalize lv5 (at8 s k) = V at *
          by_cases h8 : 3 ≤ h
          · obtain ⟨r, rfl⟩ : ∃ r, h = r + 3 := ⟨h - 3, by omega⟩
            have ea : r + 3 + 5 = 8 + r := by omega
            rw [ea] at hor
            have hal2 := accL_lt s (8 * m) (8 + r)
            have hp2 : 2 ^ (8 + r) ≤ 2 ^ 12 := Nat.pow_le_pow_right (by decide) (by omega)
            have hdiv : (accL s (8 * m) (8 + r) : Int) / 2 ^ r = ((accL s (8 * m) 8 : Nat) : Int) := by rw [div_cast, accL_hi]
            have hB := accL_lt s (8 * m) 8
            have HMk : Hid (bits .and .i64 (accL s (8 * m) (8 + r) : Int) (wrap64 (wrap64 (2 ^ r) - 1)) = ((accL s (8 * (m + 1)) r : Nat) : Int)) := by
              show _ = _
              rw [wrap_pow r (by omega), mask_eq _ _ (by omega) (by omega), accL_lo, Nat.mul_add]
            have hR : Hid (out5 s (m + 1) = out5 s m ++ [UInt8.ofNat (accL s (8 * m) 8)]) := out5_succ s m
            have hlen : (out5 s m).length ≤ 8000 := by rw [out5_len]; have := HM.out; omega
            have hB2 : accL s (8 * m) 8 < 256 := by simpa using hB
            have HY : Hid ((accL s (8 * m) 8 : Int) = ((UInt8.ofNat (accL s (8 * m) 8)).toNat : Int)) := by
              show _ = _
              rw [UInt8.toNat_ofNat']; omega
            clear hB
            generalize accL s (8 * m) 8 = B at *
            generalize accL s (8 * m) (8 + r) = A at *
            have hA : A < 4096 := by omega
            clear hal2 hp2
            go_wp2_with (first | (go_at_call 54; refine (fiveValue_any _ _ hlo hhi).mono ?_; rintro e w' ⟨rfl, rfl⟩) | (at_builtin; refine wp_app rfl _ _ rfl _ _ rfl hbuf _ (UInt8.ofNat B) HY.out rfl (by omega) ?_; intro v2 W2 hbuf2))
            go_roundw
            case rel => exact ⟨k + 1, m + 1, r, by omega, by go_num, by have := HM.out; omega, by omega, congrArg (Value.int .i64) HMk.out, by go_num, HA2.out, by rw [hR.out]; exact hbuf2⟩
            case measure => simp [intOf] <;> omega
          · have h8' : ¬ (8 : Int) ≤ (h : Int) + 5 := by omega
            go_wp2_with (go_at_call 54; refine (fiveValue_any _ _ hlo hhi).mono ?_; rintro e w' ⟨rfl, rfl⟩)
            go_roundw
            case rel => exact ⟨k + 1, m, h + 5, by omega, by go_num, by have := HM.out; omega, by omega, rfl, by go_num, HA2.out, hbuf⟩
            case measure => simp [intOf] <;> omega
      · obtain rfl : k = s.size := by omega
        have em : 5 * s.size / 8 = m := by omega
        have eh : 5 * s.size % 8 = h := by omega
        by_cases h5 : 5 ≤ h
        · have hr := rb_held (s := s) (by omega)
          have HR : Hid (rbB s = ⟨#[]⟩ ∧ rbOk s = false) := ⟨rb_no hr, hr⟩
          have h5' : (5 : Int) ≤ (h : Int) := by omega
          clear hmh hr em eh
          go_wp2
          go_ret2
          exact ⟨ret_sb HR.out.1 HR.out.2, hbuf.below⟩
        · have h5' : ¬ (5 : Int) ≤ (h : Int) := by omega
          by_cases hz : accL s (8 * m) h = 0
          · have hr := rb_yes (s := s) (by omega) HA.out (by omega) (by rw [em, eh]; exact hz)
            have hb : rbB s = ⟨(out5 s m).toArray⟩ := by unfold rbB; rw [if_pos hr, em]
            have HR : Hid (rbB s = ⟨(out5 s m).toArray⟩ ∧ rbOk s = true) := ⟨hb, hr⟩
            rw [hz]
            have kb := hbuf.text
            clear hmh hr em eh hz hb
            go_wp2
            go_ret2
            exact ⟨ret_sb HR.out.1 HR.out.2, hbuf.below⟩
          · have hr := rb_bits (s := s) (by rw [em, eh]; exact hz)
            have HR : Hid (rbB s = ⟨#[]⟩ ∧ rbOk s = false) := ⟨rb_no hr, hr⟩
            have hz' : ((accL s (8 * m) h : Int) != 0) = true := by simp; omega
            clear hmh hr em eh hz
            go_wp2
            go_ret2
            exact ⟨ret_sb HR.out.1 HR.out.2, hbuf.below⟩
end Go.Proofs.Ytohdfdbpmmeidaa
