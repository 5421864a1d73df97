/-
  The walks over chapter 1: impl.Base32.
-/
import Derived.Test.YtohdfdbpmmeidaaDoorW14
namespace Go.Proofs.YtohdfdbpmmeidaaDoor
set_option linter.unusedVariables false
set_option linter.unusedSimpArgs false
open Go.RowKit

theorem mask_eq (A r : Nat) (hA : A < 2 ^ 30) (hr : r ≤ 30) : bits .and .i64 (A : Int) (2 ^ r - 1) = ((A % 2 ^ r : Nat) : Int) := by
  have h : (2 : Int) ^ 40 = 1099511627776 := by decide
  have h2 : (2 : Nat) ^ 30 = 1073741824 := by decide
  have := and_i64 r (by omega) (A : Int) (by omega) (by rw [h]; rw [h2] at hA; omega)
  rw [this]; simp
theorem wrap_pow (r : Nat) (hr : r ≤ 30) : wrap64 (wrap64 (2 ^ r) - 1) = 2 ^ r - 1 := by
  have h1 : (2 : Nat) ^ r ≤ 2 ^ 30 := Nat.pow_le_pow_right (by decide) hr
  have h2 : (2 : Nat) ^ 30 = 1073741824 := by decide
  have h3 : 0 < (2 : Nat) ^ r := Nat.two_pow_pos r
  have h4 : (2 : Int) ^ r = ((2 ^ r : Nat) : Int) := by simp
  rw [h4]
  generalize 2 ^ r = x at *
  unfold wrap64
  omega
theorem div_cast (A r : Nat) : (A : Int) / 2 ^ r = ((A / 2 ^ r : Nat) : Int) := by simp
set_option maxHeartbeats 2000000 in
theorem Base32_any (s : ByteArray) (w : World) (hs : s.size ≤ maxLen) :
    Calls Tryd.prog 18 #[.string s] w fun e w' => e = .returned (.string (b32B s)) ∧ Below w.heap.size w w' := by
  have hs' := hs
  unfold maxLen at hs'
  by_cases hbig : (4000 : Int) < (s.size : Int)
  · rw [b32_big (by omega)]
    go_enter Tryd.func18, Tryd.ntmps18
    go_wp2
    go_ret
    exact ⟨rfl, Below.refl _ _⟩
  · have hfin : Hid (b32B s = ⟨(b32L s (nFives s.size)).toArray⟩) := b32_small (by omega)
    go_enter Tryd.func18, Tryd.ntmps18
    go_wp2
    go_loopw [3, 4, 5, 12] (fun v b h i wr => ∃ (k t m : Nat), k ≤ s.size ∧ i = .int .i64 k ∧ 5 * t + m = 8 * k ∧ m ≤ 4 ∧ b = .int .i64 (acc s (5 * t) m : Nat) ∧ h = .int .i64 (m : Int) ∧ Buf w wr v (b32L s t)) (fun _ _ _ i _ => s.size - (intOf i).toNat)
    case atStart => exact ⟨0, 0, 0, Nat.zero_le _, rfl, rfl, by omega, rfl, rfl, Buf.start w⟩
    case round =>
      obtain ⟨k, t, m, hk, rfl, htm, hm, rfl, rfl, hbuf⟩ := hrel
      by_cases hlt : k < s.size
      · have hlo := u8_lo s[k]
        have hhi := u8_hi s[k]
        have hal := acc_lt s (5 * t) m
        have hp : 2 ^ m ≤ 16 := Nat.pow_le_pow_right (by decide) hm (n := 2)
        have hor : bits .or .i64 ((acc s (5 * t) m : Int) * 256) (s[k].toNat : Int) = ((acc s (5 * t) (m + 8) : Nat) : Int) := by
          rw [or_i64 8 _ _ (by omega) (by omega) (by omega) (by omega) (by omega) (by omega), acc_byte s (5 * t) m k htm, at8_eq s k hlt]
          simp
        have HTM : Hid (5 * t + m = 8 * k) := htm
        clear htm
        go_wp2_with fail
        clear hor hal hp
        obtain ⟨wo, rfl⟩ : ∃ wo : World, wo = wr := ⟨_, rfl⟩
        go_loopw [3, 4, 5] (fun v b h wr => ∃ (t m : Nat), 5 * t + m = 8 * (k + 1) ∧ m ≤ 12 ∧ b = .int .i64 (acc s (5 * t) m : Nat) ∧ h = .int .i64 (m : Int) ∧ Buf w wr v (b32L s t)) (fun _ _ h _ => (intOf h).toNat)
        case atStart => exact ⟨t, m + 8, by have := HTM.out; omega, by omega, rfl, by go_num, hbuf⟩
        case round =>
          clear hbuf HTM hm
          obtain ⟨t, m, htm, hm, rfl, rfl, hbuf⟩ := hrel
          have hlen : (b32L s t).length ≤ 8000 := by rw [b32L_len]; omega
          have HTM : Hid (5 * t + m = 8 * (k + 1)) := htm
          clear htm
          by_cases h5 : 5 ≤ m
          · obtain ⟨r, rfl⟩ : ∃ r, m = 5 + r := ⟨m - 5, by omega⟩
            have hal := acc_lt s (5 * t) (5 + r)
            have hp : 2 ^ (5 + r) ≤ 2 ^ 12 := Nat.pow_le_pow_right (by decide) (by omega)
            have hdiv : (acc s (5 * t) (5 + r) : Int) / 2 ^ r = ((five s t : Nat) : Int) := by rw [div_cast, acc_hi]; rfl
            have hmask : bits .and .i64 (acc s (5 * t) (5 + r) : Int) (2 ^ r - 1) = ((acc s (5 * (t + 1)) r : Nat) : Int) := by
              rw [mask_eq _ _ (by omega) (by omega), acc_lo, Nat.mul_add]
            have hf5 := five_lt s t
            have hl : five s t < (⟨#[65, 66, 67, 68, 69, 70, 71, 72, 73, 74, 75, 76, 77, 78, 79, 80, 81, 82, 83, 84, 85, 86, 87, 88, 89, 90, 50, 51, 52, 53, 54, 55]⟩ : ByteArray).size := hf5
            have HY : Hid (((⟨#[65, 66, 67, 68, 69, 70, 71, 72, 73, 74, 75, 76, 77, 78, 79, 80, 81, 82, 83, 84, 85, 86, 87, 88, 89, 90, 50, 51, 52, 53, 54, 55]⟩ : ByteArray)[five s t].toNat : Int) = ((let5 (five s t)).toNat : Int)) := by show _ = _; rw [alpha_at _ hl]
            have hR : Hid (b32L s (t + 1) = b32L s t ++ [let5 (five s t)]) := b32L_succ s t
            have HM : Hid (bits .and .i64 (acc s (5 * t) (5 + r) : Int) (wrap64 (wrap64 (2 ^ r) - 1)) = ((acc s (5 * (t + 1)) r : Nat) : Int)) := by show _ = _; rw [wrap_pow r (by omega)]; exact hmask
            clear hmask
            generalize five s t = f at *
            generalize acc s (5 * t) (5 + r) = A at *
            have hA : A < 4096 := by omega
            clear hal hp
            go_wp2_with (at_builtin; refine wp_app rfl (.tmp 28) (.tmp 33) rfl _ _ rfl hbuf _ (let5 f) HY.out rfl (by omega) ?_; intro v2 W2 hbuf2)
            go_roundw
            case rel => exact ⟨t + 1, r, by have := HTM.out; omega, by omega, congrArg (Value.int .i64) HM.out, by go_num, by rw [hR.out]; exact hbuf2⟩
            case measure => simp [intOf] <;> omega
          · have h5' : ¬ 5 ≤ (m : Int) := by omega
            go_wp2
            go_roundw
            case rel => exact ⟨k + 1, t, m, by omega, by go_num, HTM.out, by omega, rfl, rfl, hbuf⟩
            case measure => simp [intOf]; omega
      · obtain rfl : k = s.size := by omega
        by_cases h0 : m = 0
        · subst h0
          have hN : Hid (nFives s.size = t) := by show _ = _; unfold nFives; omega
          have kb := hbuf.text
          go_wp2
          go_ret
          exact ⟨ret_str (by rw [hfin.out, hN.out]), hbuf.below⟩
        · have hpos : 0 < m := by omega
          have hN : Hid (nFives s.size = t + 1) := by show _ = _; unfold nFives; omega
          have hlen : (b32L s t).length ≤ 8000 := by rw [b32L_len]; omega
          have hf5 := five_lt s t
          have hl : five s t < (⟨#[65, 66, 67, 68, 69, 70, 71, 72, 73, 74, 75, 76, 77, 78, 79, 80, 81, 82, 83, 84, 85, 86, 87, 88, 89, 90, 50, 51, 52, 53, 54, 55]⟩ : ByteArray).size := hf5
          have HY : Hid (((⟨#[65, 66, 67, 68, 69, 70, 71, 72, 73, 74, 75, 76, 77, 78, 79, 80, 81, 82, 83, 84, 85, 86, 87, 88, 89, 90, 50, 51, 52, 53, 54, 55]⟩ : ByteArray)[five s t].toNat : Int) = ((let5 (five s t)).toNat : Int)) := by show _ = _; rw [alpha_at _ hl]
          have hR : Hid (b32L s (t + 1) = b32L s t ++ [let5 (five s t)]) := b32L_succ s t
          have hshl : (acc s (5 * t) m : Int) * 2 ^ (5 - m) = ((five s t : Nat) : Int) := by
            have h1 := acc_add s (5 * t) m (5 - m)
            rw [show m + (5 - m) = 5 from by omega, acc_end s (5 * t + m) (5 - m) (by omega)] at h1
            unfold five
            rw [h1]
            simp
          generalize five s t = f at *
          have HTM : Hid (5 * t + m = 8 * s.size) := htm
          clear htm h0
          have hal := acc_lt s (5 * t) m
          have hp : 2 ^ m ≤ 16 := Nat.pow_le_pow_right (by decide) hm (n := 2)
          go_wp2_with (at_builtin; refine wp_app rfl (.tmp 43) (.tmp 49) rfl _ _ rfl hbuf _ (let5 f) HY.out rfl (by omega) ?_; intro v2 W2 hbuf2; have kb := hbuf2.text)
          go_ret
          exact ⟨ret_str (by rw [hfin.out, hN.out, hR.out]), hbuf2.below⟩
end Go.Proofs.YtohdfdbpmmeidaaDoor
