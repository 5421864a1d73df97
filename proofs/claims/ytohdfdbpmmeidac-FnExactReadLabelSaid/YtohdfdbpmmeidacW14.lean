/-
  The walks over chapter 1: bits.
-/
import Derived.Test.YtohdfdbpmmeidacA8
import Derived.Test.YtohdfdbpmmeidacM10
namespace Go.Proofs.Ytohdfdbpmmeidac
set_option linter.unusedVariables false
set_option linter.unusedSimpArgs false
open Go.RowKit

theorem bit_eq (b e : Nat) (hb : b < 256) : bits .and .i64 ((b : Int) / 2 ^ e) 1 = ((b / 2 ^ e % 2 : Nat) : Int) := by
  have h1 : (b : Int) / 2 ^ e = ((b / 2 ^ e : Nat) : Int) := by simp
  rw [h1]
  have h2 : b / 2 ^ e ≤ b := Nat.div_le_self _ _
  generalize b / 2 ^ e = x at *
  have := and_i64 1 (by decide) (x : Int) (by omega) (by omega)
  simpa using this
set_option maxHeartbeats 1000000 in
theorem l1bit_any (s : ByteArray) (n : Int) (k : Nat) (w : World) (hn : n = (k : Int)) (hs : s.size ≤ maxLen) (h1 : k ≤ 1000000) :
    Calls Try.prog 45 #[.string s, .int .i64 n] w fun e w' => e = .returned (.int .i64 (bit8 s k : Nat)) ∧ w' = w := by
  unfold maxLen at hs
  obtain ⟨q, r, hk, hr⟩ : ∃ q r : Nat, k = 8 * q + r ∧ r < 8 := ⟨k / 8, k % 8, by omega, by omega⟩
  have h0 : 0 ≤ n := by omega
  have h2 : n ≤ 1000000 := by omega
  have e1 : n / 8 = (q : Int) := by omega
  have e2 : n % 8 = (r : Int) := by omega
  have HK : Hid (k = 8 * q + r) := hk
  clear hk hn
  by_cases hq : q < s.size
  · have hlo := u8_lo s[q]
    have hhi := u8_hi s[q]
    have hfin : Hid ((bit8 s k : Int) = bits .and .i64 ((s[q].toNat : Int) / 2 ^ (7 - r)) 1) := by
      show _ = _
      rw [bit_eq _ _ (s[q].toNat_lt), at8_eq s q hq, HK.out, bit8_at s q r hr]
    go_enter Try.func45, Try.ntmps45
    go_wp2
    go_ret
    exact ⟨ret_int hfin.out, rfl⟩
  · have hfin : Hid ((bit8 s k : Nat) = 0) := bit8_end s k (by rw [HK.out]; omega)
    go_enter Try.func45, Try.ntmps45
    go_wp2
    go_ret
    exact ⟨ret_int (by rw [hfin.out]; rfl), rfl⟩
set_option maxHeartbeats 2000000 in
theorem sBase32_any (s : ByteArray) (w : World) (hs : s.size ≤ maxLen) :
    Calls Try.prog 32 #[.string s] w fun e w' => e = .returned (.string (b32B s)) ∧ Below w.heap.size w w' := by
  have hs' := hs
  unfold maxLen at hs'
  by_cases hbig : (4000 : Int) < (s.size : Int)
  · rw [b32_big (by omega)]
    go_enter Try.func32, Try.ntmps32
    go_wp2
    go_ret
    exact ⟨rfl, Below.refl _ _⟩
  · have hfin : Hid (b32B s = ⟨(b32L s (nFives s.size)).toArray⟩) := b32_small (by omega)
    go_enter Try.func32, Try.ntmps32
    go_wp2
    go_loopw [3, 4] (fun v i wr => ∃ t : Nat, t ≤ nFives s.size ∧ i = .int .i64 (5 * (t : Int)) ∧ Buf w wr v (b32L s t)) (fun _ i _ => 8 * s.size + 5 - (intOf i).toNat)
    case atStart => exact ⟨0, Nat.zero_le _, rfl, Buf.start w⟩
    case round =>
      obtain ⟨t, ht, rfl, hbuf⟩ := hrel
      have hlen : (b32L s t).length ≤ 6401 := by rw [b32L_len]; unfold nFives at ht; omega
      by_cases hlt : t < nFives s.size
      · have hlt2 : 5 * (t : Int) < 8 * (s.size : Int) := by unfold nFives at hlt; omega
        have hb5 : 5 * t ≤ 40000 := by omega
        go_wp2_with fail
        go_loop [5, 6] (fun v j => ∃ m : Nat, m ≤ 5 ∧ j = .int .i64 (m : Int) ∧ v = .int .i64 (acc s (5 * t) m : Nat)) (fun _ j => 5 - (intOf j).toNat)
        case atStart => exact ⟨0, by omega, rfl, rfl⟩
        case round =>
          obtain ⟨m, hm, rfl, rfl⟩ := hrel
          have hal := acc_lt s (5 * t) m
          have hp : 2 ^ m ≤ 32 := Nat.pow_le_pow_right (by decide) hm (n := 2)
          have hbl := bit8_lt s (5 * t + m)
          by_cases hlt5 : m < 5
          · have hstep : Hid (acc s (5 * t) (m + 1) = 2 * acc s (5 * t) m + bit8 s (5 * t + m)) := rfl
            have hc := fun (w : World) => l1bit_any s (5 * (t : Int) + (m : Int)) (5 * t + m) w (by omega) hs (by omega)
            generalize acc s (5 * t) m = A at *
            generalize bit8 s (5 * t + m) = bt at *
            have Hc := hc
            have HC : Hid _ := Hc
            clear hc Hc
            go_wp2_with (go_at_call 45; refine (HC.out _).mono ?_; rintro e w' ⟨rfl, rfl⟩)
            go_round
            case rel => exact ⟨m + 1, by omega, by go_num, congrArg (Value.int .i64) (by rw [hstep.out]; omega)⟩
            case measure => simp [intOf]; omega
          · obtain rfl : m = 5 := by omega
            have hf5 := five_lt s t
            have hl : five s t < (⟨#[65, 66, 67, 68, 69, 70, 71, 72, 73, 74, 75, 76, 77, 78, 79, 80, 81, 82, 83, 84, 85, 86, 87, 88, 89, 90, 50, 51, 52, 53, 54, 55]⟩ : ByteArray).size := hf5
            have hy : (((⟨#[65, 66, 67, 68, 69, 70, 71, 72, 73, 74, 75, 76, 77, 78, 79, 80, 81, 82, 83, 84, 85, 86, 87, 88, 89, 90, 50, 51, 52, 53, 54, 55]⟩ : ByteArray)[five s t]).toNat : Int) = ((let5 (five s t)).toNat : Int) := by rw [alpha_at _ hl]
            have hR : Hid (b32L s (t + 1) = b32L s t ++ [let5 (five s t)]) := b32L_succ s t
            have hacc : acc s (5 * t) 5 = five s t := rfl
            rw [hacc] at *
            have HY : Hid _ := hy
            clear hy hacc
            generalize five s t = f at *
            go_wp2_with (at_builtin; refine wp_app rfl (.tmp 29) (.tmp 32) rfl _ _ rfl hbuf _ (let5 f) HY.out rfl (by omega) ?_; intro v2 W2 hbuf2)
            go_roundw
            case rel => exact ⟨t + 1, by omega, by go_num, by rw [hR.out]; exact hbuf2⟩
            case measure => simp [intOf]; omega
      · obtain rfl : t = nFives s.size := by omega
        have hge : 8 * (s.size : Int) ≤ 5 * (nFives s.size : Int) := by unfold nFives; omega
        have kb := hbuf.text
        generalize nFives s.size = N at *
        go_wp2
        go_ret
        exact ⟨ret_str hfin.out, hbuf.below⟩
end Go.Proofs.Ytohdfdbpmmeidac
