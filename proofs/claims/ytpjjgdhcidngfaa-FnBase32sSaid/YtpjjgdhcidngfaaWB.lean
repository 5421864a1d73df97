/-
  The walks over the drawing functions: DrawBase32, DrawReadBase32.
-/
import Derived.Test.YtpjjgdhcidngfaaWD4
import Derived.Test.YtpjjgdhcidngfaaW15
namespace Go.Proofs.Ytpjjgdhcidngfaa
set_option linter.unusedVariables false
set_option linter.unusedSimpArgs false
open Go.RowKit
set_option maxHeartbeats 1000000 in
theorem l1Size_any (a : Option Addr) (len cap : Nat) (w : World) (hl : len ≤ maxLen) :
    Calls Try.prog 34 #[.slice a len cap, .int .i64 40] w fun e w' => (∃ n : Nat, 0 < n ∧ n ≤ 40 ∧ e = .returned (.int .i64 (n : Int))) ∧ w' = w := by
  unfold maxLen at hl
  obtain ⟨q, hq, hq2⟩ : ∃ q : Nat, (len : Int) / 20 = (q : Int) ∧ q ≤ len := ⟨len / 20, by omega, by omega⟩
  by_cases h : (40 : Int) < 2 + (q : Int)
  · go_enter Try.func34, Try.ntmps34
    go_wp2
    go_ret
    exact ⟨⟨40, by omega, by omega, rfl⟩, rfl⟩
  · go_enter Try.func34, Try.ntmps34
    go_wp2
    go_ret
    exact ⟨⟨2 + q, by omega, by omega, ret_int (by omega)⟩, rfl⟩
set_option maxHeartbeats 1000000 in
theorem DrawBase32_any (a : Option Addr) (len cap : Nat) (w : World) (hc : Code w a len) :
    Calls Try.prog 13 #[.slice a len cap] w fun e w' => (∃ s : ByteArray, s.size ≤ 40 ∧ e = .returned (.string s)) ∧ Below w.heap.size w w' := by
  go_enter Try.func13, Try.ntmps13
  go_wp2_with fail
  refine (l1New_any a len cap _ hc.row hc.max).mono ?_
  rintro e w1 ⟨rfl, hb1, hd1⟩
  have hmax := hc.max
  clear hc
  go_wp2_with fail
  refine (l1Size_any a len cap _ hmax).mono ?_
  rintro e w2 ⟨⟨n, hn0, hn40, rfl⟩, rfl⟩
  go_wp2_with fail
  refine (l1Below_any _ (n : Int) _ hd1 (by omega)).mono ?_
  rintro e w3 ⟨⟨m, hm, _, _, rfl⟩, hk3, hd3⟩
  have hm40 : m < 40 := by have := hm (by omega); omega
  have b3 := hb1.trans (hk3.below (Nat.le_refl _) hb1.size)
  clear hm hb1 hd1 hk3
  go_wp2_with fail
  go_loopw [4, 5] (fun v i wr => ∃ (l : List UInt8) (j : Nat), l.length + j = m ∧ i = .int .i64 (j : Int) ∧ DBuf w.heap.size w3 wr v l) (fun _ i _ => (intOf i).toNat)
  case atStart => exact ⟨[], m, by simp, rfl, DBuf.start hd3⟩
  case round =>
    obtain ⟨l, j, hlj, rfl, hbuf⟩ := hrel
    clear hd3
    by_cases hlt : 0 < j
    · have hI : (0 : Int) < (j : Int) := by omega
      have HJ : Hid (l.length + j = m) := hlj
      have hj40 : (j : Int) ≤ 40 := by omega
      clear hlj
      go_wp2_with fail
      refine (l1Byte_any _ _ hbuf.st).mono ?_
      rintro e w4 ⟨⟨z, hz, rfl⟩, hk4, hd4⟩
      have hb1 := hbuf.draw hk4 hd4
      have HZ : Hid ((z : Int) = ((UInt8.ofNat z).toNat : Int)) := by
        show _ = _
        rw [UInt8.toNat_ofNat']; omega
      have hll : l.length ≤ 100 := by have := HJ.out; omega
      clear hbuf
      go_wp2_with (at_builtin; refine wp_dapp rfl _ _ rfl _ _ rfl hb1 _ (UInt8.ofNat z) HZ.out rfl (by omega) ?_; intro v2 W2 hbuf2)
      go_roundw
      case rel => exact ⟨l ++ [UInt8.ofNat z], j - 1, by have := HJ.out; simp; omega, by first | go_num | (congr 1; omega), hbuf2⟩
      case measure => simp [intOf] <;> omega
    · have hI : ¬ (0 : Int) < (j : Int) := by omega
      have kb := hbuf.text
      go_wp2
      go_ret
      exact ⟨⟨_, (by show l.toArray.size ≤ 40; simp; omega), rfl⟩, b3.trans (hbuf.kp.below (Nat.le_refl _) b3.size)⟩
set_option maxHeartbeats 1000000 in
theorem DrawReadBase32_any (a : Option Addr) (len cap : Nat) (w : World) (hc : Code w a len) :
    Calls Try.prog 16 #[.slice a len cap] w fun e w' => (∃ s : ByteArray, s.size ≤ 100 ∧ e = .returned (.string s)) ∧ Below w.heap.size w w' := by
  go_enter Try.func16, Try.ntmps16
  go_wp2_with fail
  refine (l1New_any a len cap _ hc.row hc.max).mono ?_
  rintro e w1 ⟨rfl, hb1, hd1⟩
  have hc1 := hc.later hb1
  clear hc
  go_wp2_with fail
  refine (DrawBase32_any a len cap _ hc1).mono ?_
  rintro e w2 ⟨⟨s, hs, rfl⟩, hb2⟩
  have hd2 := hd1.kept hb2
  have b2 := hb1.trans (hb2.mono hb1.size)
  clear hb1 hb2 hc1 hd1
  go_wp2_with fail
  refine (sBase32_any s _ (by unfold maxLen; omega)).mono ?_
  rintro e w3 ⟨rfl, hb3⟩
  have hd3 := hd2.kept hb3
  have b3 := b2.trans (hb3.mono b2.size)
  have hsz : (b32B s).size ≤ 70 := by
    rw [b32_small (by omega)]
    show (b32L s (nFives s.size)).toArray.size ≤ 70
    simp [b32L_len, nFives]; omega
  generalize b32B s = t at *
  clear hd2 hb3 b2
  go_wp2_with fail
  refine (l1Below_any _ 4 _ hd3 (by omega)).mono ?_
  rintro e w4 ⟨⟨m, hm, _, _, rfl⟩, hk4, hd4⟩
  have hm4 : m < 4 := by have := hm (by omega); omega
  have b4 : Below w.heap.size w w4 := b3.trans (hk4.below (Nat.le_refl _) b3.size)
  clear hm hk4 hd3 b3
  by_cases m0 : m = 0
  · subst m0
    go_wp2_with fail
    refine (l1bend_any _ t _ hd4 (by omega)).mono ?_
    rintro e w5 ⟨⟨x, hx, rfl⟩, hk5, hd5⟩
    go_wp2
    go_ret
    exact ⟨⟨x, by omega, rfl⟩, b4.trans (hk5.below (Nat.le_refl _) b4.size)⟩
  · have g0 : ((m : Int) == 0) = false := by rw [beq_eq_false_iff_ne]; omega
    by_cases m1 : m = 1
    · subst m1
      clear g0
      go_wp2_with fail
      refine (l1Below_any _ 12 _ hd4 (by omega)).mono ?_
      rintro e w5 ⟨⟨n, hn, _, _, rfl⟩, hk5, hd5⟩
      have hn12 : n < 12 := by have := hn (by omega); omega
      have b5 : Below w.heap.size w w5 := b4.trans (hk5.below (Nat.le_refl _) b4.size)
      clear hn hk5 hd4 b4
      go_wp2_with fail
      refine (l1of_any _ n _ _ hd5 (by omega) (by decide) (by decide)).mono ?_
      rintro e w6 ⟨⟨l, hl, _, rfl⟩, hk6, hd6⟩
      go_wp2
      go_ret
      exact ⟨⟨_, (by show l.toArray.size ≤ 100; simp; omega), rfl⟩, b5.trans (hk6.below (Nat.le_refl _) b5.size)⟩
    · have g1 : ((m : Int) == 1) = false := by rw [beq_eq_false_iff_ne]; omega
      go_wp2
      go_ret
      exact ⟨⟨t, by omega, rfl⟩, b4⟩
end Go.Proofs.Ytpjjgdhcidngfaa
