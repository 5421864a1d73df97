/-
  Plain functions of chapter 1: five bits a letter. No Go in sight.
-/
import Derived.Test.YtohdfdbpmmeidaaDoorM2
namespace Go.Proofs.YtohdfdbpmmeidaaDoor
set_option linter.unusedVariables false
set_option linter.unusedSimpArgs false
open Go.RowKit

theorem wraps_i64s (n : Int) (h₀ : 0 ≤ n) (h₁ : n < 2 ^ 40) : IntKind.i64.wrap n = n := by rw [IntKind.wrap_i64]; omega
theorem or_i64 (i : Nat) (x y : Int) (hx₀ : 0 ≤ x) (hx : x % 2 ^ i = 0) (hx₁ : x < 2 ^ 40) (hy₀ : 0 ≤ y) (hy : y < 2 ^ i) (hy₁ : y < 2 ^ 40) : bits .or .i64 x y = x + y :=
  bits_join .i64 40 (by decide) wraps_i64s i x y hx₀ hx hx₁ hy₀ hy hy₁
theorem and_i64 (i : Nat) (hi : i ≤ 40) (x : Int) (h₀ : 0 ≤ x) (h₁ : x < 2 ^ 40) : bits .and .i64 x (2 ^ i - 1) = x % 2 ^ i :=
  bits_mask .i64 40 (by decide) wraps_i64s i hi x h₀ h₁

/-- Bit k of a text, the highest of each byte first; 0 behind its end. -/
def bit8 (s : ByteArray) (k : Nat) : Nat := (at8 s (k / 8)).toNat / 2 ^ (7 - k % 8) % 2
/-- The number that m bits from p on make. -/
def acc (s : ByteArray) (p : Nat) : Nat → Nat
  | 0 => 0
  | m + 1 => 2 * acc s p m + bit8 s (p + m)
def five (s : ByteArray) (t : Nat) : Nat := acc s (5 * t) 5
def alpha : List UInt8 := [65, 66, 67, 68, 69, 70, 71, 72, 73, 74, 75, 76, 77, 78, 79, 80, 81, 82, 83, 84, 85, 86, 87, 88, 89, 90, 50, 51, 52, 53, 54, 55]
def let5 (v : Nat) : UInt8 := alpha.getD v 0
def b32L (s : ByteArray) (n : Nat) : List UInt8 := (List.range n).map fun t => let5 (five s t)
def nFives (n : Nat) : Nat := (8 * n + 4) / 5
def b32B (s : ByteArray) : ByteArray := if s.size ≤ 4000 then ⟨(b32L s (nFives s.size)).toArray⟩ else ⟨#[]⟩

theorem bit8_lt (s : ByteArray) (k : Nat) : bit8 s k < 2 := by unfold bit8; omega
theorem acc_lt (s : ByteArray) (p m : Nat) : acc s p m < 2 ^ m := by
  induction m with
  | zero => simp [acc]
  | succ m ih =>
    have := bit8_lt s (p + m)
    rw [acc, Nat.pow_succ]; omega
theorem acc_add (s : ByteArray) (p a r : Nat) : acc s p (a + r) = acc s p a * 2 ^ r + acc s (p + a) r := by
  induction r with
  | zero => simp [acc]
  | succ r ih =>
    rw [← Nat.add_assoc, acc, ih, acc, Nat.pow_succ, Nat.add_assoc]
    rw [Nat.mul_add, ← Nat.mul_assoc, Nat.mul_comm 2 (acc s p a), Nat.mul_assoc, Nat.mul_comm 2 (2 ^ r)]
    omega
theorem at8_end (s : ByteArray) (k : Nat) (h : s.size ≤ k) : at8 s k = 0 := by
  unfold at8
  rw [List.getD, List.getElem?_eq_none (by rw [len_data]; exact h)]
  rfl
theorem bit8_end (s : ByteArray) (k : Nat) (h : 8 * s.size ≤ k) : bit8 s k = 0 := by
  unfold bit8
  rw [at8_end s (k / 8) (by omega)]
  simp
theorem acc_end (s : ByteArray) (p r : Nat) (h : 8 * s.size ≤ p) : acc s p r = 0 := by
  induction r with
  | zero => rfl
  | succ r ih => rw [acc, ih, bit8_end s (p + r) (by omega)]
theorem bit8_at (s : ByteArray) (i j : Nat) (hj : j < 8) : bit8 s (8 * i + j) = (at8 s i).toNat / 2 ^ (7 - j) % 2 := by
  unfold bit8
  rw [show (8 * i + j) / 8 = i from by omega, show (8 * i + j) % 8 = j from by omega]
theorem byte_sum : ∀ b, b < 256 → 2 * (2 * (2 * (2 * (2 * (2 * (2 * (2 * 0 + b / 2 ^ 7 % 2) + b / 2 ^ 6 % 2) + b / 2 ^ 5 % 2) + b / 2 ^ 4 % 2) + b / 2 ^ 3 % 2) + b / 2 ^ 2 % 2) + b / 2 ^ 1 % 2) + b / 2 ^ 0 % 2 = b := by decide +kernel
theorem acc_byte8 (s : ByteArray) (i : Nat) : acc s (8 * i) 8 = (at8 s i).toNat := by
  have hb := byte_sum (at8 s i).toNat (at8 s i).toNat_lt
  have e : ∀ j, acc s (8 * i) (j + 1) = 2 * acc s (8 * i) j + bit8 s (8 * i + j) := fun j => rfl
  rw [e 7, e 6, e 5, e 4, e 3, e 2, e 1, e 0, bit8_at s i 0 (by omega), bit8_at s i 1 (by omega), bit8_at s i 2 (by omega), bit8_at s i 3 (by omega), bit8_at s i 4 (by omega), bit8_at s i 5 (by omega), bit8_at s i 6 (by omega), bit8_at s i 7 (by omega)]
  exact hb
theorem acc_byte (s : ByteArray) (p m i : Nat) (h : p + m = 8 * i) : acc s p (m + 8) = acc s p m * 256 + (at8 s i).toNat := by
  rw [acc_add, h, acc_byte8]
theorem acc_hi (s : ByteArray) (p a r : Nat) : acc s p (a + r) / 2 ^ r = acc s p a := by
  have h := acc_lt s (p + a) r
  rw [acc_add, Nat.mul_comm, Nat.mul_add_div (Nat.two_pow_pos r), Nat.div_eq_of_lt h, Nat.add_zero]
theorem acc_lo (s : ByteArray) (p a r : Nat) : acc s p (a + r) % 2 ^ r = acc s (p + a) r := by
  have h := acc_lt s (p + a) r
  rw [acc_add, Nat.mul_comm, Nat.mul_add_mod, Nat.mod_eq_of_lt h]
theorem b32L_succ (s : ByteArray) (t : Nat) : b32L s (t + 1) = b32L s t ++ [let5 (five s t)] := by
  unfold b32L
  rw [List.range_succ, List.map_append]; rfl
theorem b32L_len (s : ByteArray) (t : Nat) : (b32L s t).length = t := by simp [b32L]
theorem five_lt (s : ByteArray) (t : Nat) : five s t < 32 := acc_lt s (5 * t) 5
theorem b32_big {s : ByteArray} (h : 4000 < s.size) : b32B s = ⟨#[]⟩ := by unfold b32B; rw [if_neg (by omega)]
theorem b32_small {s : ByteArray} (h : s.size ≤ 4000) : b32B s = ⟨(b32L s (nFives s.size)).toArray⟩ := by unfold b32B; rw [if_pos h]
theorem alpha_at (v : Nat) (h : v < (⟨#[65, 66, 67, 68, 69, 70, 71, 72, 73, 74, 75, 76, 77, 78, 79, 80, 81, 82, 83, 84, 85, 86, 87, 88, 89, 90, 50, 51, 52, 53, 54, 55]⟩ : ByteArray).size) : (⟨#[65, 66, 67, 68, 69, 70, 71, 72, 73, 74, 75, 76, 77, 78, 79, 80, 81, 82, 83, 84, 85, 86, 87, 88, 89, 90, 50, 51, 52, 53, 54, 55]⟩ : ByteArray)[v] = let5 v := by
  rw [at8_eq _ v h]; rfl
end Go.Proofs.YtohdfdbpmmeidaaDoor
