/-
  Words of 32 bits, as natural numbers: turned, joined, summed. No Go in sight.
-/
import Derived.Laws.BitsAllLaws
import Derived.Test.YtenjbgpndkodmabM1
namespace Go.Proofs.Ytenjbgpndkodmab
set_option linter.unusedVariables false
set_option linter.unusedSimpArgs false
open Go.RowKit

/-- A word turned left by n bits. -/
def rotl (x n : Nat) : Nat := (x * 2 ^ n % 4294967296) ||| (x / 2 ^ (32 - n))
theorem rotl_lt (x n : Nat) (hx : x < 4294967296) : rotl x n < 4294967296 := by
  have h1 : x * 2 ^ n % 4294967296 < 2 ^ 32 := Nat.mod_lt _ (by decide)
  have h2 : x / 2 ^ (32 - n) < 2 ^ 32 := Nat.lt_of_le_of_lt (Nat.div_le_self _ _) (by omega)
  exact Nat.or_lt_two_pow h1 h2
theorem and_lt32 {a b : Nat} (h : b < 4294967296) : a &&& b < 4294967296 := Nat.and_lt_two_pow (n := 32) _ (by omega)
theorem or_lt32 {a b : Nat} (ha : a < 4294967296) (hb : b < 4294967296) : a ||| b < 4294967296 := Nat.or_lt_two_pow (n := 32) (by omega) (by omega)
theorem xor_lt32 {a b : Nat} (ha : a < 4294967296) (hb : b < 4294967296) : a ^^^ b < 4294967296 := Nat.xor_lt_two_pow (n := 32) (by omega) (by omega)

theorem wrap_i64_nat (n : Nat) (h : n < 9223372036854775808) : IntKind.i64.wrap (n : Int) = n := by rw [IntKind.wrap_i64]; omega
theorem ofInt_64 (a : Nat) (ha : a < 9223372036854775808) : (BitVec.ofInt 64 (a : Int)).toNat = a := by
  rw [BitVec.ofInt_natCast, BitVec.toNat_ofNat]; exact Nat.mod_eq_of_lt (by omega)
theorem i64_and_nat (a b : Nat) (ha : a < 9223372036854775808) (hb : b < 9223372036854775808) : bits .and .i64 (a : Int) (b : Int) = ((a &&& b : Nat) : Int) := by
  have hx : a &&& b < 2 ^ 63 := Nat.and_lt_two_pow _ (by omega)
  show IntKind.i64.wrap ((BitVec.ofInt 64 (a : Int) &&& BitVec.ofInt 64 (b : Int)).toNat : Int) = _
  rw [BitVec.toNat_and, ofInt_64 a ha, ofInt_64 b hb, wrap_i64_nat _ (by omega)]
theorem i64_or_nat (a b : Nat) (ha : a < 9223372036854775808) (hb : b < 9223372036854775808) : bits .or .i64 (a : Int) (b : Int) = ((a ||| b : Nat) : Int) := by
  have hx : a ||| b < 2 ^ 63 := Nat.or_lt_two_pow (by omega) (by omega)
  show IntKind.i64.wrap ((BitVec.ofInt 64 (a : Int) ||| BitVec.ofInt 64 (b : Int)).toNat : Int) = _
  rw [BitVec.toNat_or, ofInt_64 a ha, ofInt_64 b hb, wrap_i64_nat _ (by omega)]
theorem i64_xor_nat (a b : Nat) (ha : a < 9223372036854775808) (hb : b < 9223372036854775808) : bits .xor .i64 (a : Int) (b : Int) = ((a ^^^ b : Nat) : Int) := by
  have hx : a ^^^ b < 2 ^ 63 := Nat.xor_lt_two_pow (by omega) (by omega)
  show IntKind.i64.wrap ((BitVec.ofInt 64 (a : Int) ^^^ BitVec.ofInt 64 (b : Int)).toNat : Int) = _
  rw [BitVec.toNat_xor, ofInt_64 a ha, ofInt_64 b hb, wrap_i64_nat _ (by omega)]

theorem mask32 (x : Nat) : x &&& 4294967295 = x % 4294967296 := Nat.and_two_pow_sub_one_eq_mod x 32
theorem mask32_i64 (x : Nat) (hx : x < 9223372036854775808) : bits .and .i64 (x : Int) 4294967295 = ((x % 4294967296 : Nat) : Int) := by
  have := i64_and_nat x 4294967295 hx (by decide)
  rw [mask32] at this
  exact this
theorem pow31 {n : Nat} (h : n ≤ 31) : 2 ^ n ≤ 2147483648 := Nat.pow_le_pow_right (n := 2) (by decide) h
theorem mul_pow_lt {x n : Nat} (hx : x < 4294967296) (h : n ≤ 31) : x * 2 ^ n < 9223372036854775808 := by
  have h1 := pow31 h
  have h2 : x * 2 ^ n ≤ 4294967295 * 2147483648 := Nat.mul_le_mul (by omega) h1
  omega
/-- The turn as it is made on ints of 64 bits. -/
theorem turn_i64 (x n : Nat) (hx : x < 4294967296) (hn : n ≤ 31) :
    bits .and .i64 (bits .or .i64 ((x : Int) * 2 ^ n) ((x : Int) / 2 ^ (32 - n))) 4294967295 = ((rotl x n : Nat) : Int) := by
  have h1 := mul_pow_lt hx hn
  have h2 : x / 2 ^ (32 - n) < 4294967296 := Nat.lt_of_le_of_lt (Nat.div_le_self _ _) hx
  have e1 : (x : Int) * 2 ^ n = ((x * 2 ^ n : Nat) : Int) := by simp
  have e2 : (x : Int) / 2 ^ (32 - n) = ((x / 2 ^ (32 - n) : Nat) : Int) := by simp
  have h3 : x * 2 ^ n ||| x / 2 ^ (32 - n) < 2 ^ 63 := Nat.or_lt_two_pow (by omega) (by omega)
  rw [e1, e2, i64_or_nat _ _ h1 (by omega), mask32_i64 _ (by omega)]
  unfold rotl
  have e3 : (x * 2 ^ n ||| x / 2 ^ (32 - n)) % 2 ^ 32 = (x * 2 ^ n) % 2 ^ 32 ||| (x / 2 ^ (32 - n)) % 2 ^ 32 := Nat.or_mod_two_pow
  rw [show (4294967296 : Nat) = 2 ^ 32 by decide, e3, Nat.mod_eq_of_lt (show x / 2 ^ (32 - n) < 2 ^ 32 by omega)]
/-- The turn as it is made on words. -/
theorem turn_u32 (x n : Nat) (hx : x < 4294967296) :
    bits .or .u32 (((x : Int) * 2 ^ n) % 4294967296) ((x : Int) / 2 ^ (32 - n)) = ((rotl x n : Nat) : Int) := by
  have h2 : x / 2 ^ (32 - n) < 4294967296 := Nat.lt_of_le_of_lt (Nat.div_le_self _ _) hx
  have e1 : ((x : Int) * 2 ^ n) % 4294967296 = ((x * 2 ^ n % 4294967296 : Nat) : Int) := by simp
  have e2 : (x : Int) / 2 ^ (32 - n) = ((x / 2 ^ (32 - n) : Nat) : Int) := by simp
  rw [e1, e2, u32_or_nat _ _ (Nat.mod_lt _ (by decide)) h2]
  rfl
theorem rotl_sum (x n : Nat) (hx : x < 4294967296) (hn : n ≤ 31) : rotl x n = x * 2 ^ n % 4294967296 + x / 2 ^ (32 - n) := by
  unfold rotl
  have hp : 2 ^ n * 2 ^ (32 - n) = 4294967296 := by rw [← Nat.pow_add, show n + (32 - n) = 32 by omega]
  have h1 : x * 2 ^ n % 4294967296 % 2 ^ n = 0 := by
    rw [← hp, Nat.mul_comm x, Nat.mul_mod_mul_left, Nat.mul_mod_right]
  have h2 : x / 2 ^ (32 - n) < 2 ^ n := by
    rw [Nat.div_lt_iff_lt_mul (Nat.two_pow_pos _), hp]; exact hx
  exact nat_join n _ _ h1 h2
/-- What is turned left, and then by what lacks to 32, is as it was. -/
theorem rotl_back (x n : Nat) (hx : x < 4294967296) (hn : n ≤ 31) : rotl (rotl x n) ((32 - n) % 32) = x := by
  by_cases h0 : n = 0
  · subst h0
    have e : ∀ y, y < 4294967296 → rotl y 0 = y := by
      intro y hy
      rw [rotl_sum y 0 hy (by omega)]
      simp
      omega
    rw [e x hx]
    exact e x hx
  · have h32 : (32 - n) % 32 = 32 - n := Nat.mod_eq_of_lt (by omega)
    rw [h32, rotl_sum _ _ (rotl_lt x n hx) (by omega), rotl_sum x n hx hn, show 32 - (32 - n) = n by omega]
    have hp : 2 ^ n * 2 ^ (32 - n) = 4294967296 := by rw [← Nat.pow_add, show n + (32 - n) = 32 by omega]
    have hP : 0 < 2 ^ n := Nat.two_pow_pos _
    have hQ : 0 < 2 ^ (32 - n) := Nat.two_pow_pos _
    generalize 2 ^ n = P at *
    generalize 2 ^ (32 - n) = Q at *
    have hb : x / Q < P := by rw [Nat.div_lt_iff_lt_mul hQ, hp]; exact hx
    have ex : x = Q * (x / Q) + x % Q := (Nat.div_add_mod x Q).symm
    have hr : x % Q < Q := Nat.mod_lt _ hQ
    generalize x / Q = q at *
    generalize x % Q = r at *
    subst ex
    have e1 : (Q * q + r) * P % 4294967296 = r * P := by
      rw [Nat.add_mul, show Q * q * P = q * 4294967296 by rw [← hp, Nat.mul_comm Q q, Nat.mul_assoc, Nat.mul_comm Q P], Nat.mul_add_mod']
      exact Nat.mod_eq_of_lt (by rw [← hp, Nat.mul_comm P Q]; exact (Nat.mul_lt_mul_right hP).2 hr)
    rw [e1]
    have e2 : (r * P + q) / P = r := by rw [Nat.mul_comm, Nat.mul_add_div hP, Nat.div_eq_of_lt hb, Nat.add_zero]
    have e3 : (r * P + q) * Q % 4294967296 = Q * q := by
      rw [Nat.add_mul, show r * P * Q = r * 4294967296 by rw [← hp, Nat.mul_assoc], Nat.mul_add_mod', Nat.mul_comm q Q]
      exact Nat.mod_eq_of_lt (by rw [← hp, Nat.mul_comm P Q]; exact (Nat.mul_lt_mul_left hQ).2 hb)
    rw [e2, e3]

/-- The three mixings. -/
def chs (b c d : Nat) : Nat := (b &&& c) ||| ((b ^^^ 4294967295) &&& d)
def par (b c d : Nat) : Nat := (b ^^^ c) ^^^ d
def maj (b c d : Nat) : Nat := ((b &&& c) ||| (b &&& d)) ||| (c &&& d)
def fOf (t b c d : Nat) : Nat := if t / 20 = 0 then chs b c d else if t / 20 = 2 then maj b c d else par b c d
def kOf (t : Nat) : Nat := if t / 20 = 0 then 1518500249 else if t / 20 = 1 then 1859775393 else if t / 20 = 2 then 2400959708 else 3395469782
theorem fOf_lt (t b c d : Nat) (hb : b < 4294967296) (hc : c < 4294967296) (hd : d < 4294967296) : fOf t b c d < 4294967296 := by
  unfold fOf chs maj par
  split
  · exact or_lt32 (and_lt32 hc) (and_lt32 hd)
  · split
    · exact or_lt32 (or_lt32 (and_lt32 hc) (and_lt32 hd)) (and_lt32 hd)
    · exact xor_lt32 (xor_lt32 hb hc) hd
theorem kOf_lt (t : Nat) : kOf t < 4294967296 := by
  unfold kOf
  split
  · decide
  · split
    · decide
    · split <;> decide
end Go.Proofs.Ytenjbgpndkodmab
