/-
  The walks over chapter 3: words.
-/
import Derived.Test.YtenjbgpndkodmabProg
import Derived.Test.YtenjbgpndkodmabMS2
import Derived.Test.YtenjbgpndkodmabB0
import Derived.Laws.ShiftsVarLaws
import Derived.Deep.QuietTactic
import Derived.BigQuiet
namespace Go.Proofs.Ytenjbgpndkodmab
set_option linter.unusedVariables false
set_option linter.unusedSimpArgs false
open Go.RowKit
theorem ret_two {a b : Value} {c d : Value} (h : a = c) (k : b = d) : Ending.returned (.tuple #[a, b]) = .returned (.tuple #[c, d]) := by rw [h, k]
/-- Is it a word? -/
def wordQ (n : Int) : Bool := withinB n 0 4294967295
theorem wordQ_iff {n : Int} : wordQ n = true ↔ 0 ≤ n ∧ n ≤ 4294967295 := within_iff
theorem turn_i64w (x n : Nat) (hx : x < 4294967296) (hn : n ≤ 31) :
    bits .and .i64 (bits .or .i64 (wrap64 ((x : Int) * 2 ^ n)) ((x : Int) / 2 ^ (32 - n))) 4294967295 = ((rotl x n : Nat) : Int) := by
  have h1 := mul_pow_lt hx hn
  have e1 : (x : Int) * 2 ^ n = ((x * 2 ^ n : Nat) : Int) := by simp
  have e2 : wrap64 ((x : Int) * 2 ^ n) = (x : Int) * 2 ^ n := by
    rw [e1]
    generalize x * 2 ^ n = y at *
    unfold wrap64
    omega
  rw [e2]
  exact turn_i64 x n hx hn
theorem quarter {t : Nat} (h : t ≤ 79) : (t : Int) / 20 = 0 ∧ fOf t = chs ∧ kOf t = 1518500249 ∨ (t : Int) / 20 = 1 ∧ fOf t = par ∧ kOf t = 1859775393 ∨ (t : Int) / 20 = 2 ∧ fOf t = maj ∧ kOf t = 2400959708 ∨ (t : Int) / 20 = 3 ∧ fOf t = par ∧ kOf t = 3395469782 := by
  have h4 : t / 20 = 0 ∨ t / 20 = 1 ∨ t / 20 = 2 ∨ t / 20 = 3 := by omega
  rcases h4 with e | e | e | e
  · exact .inl ⟨by omega, by funext b c d; simp [fOf, e], by simp [kOf, e]⟩
  · exact .inr (.inl ⟨by omega, by funext b c d; simp [fOf, e], by simp [kOf, e]⟩)
  · exact .inr (.inr (.inl ⟨by omega, by funext b c d; simp [fOf, e], by simp [kOf, e]⟩))
  · exact .inr (.inr (.inr ⟨by omega, by funext b c d; simp [fOf, e], by simp [kOf, e]⟩))
theorem xmask (b : Nat) (hb : b < 4294967296) : bits .xor .u32 4294967295 (b : Int) = ((b ^^^ 4294967295 : Nat) : Int) := by
  have := u32_xor_nat 4294967295 b (by decide) hb
  rw [Nat.xor_comm] at this
  exact this
theorem chs_u32 (b c d : Nat) (hb : b < 4294967296) (hc : c < 4294967296) (hd : d < 4294967296) :
    bits .or .u32 (bits .and .u32 (b : Int) (c : Int)) (bits .and .u32 (bits .xor .u32 4294967295 (b : Int)) (d : Int)) = ((chs b c d : Nat) : Int) := by
  have hx : b ^^^ 4294967295 < 4294967296 := xor_lt32 hb (by decide)
  rw [xmask b hb, u32_and_nat b c hb hc, u32_and_nat _ d hx hd, u32_or_nat _ _ (and_lt32 hc) (and_lt32 hd)]
  rfl
theorem par_u32 (b c d : Nat) (hb : b < 4294967296) (hc : c < 4294967296) (hd : d < 4294967296) :
    bits .xor .u32 (bits .xor .u32 (b : Int) (c : Int)) (d : Int) = ((par b c d : Nat) : Int) := by
  rw [u32_xor_nat b c hb hc, u32_xor_nat _ d (xor_lt32 hb hc) hd]
  rfl
theorem maj_u32 (b c d : Nat) (hb : b < 4294967296) (hc : c < 4294967296) (hd : d < 4294967296) :
    bits .or .u32 (bits .or .u32 (bits .and .u32 (b : Int) (c : Int)) (bits .and .u32 (b : Int) (d : Int))) (bits .and .u32 (c : Int) (d : Int)) = ((maj b c d : Nat) : Int) := by
  rw [u32_and_nat b c hb hc, u32_and_nat b d hb hd, u32_and_nat c d hc hd, u32_or_nat _ _ (and_lt32 hc) (and_lt32 hd), u32_or_nat _ _ (or_lt32 (and_lt32 hc) (and_lt32 hd)) (and_lt32 hd)]
  rfl
theorem chs_i64 (b c d : Nat) (hb : b < 4294967296) (hc : c < 4294967296) (hd : d < 4294967296) :
    bits .or .i64 (bits .and .i64 (b : Int) (c : Int)) (bits .and .i64 (bits .xor .i64 (b : Int) 4294967295) (d : Int)) = ((chs b c d : Nat) : Int) := by
  have hx : b ^^^ 4294967295 < 4294967296 := xor_lt32 hb (by decide)
  have h1 := and_lt32 (a := b) hc
  have h2 := and_lt32 (a := b ^^^ 4294967295) hd
  have e := i64_xor_nat b 4294967295 (by omega) (by decide)
  rw [show bits .xor .i64 (b : Int) 4294967295 = ((b ^^^ 4294967295 : Nat) : Int) from e, i64_and_nat b c (by omega) (by omega), i64_and_nat _ d (by omega) (by omega), i64_or_nat _ _ (by omega) (by omega)]
  rfl
theorem par_i64 (b c d : Nat) (hb : b < 4294967296) (hc : c < 4294967296) (hd : d < 4294967296) :
    bits .xor .i64 (bits .xor .i64 (b : Int) (c : Int)) (d : Int) = ((par b c d : Nat) : Int) := by
  have h1 := xor_lt32 hb hc
  rw [i64_xor_nat b c (by omega) (by omega), i64_xor_nat _ d (by omega) (by omega)]
  rfl
theorem maj_i64 (b c d : Nat) (hb : b < 4294967296) (hc : c < 4294967296) (hd : d < 4294967296) :
    bits .or .i64 (bits .or .i64 (bits .and .i64 (b : Int) (c : Int)) (bits .and .i64 (b : Int) (d : Int))) (bits .and .i64 (c : Int) (d : Int)) = ((maj b c d : Nat) : Int) := by
  have h1 := and_lt32 (a := b) hc
  have h2 := and_lt32 (a := b) hd
  have h3 := and_lt32 (a := c) hd
  have h4 := or_lt32 h1 h2
  rw [i64_and_nat b c (by omega) (by omega), i64_and_nat b d (by omega) (by omega), i64_and_nat c d (by omega) (by omega), i64_or_nat _ _ (by omega) (by omega), i64_or_nat _ _ (by omega) (by omega)]
  rfl
theorem tup2 {a b c d : Int} {k l : IntKind} (h : c = a) (g : d = b) : Ending.returned (.tuple #[.int k a, .int l b]) = .returned (.tuple #[.int k c, .int l d]) := by rw [h, g]
/-- What Turn answers. -/
def turnV (x n : Int) : Int := if wordQ x = true ∧ withinB n 0 31 = true then ((rotl x.toNat n.toNat : Nat) : Int) else -1
theorem turnV_yes (x n : Nat) (hx : x < 4294967296) (hn : n ≤ 31) : turnV x n = ((rotl x n : Nat) : Int) := by
  unfold turnV
  rw [if_pos ⟨wordQ_iff.2 ⟨by omega, by omega⟩, within_iff.2 ⟨by omega, by omega⟩⟩]
  simp
theorem turnV_no {x n : Int} (h : wordQ x = false ∨ withinB n 0 31 = false) : turnV x n = -1 := by
  unfold turnV
  rw [if_neg]
  rintro ⟨h1, h2⟩
  rcases h with h | h
  · rw [h1] at h; cases h
  · rw [h2] at h; cases h
end Go.Proofs.Ytenjbgpndkodmab
