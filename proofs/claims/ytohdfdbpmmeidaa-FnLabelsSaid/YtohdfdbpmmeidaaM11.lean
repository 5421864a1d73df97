/-
  Plain functions of chapter 1: letters of five bits each, read. No Go in sight.
-/
import Derived.Test.YtohdfdbpmmeidaaM10
namespace Go.Proofs.Ytohdfdbpmmeidaa
set_option linter.unusedVariables false
set_option linter.unusedSimpArgs false
open Go.RowKit
def val5 (n : Int) : Int := if 65 ≤ n ∧ n ≤ 90 then n - 65 else if 50 ≤ n ∧ n ≤ 55 then n - 24 else -1
def isL (b : UInt8) : Bool := decide (0 ≤ val5 (b.toNat : Int))
def lv5 (b : UInt8) : Nat := (val5 (b.toNat : Int)).toNat
theorem val5_lt (n : Int) : val5 n < 32 := by unfold val5; split <;> (try split) <;> omega
theorem v5_lt (b : UInt8) : lv5 b < 32 := by have := val5_lt (b.toNat : Int); unfold lv5; omega
theorem v5_val {b : UInt8} (h : isL b = true) : val5 (b.toNat : Int) = (lv5 b : Int) := by
  unfold isL at h; rw [decide_eq_true_iff] at h; unfold lv5; omega
def bit5 (s : ByteArray) (k : Nat) : Nat := lv5 (at8 s (k / 5)) / 2 ^ (4 - k % 5) % 2
def accL (s : ByteArray) (p : Nat) : Nat → Nat
  | 0 => 0
  | m + 1 => 2 * accL s p m + bit5 s (p + m)
theorem bit5_lt (s : ByteArray) (k : Nat) : bit5 s k < 2 := by unfold bit5; omega
theorem accL_lt (s : ByteArray) (p m : Nat) : accL s p m < 2 ^ m := by
  induction m with
  | zero => simp [accL]
  | succ m ih =>
    have := bit5_lt s (p + m)
    rw [accL, Nat.pow_succ]; omega
theorem accL_add (s : ByteArray) (p a r : Nat) : accL s p (a + r) = accL s p a * 2 ^ r + accL s (p + a) r := by
  induction r with
  | zero => simp [accL]
  | succ r ih =>
    rw [← Nat.add_assoc, accL, ih, accL, Nat.pow_succ, Nat.add_assoc]
    rw [Nat.mul_add, ← Nat.mul_assoc, Nat.mul_comm 2 (accL s p a), Nat.mul_assoc, Nat.mul_comm 2 (2 ^ r)]
    omega
theorem accL_hi (s : ByteArray) (p a r : Nat) : accL s p (a + r) / 2 ^ r = accL s p a := by
  have h := accL_lt s (p + a) r
  rw [accL_add, Nat.mul_comm, Nat.mul_add_div (Nat.two_pow_pos r), Nat.div_eq_of_lt h, Nat.add_zero]
theorem accL_lo (s : ByteArray) (p a r : Nat) : accL s p (a + r) % 2 ^ r = accL s (p + a) r := by
  have h := accL_lt s (p + a) r
  rw [accL_add, Nat.mul_comm, Nat.mul_add_mod, Nat.mod_eq_of_lt h]
theorem five_sum : ∀ b, b < 32 → 2 * (2 * (2 * (2 * (2 * 0 + b / 2 ^ 4 % 2) + b / 2 ^ 3 % 2) + b / 2 ^ 2 % 2) + b / 2 ^ 1 % 2) + b / 2 ^ 0 % 2 = b := by decide +kernel
theorem bit5_at (s : ByteArray) (i j : Nat) (hj : j < 5) : bit5 s (5 * i + j) = lv5 (at8 s i) / 2 ^ (4 - j) % 2 := by
  unfold bit5
  rw [show (5 * i + j) / 5 = i from by omega, show (5 * i + j) % 5 = j from by omega]
theorem accL_five (s : ByteArray) (i : Nat) : accL s (5 * i) 5 = lv5 (at8 s i) := by
  have hb := five_sum (lv5 (at8 s i)) (v5_lt _)
  have e : ∀ j, accL s (5 * i) (j + 1) = 2 * accL s (5 * i) j + bit5 s (5 * i + j) := fun j => rfl
  rw [e 4, e 3, e 2, e 1, e 0, bit5_at s i 0 (by omega), bit5_at s i 1 (by omega), bit5_at s i 2 (by omega), bit5_at s i 3 (by omega), bit5_at s i 4 (by omega)]
  exact hb
theorem accL_letter (s : ByteArray) (p m i : Nat) (h : p + m = 5 * i) : accL s p (m + 5) = accL s p m * 32 + lv5 (at8 s i) := by
  rw [accL_add, h, accL_five]
def out5 (s : ByteArray) (m : Nat) : List UInt8 := (List.range m).map fun j => UInt8.ofNat (accL s (8 * j) 8)
theorem out5_succ (s : ByteArray) (m : Nat) : out5 s (m + 1) = out5 s m ++ [UInt8.ofNat (accL s (8 * m) 8)] := by
  unfold out5
  rw [List.range_succ, List.map_append]; rfl
theorem out5_len (s : ByteArray) (m : Nat) : (out5 s m).length = m := by simp [out5]
def rbOk (s : ByteArray) : Bool := decide (s.size ≤ 6400) && s.data.toList.all isL && decide (5 * s.size % 8 < 5) && decide (accL s (8 * (5 * s.size / 8)) (5 * s.size % 8) = 0)
def rbB (s : ByteArray) : ByteArray := if rbOk s = true then ⟨(out5 s (5 * s.size / 8)).toArray⟩ else ⟨#[]⟩
theorem rb_no {s : ByteArray} (h : rbOk s = false) : rbB s = ⟨#[]⟩ := by unfold rbB; rw [if_neg (by rw [h]; decide)]
theorem rb_big {s : ByteArray} (h : 6400 < s.size) : rbOk s = false := by unfold rbOk; simp; intro h'; omega
theorem rb_letter {s : ByteArray} {k : Nat} (hk : k < s.size) (h : isL (at8 s k) = false) : rbOk s = false := by
  have : s.data.toList.all isL = false := by
    rw [List.all_eq_false]
    have hl : k < s.data.toList.length := by rw [len_data]; exact hk
    refine ⟨s.data.toList[k], List.getElem_mem hl, ?_⟩
    have e : at8 s k = s.data.toList[k] := by simp [at8, List.getD, List.getElem?_eq_getElem hl]
    rw [← e, h]; decide
  unfold rbOk; rw [this]; simp
theorem rb_held {s : ByteArray} (h : 5 ≤ 5 * s.size % 8) : rbOk s = false := by unfold rbOk; rw [decide_eq_false (p := 5 * s.size % 8 < 5) (by omega)]; simp
theorem rb_bits {s : ByteArray} (h : accL s (8 * (5 * s.size / 8)) (5 * s.size % 8) ≠ 0) : rbOk s = false := by unfold rbOk; rw [decide_eq_false h]; simp
theorem rb_yes {s : ByteArray} (h1 : s.size ≤ 6400) (h2 : ∀ j, j < s.size → isL (at8 s j) = true) (h3 : 5 * s.size % 8 < 5) (h4 : accL s (8 * (5 * s.size / 8)) (5 * s.size % 8) = 0) : rbOk s = true := by
  have : s.data.toList.all isL = true := by
    rw [List.all_eq_true]
    intro x hx
    obtain ⟨k, hk, rfl⟩ := List.mem_iff_getElem.1 hx
    have e : at8 s k = s.data.toList[k] := by simp [at8, List.getD, List.getElem?_eq_getElem hk]
    rw [← e]; exact h2 k (by rw [len_data] at hk; exact hk)
  unfold rbOk; simp [this, h1, h3, h4]
end Go.Proofs.Ytohdfdbpmmeidaa
