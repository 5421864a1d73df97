/-
  Plain mathematics of chapter 2: digits with zeros ahead, and the numbers that are read of them. No Go in sight.
-/
import Derived.Test.YtffjpidjhcnnmabDoorM4
namespace Go.Proofs.YtffjpidjhcnnmabDoor
set_option linter.unusedVariables false
set_option linter.unusedSimpArgs false
open Go.RowKit

/-- The last p digits of n. -/
def digL (n : Nat) : Nat → List UInt8
  | 0 => []
  | p + 1 => UInt8.ofNat (48 + n / 10 ^ p % 10) :: digL n p
def digB (n p : Nat) : ByteArray := ⟨(digL n p).toArray⟩
theorem digL_length (n p : Nat) : (digL n p).length = p := by
  induction p with
  | zero => rfl
  | succ p ih => simp [digL, ih]
theorem digB_size (n p : Nat) : (digB n p).size = p := by
  show (digL n p).toArray.size = p
  simp [digL_length]
theorem digB_list (n p : Nat) : (digB n p).data.toList = digL n p := rfl
theorem digL_snoc (n p : Nat) : digL n (p + 1) = digL (n / 10) p ++ [UInt8.ofNat (48 + n % 10)] := by
  induction p with
  | zero => simp [digL]
  | succ p ih =>
    have e : n / 10 ^ (p + 1) = n / 10 / 10 ^ p := by rw [Nat.pow_succ, Nat.mul_comm, Nat.div_div_eq_div_mul]
    rw [digL, ih, digL, e]
    rfl
theorem digL_zero (p : Nat) : digL 0 p = List.replicate p 48 := by
  induction p with
  | zero => rfl
  | succ p ih => rw [digL, ih]; simp [List.replicate_succ]
/-- With zeros ahead up to p bytes. -/
def padL (l : List UInt8) (p : Nat) : List UInt8 := List.replicate (p - l.length) 48 ++ l
theorem padL_dec (p : Nat) : ∀ n, n < 10 ^ (p + 1) → padL (Lib.decDigits n) (p + 1) = digL n (p + 1) := by
  induction p with
  | zero =>
    intro n hn
    rw [Lib.decDigits, dif_pos (by omega)]
    simp [padL, digL]
    congr 1; omega
  | succ p ih =>
    intro n hn
    rw [digL_snoc]
    by_cases h : n < 10
    · have e : n / 10 = 0 := by omega
      rw [e, digL_zero, Lib.decDigits, dif_pos h]
      simp only [padL, List.length_singleton]
      congr 2
      congr 1; omega
    · have h1 : n / 10 < 10 ^ (p + 1) := by
        rw [Nat.pow_succ] at hn
        omega
      have h2 := ih (n / 10) h1
      rw [decDigits_step n h, ← h2]
      simp only [padL, List.length_append, List.length_singleton, ← List.append_assoc]
      congr 3
      omega
theorem dec_len_le (p n : Nat) (h : n < 10 ^ (p + 1)) : (Lib.decDigits n).length ≤ p + 1 := by
  have h1 := congrArg List.length (padL_dec p n h)
  rw [digL_length] at h1
  simp [padL] at h1
  omega
/-- What 'number' reads: what is no digit is a 0. -/
def dv (b : UInt8) : Nat := if dig8 b = true then b.toNat - 48 else 0
def valN (l : List UInt8) : Nat := l.foldl (fun n b => n * 10 + dv b) 0
theorem valN_snoc (l : List UInt8) (b : UInt8) : valN (l ++ [b]) = valN l * 10 + dv b := by simp [valN]
theorem dv_lt (b : UInt8) : dv b < 10 := by
  unfold dv
  split
  · have := (dig8_iff b).1 ‹_›; omega
  · omega
theorem valN_lt (l : List UInt8) : valN l < 10 ^ l.length := by
  refine snoc_ind (p := fun l => valN l < 10 ^ l.length) (by simp [valN]) ?_ l
  intro q b ih
  have hb := dv_lt b
  rw [valN_snoc, List.length_append, List.length_singleton, Nat.pow_succ]
  omega
/-- A digit, or a blank. -/
def numb (b : UInt8) : Bool := b == 32 || dig8 b
/-- What spec's l2num reads. -/
def numS (l : List UInt8) : Int := if l.all numb = true then (valN l : Int) else -1
theorem dig_ofNat (d : Nat) (h : d < 10) : dig8 (UInt8.ofNat (48 + d)) = true := by
  rw [dig8_iff]; simp; omega
theorem dv_ofNat (d : Nat) (h : d < 10) : dv (UInt8.ofNat (48 + d)) = d := by
  unfold dv
  rw [if_pos (dig_ofNat d h)]
  simp; omega
theorem digL_all (n p : Nat) : (digL n p).all dig8 = true := by
  induction p with
  | zero => rfl
  | succ p ih => rw [digL, List.all_cons, ih, dig_ofNat _ (by omega)]; rfl
theorem digL_numb (n p : Nat) : (digL n p).all numb = true := by
  have h := digL_all n p
  rw [List.all_eq_true] at h ⊢
  intro x hx
  simp [numb, h x hx]
theorem valN_digL (p : Nat) : ∀ n, valN (digL n p) = n % 10 ^ p := by
  induction p with
  | zero => intro n; simp [digL, valN]; omega
  | succ p ih =>
    intro n
    rw [digL_snoc, valN_snoc, ih, dv_ofNat _ (by omega), Nat.pow_succ, Nat.mul_comm (10 ^ p) 10, Nat.mod_mul]
    omega
theorem valN_dig (n p : Nat) (h : n < 10 ^ p) : valN (digL n p) = n := by rw [valN_digL, Nat.mod_eq_of_lt h]
theorem numS_dig (n p : Nat) (h : n < 10 ^ p) : numS (digL n p) = n := by
  unfold numS; rw [if_pos (digL_numb n p), valN_dig n p h]
theorem numS_bd (l : List UInt8) : -1 ≤ numS l ∧ numS l < 10 ^ l.length := by
  have h := valN_lt l
  unfold numS
  split
  · have : ((valN l : Nat) : Int) < ((10 ^ l.length : Nat) : Int) := by exact_mod_cast h
    rw [Int.natCast_pow] at this
    exact ⟨by omega, this⟩
  · exact ⟨by omega, by have : (0 : Int) < 10 ^ l.length := Int.pow_pos (by decide)
                        omega⟩
theorem mid_list {α : Type} (a b c : List α) (k t : Nat) (ha : a.length = k) (hb : k + b.length = t) : ((a ++ b ++ c).take t).drop k = b := by
  subst ha hb
  rw [List.append_assoc, List.take_length_add_append, List.drop_append_of_le_length (by simp)]
  simp
theorem mid_bytes (s : ByteArray) (a b c : List UInt8) (k t : Nat) (hs : s.data.toList = a ++ b ++ c) (ha : a.length = k) (hb : k + b.length = t) : (s.extract k t).data.toList = b := by
  rw [extract_list, hs]
  exact mid_list a b c k t ha hb
end Go.Proofs.YtffjpidjhcnnmabDoor
