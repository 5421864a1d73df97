/-
  Plain functions of chapter 2: what is read of a date's text. No Go in sight.
-/
import Derived.Test.YtffjpidjhcnnmabDoorMT
namespace Go.Proofs.YtffjpidjhcnnmabDoor
set_option linter.unusedVariables false
set_option linter.unusedSimpArgs false
open Go.RowKit

def monGo (s : ByteArray) : Nat → Nat
  | 0 => 0
  | n + 1 => if eqB (monB (12 - n)) s = true then 12 - n else monGo s n
/-- The month of that name; 0 if there is none. -/
def monOf (s : ByteArray) : Nat := monGo s 12
theorem monGo_yes {s : ByteArray} {k : Nat} (h0 : 1 ≤ k) (h1 : k ≤ 12) (h : eqB (monB k) s = true) : monGo s (13 - k) = k := by
  rw [show 13 - k = (12 - k) + 1 by omega, monGo, show 12 - (12 - k) = k by omega, if_pos h]
theorem monGo_no {s : ByteArray} {k : Nat} (h0 : 1 ≤ k) (h1 : k ≤ 12) (h : eqB (monB k) s = false) : monGo s (13 - k) = monGo s (13 - (k + 1)) := by
  rw [show 13 - k = (12 - k) + 1 by omega, monGo, show 12 - (12 - k) = k by omega, if_neg (by rw [h]; decide), show 13 - (k + 1) = 12 - k by omega]
theorem monGo_le (s : ByteArray) (n : Nat) : monGo s n ≤ 12 := by
  induction n with
  | zero => simp [monGo]
  | succ n ih => rw [monGo]; split <;> omega
theorem monOf_le (s : ByteArray) : monOf s ≤ 12 := monGo_le s 12
theorem monL_inj : ∀ j, j < 13 → ∀ m, m < 13 → monL j = monL m → j = m := by decide
theorem monB_inj {j m : Nat} (hj : j ≤ 12) (hm : m ≤ 12) (h : monB j = monB m) : j = m := by
  have h1 : (monB j).data.toList = (monB m).data.toList := by rw [h]
  exact monL_inj j (by omega) m (by omega) h1
theorem monGo_mon {m : Nat} (h1 : m ≤ 12) : ∀ n k, k + n = m → 1 ≤ k → monGo (monB m) (13 - k) = m
  | 0, k, h, h0 => by
    obtain rfl : k = m := by omega
    exact monGo_yes h0 h1 (eqB_self _)
  | n + 1, k, h, h0 => by
    rw [monGo_no h0 (by omega) (Bool.eq_false_iff.2 fun hh => by have := monB_inj (by omega) h1 (eqB_iff.1 hh); omega)]
    exact monGo_mon h1 n (k + 1) (by omega) (by omega)
theorem monOf_mon {m : Nat} (h0 : 1 ≤ m) (h1 : m ≤ 12) : monOf (monB m) = m := monGo_mon h1 (m - 1) 1 (by omega) (by omega)
def nval (s : ByteArray) : Nat := valN s.data.toList
theorem nval_lt (s : ByteArray) (p : Nat) (h : s.size ≤ p) : nval s < 10 ^ p := by
  have h1 := valN_lt s.data.toList
  rw [len_data] at h1
  exact Nat.lt_of_lt_of_le h1 (Nat.pow_le_pow_right (by decide) h)
theorem nval_4 (s : ByteArray) (h : s.size ≤ 4) : nval s < 10000 := nval_lt s 4 h
theorem nval_2 (s : ByteArray) (h : s.size ≤ 2) : nval s < 100 := nval_lt s 2 h
theorem ext_size (s : ByteArray) (a b : Nat) (h : a ≤ b) (hb : b ≤ s.size) : (s.extract a b).size = b - a := by
  rw [ByteArray.size_extract]; omega
/-- What the program takes a text's parts for. -/
def yOf (two : Nat) : Nat := if two ≤ 69 then 2000 + two else 1900 + two
theorem nval_dig {s : ByteArray} {n p : Nat} (h : s.data.toList = digL n p) (hn : n < 10 ^ p) : nval s = n := by unfold nval; rw [h, valN_dig n p hn]
theorem nval_mod {s : ByteArray} {n p : Nat} (h : s.data.toList = digL n p) : nval s = n % 10 ^ p := by unfold nval; rw [h, valN_digL]
end Go.Proofs.YtffjpidjhcnnmabDoor
