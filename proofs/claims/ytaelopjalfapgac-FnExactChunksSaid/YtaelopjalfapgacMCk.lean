/-
  Chapter 6: a body out of its chunks, on lists. No Go in sight.
-/
import Derived.Test.YtaelopjalfapgacMR6
import Derived.Test.YtaelopjalfapgacF5s
import Derived.Test.YtaelopjalfapgacM6
import Derived.Test.YtaelopjalfapgacW11
namespace Go.Proofs.Ytaelopjalfapgac
set_option linter.unusedVariables false
set_option linter.unusedSimpArgs false
open Go.RowKit
/-- A line of a chunked body may be taken. -/
def lnQ (s : ByteArray) (k : Nat) : Bool := decide (tlC s k = 0) && decide (tlE s k - k ≤ 300)
theorem lnQ_iff {s : ByteArray} {k : Nat} : lnQ s k = true ↔ tlC s k = 0 ∧ tlE s k - k ≤ 300 := by unfold lnQ; simp
/-- What stands ahead of the first ';'. -/
def uptoS (s : ByteArray) : ByteArray := if idxS s = -1 then s else s.extract 0 (idxS s).toNat
theorem uptoS_none {s : ByteArray} (h : idxS s = -1) : uptoS s = s := by unfold uptoS; rw [if_pos h]
theorem uptoS_some {s : ByteArray} {i : Nat} (h : idxS s = (i : Int)) : uptoS s = s.extract 0 i := by
  unfold uptoS; rw [if_neg (by omega), h, Int.toNat_natCast]
theorem uptoS_size (s : ByteArray) : (uptoS s).size ≤ s.size := by
  unfold uptoS
  split
  · exact Nat.le_refl _
  · rw [ByteArray.size_extract]; omega
/-- Where the lines behind the last chunk end. -/
def trE (s : ByteArray) : Nat → Nat → Option Nat
  | 0, _ => none
  | n + 1, k => if lnQ s k = true then (if tlE s k = k then some (k + 2) else if readO (lineAt s k) = true then trE s n (tlE s k + 2) else none) else none
/-- So many bytes stand at p, and CRLF behind them. -/
def datQ (s : ByteArray) (p z : Nat) : Bool := decide (p + z + 2 ≤ s.size) && eqB (s.extract (p + z) (p + z + 2)) ⟨#[13, 10]⟩
def ckR (s : ByteArray) : Nat → Nat → ByteArray → Except Int ByteArray
  | 0, _, _ => .error 400
  | n + 1, k, body =>
    if lnQ s k = false then .error 400
    else if rhexOk (uptoS (lineAt s k)) = false then .error 400
    else if 600 < (body.size : Int) + rhexN (uptoS (lineAt s k)) then .error 413
    else if rhexN (uptoS (lineAt s k)) = 0 then (if trE s 21 (tlE s k + 2) = some s.size then .ok body else .error 400)
    else if datQ s (tlE s k + 2) (rhexN (uptoS (lineAt s k))).toNat = true then ckR s n (tlE s k + 2 + (rhexN (uptoS (lineAt s k))).toNat + 2) (body ++ s.extract (tlE s k + 2) (tlE s k + 2 + (rhexN (uptoS (lineAt s k))).toNat))
    else .error 400
def ckX (s : ByteArray) : Except Int ByteArray := ckR s 601 0 ⟨#[]⟩
def exB : Except Int ByteArray → ByteArray
  | .ok b => b
  | .error _ => ⟨#[]⟩
def exC {α : Type} : Except Int α → Int
  | .ok _ => 0
  | .error c => c
theorem ck_bad1 {s : ByteArray} {n k : Nat} {body : ByteArray} (h : lnQ s k = false) : ckR s (n + 1) k body = .error 400 := by
  rw [ckR, if_pos h]
theorem ck_bad2 {s : ByteArray} {n k : Nat} {body : ByteArray} (h0 : lnQ s k = true) (h : rhexOk (uptoS (lineAt s k)) = false) : ckR s (n + 1) k body = .error 400 := by
  rw [ckR, if_neg (by rw [h0]; simp), if_pos h]
theorem ck_bad3 {s : ByteArray} {n k : Nat} {body : ByteArray} (h0 : lnQ s k = true) (h1 : rhexOk (uptoS (lineAt s k)) = true) (h : 600 < (body.size : Int) + rhexN (uptoS (lineAt s k))) : ckR s (n + 1) k body = .error 413 := by
  rw [ckR, if_neg (by rw [h0]; simp), if_neg (by rw [h1]; simp), if_pos h]
theorem ck_end {s : ByteArray} {n k : Nat} {body : ByteArray} (h0 : lnQ s k = true) (h1 : rhexOk (uptoS (lineAt s k)) = true) (h2 : ¬ 600 < (body.size : Int) + rhexN (uptoS (lineAt s k))) (h : rhexN (uptoS (lineAt s k)) = 0) : ckR s (n + 1) k body = if trE s 21 (tlE s k + 2) = some s.size then .ok body else .error 400 := by
  rw [ckR, if_neg (by rw [h0]; simp), if_neg (by rw [h1]; simp), if_neg h2, if_pos h]
theorem ck_bad4 {s : ByteArray} {n k z : Nat} {body : ByteArray} (h0 : lnQ s k = true) (h1 : rhexOk (uptoS (lineAt s k)) = true) (h2 : ¬ 600 < (body.size : Int) + rhexN (uptoS (lineAt s k))) (hz : rhexN (uptoS (lineAt s k)) = (z : Int)) (h3 : z ≠ 0) (h : datQ s (tlE s k + 2) z = false) : ckR s (n + 1) k body = .error 400 := by
  rw [ckR, if_neg (by rw [h0]; simp), if_neg (by rw [h1]; simp), if_neg h2, if_neg (by rw [hz]; omega), hz, Int.toNat_natCast, if_neg (by rw [h]; simp)]
theorem ck_next {s : ByteArray} {n k z : Nat} {body : ByteArray} (h0 : lnQ s k = true) (h1 : rhexOk (uptoS (lineAt s k)) = true) (h2 : ¬ 600 < (body.size : Int) + rhexN (uptoS (lineAt s k))) (hz : rhexN (uptoS (lineAt s k)) = (z : Int)) (h3 : z ≠ 0) (h : datQ s (tlE s k + 2) z = true) : ckR s (n + 1) k body = ckR s n (tlE s k + 2 + z + 2) (body ++ s.extract (tlE s k + 2) (tlE s k + 2 + z)) := by
  rw [ckR, if_neg (by rw [h0]; simp), if_neg (by rw [h1]; simp), if_neg h2, if_neg (by rw [hz]; omega), hz, Int.toNat_natCast, if_pos h]
theorem trE_bad {s : ByteArray} {n k : Nat} (h : lnQ s k = false) : trE s (n + 1) k = none := by rw [trE, if_neg (by rw [h]; simp)]
theorem trE_end {s : ByteArray} {n k : Nat} (h : lnQ s k = true) (h1 : tlE s k = k) : trE s (n + 1) k = some (k + 2) := by rw [trE, if_pos h, if_pos h1]
theorem trE_no {s : ByteArray} {n k : Nat} (h : lnQ s k = true) (h1 : tlE s k ≠ k) (h2 : readO (lineAt s k) = false) : trE s (n + 1) k = none := by rw [trE, if_pos h, if_neg h1, if_neg (by rw [h2]; simp)]
theorem trE_next {s : ByteArray} {n k : Nat} (h : lnQ s k = true) (h1 : tlE s k ≠ k) (h2 : readO (lineAt s k) = true) : trE s (n + 1) k = trE s n (tlE s k + 2) := by rw [trE, if_pos h, if_neg h1, if_pos h2]
theorem lnQ_no {s : ByteArray} {k : Nat} (h : tlC s k ≠ 0) : lnQ s k = false := by unfold lnQ; simp [h]
theorem rhexN_bd (s : ByteArray) : 0 ≤ rhexN s ∧ rhexN s ≤ 268435455 := by
  unfold rhexN
  split
  · rename_i h
    unfold rhexOk at h
    rw [Bool.and_eq_true, Bool.and_eq_true, decide_eq_true_eq, decide_eq_true_eq] at h
    have h1 := hval_bd _ h.2
    have h2 : s.data.toList.length ≤ 7 := by rw [len_data]; exact h.1.2
    have h3 : (16 : Int) ^ s.data.toList.length ≤ 16 ^ 7 := by
      have : (16 : Nat) ^ s.data.toList.length ≤ 16 ^ 7 := Nat.pow_le_pow_right (by decide) h2
      exact_mod_cast this
    have h4 : (16 : Int) ^ 7 = 268435456 := by decide
    omega
  · omega
theorem lenE_nil {s : ByteArray} {k : Nat} (hk : k ≤ s.size) : (lineAt s k).toList.isEmpty = decide (tlE s k = k) := by
  have hz := lineAt_size hk
  have hg := tlE_ge s k
  have hl : (lineAt s k).toList.length = tlE s k - k := by rw [ByteArray.toList_eq, len_data, hz]
  cases h : (lineAt s k).toList with
  | nil => rw [h] at hl; simp at hl; simp; omega
  | cons a r => rw [h] at hl; simp at hl; simp; omega
end Go.Proofs.Ytaelopjalfapgac
