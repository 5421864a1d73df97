/-
  Chapter 6: a body in chunks, on lists. No Go in sight.
-/
import Derived.Test.YtaelopjalfapgacDoorWH2
import Derived.Lib.SmallJoins
import Derived.Lib.AppendStr
namespace Go.Proofs.YtaelopjalfapgacDoor
set_option linter.unusedVariables false
set_option linter.unusedSimpArgs false
open Go.RowKit
theorem bytes_ext2 {a b : ByteArray} (h : a.data.toList = b.data.toList) : a = b := by
  cases a; cases b; congr 1; exact Array.toList_inj.1 h
/-- A chunk of so many bytes at p, and its bytes. -/
def partB (b : ByteArray) (p n : Nat) : ByteArray := b.extract p (min (p + n) b.size)
def oneC (x : ByteArray) : ByteArray := hexT (x.size : Int) ++ ⟨#[13, 10]⟩ ++ x ++ ⟨#[13, 10]⟩
/-- The first j chunks. -/
def chkP (b : ByteArray) (n : Nat) : Nat → ByteArray
  | 0 => ⟨#[]⟩
  | j + 1 => chkP b n j ++ oneC (partB b (j * n) n)
def chkB (b : ByteArray) (n : Int) : ByteArray := if b.size ≤ 600 ∧ 1 ≤ n ∧ n ≤ 600 then chkP b n.toNat ((b.size + n.toNat - 1) / n.toNat) ++ oneC ⟨#[]⟩ else ⟨#[]⟩
theorem partB_size {b : ByteArray} {p n : Nat} (hp : p < b.size) : (partB b p n).size = min (p + n) b.size - p := by
  unfold partB; rw [ByteArray.size_extract]; omega
theorem hexT_size {n : Int} (h0 : 0 ≤ n) (h1 : n ≤ 268435455) : (hexT n).size ≤ 7 := by
  unfold hexT; rw [if_pos ⟨h0, h1⟩]; exact hexB_size _ (by omega)
theorem size_app (a b : ByteArray) : (a ++ b).size = a.size + b.size := by
  have : (a ++ b).data.toList = a.data.toList ++ b.data.toList := Go.Joins.data_append a b
  rw [← len_data, this, List.length_append, len_data, len_data]
theorem oneC_size {x : ByteArray} (h : x.size ≤ 600) : (oneC x).size ≤ 611 := by
  have h1 := hexT_size (n := (x.size : Int)) (by omega) (by omega)
  unfold oneC
  rw [size_app, size_app, size_app]
  show _ + 2 + _ + 2 ≤ _
  omega
theorem partB_small {b : ByteArray} {p n : Nat} (hb : b.size ≤ 600) : (partB b p n).size ≤ 600 := by
  unfold partB; rw [ByteArray.size_extract]; omega
theorem chkP_size {b : ByteArray} {n : Nat} (hb : b.size ≤ 600) : ∀ j, (chkP b n j).size ≤ j * 611
  | 0 => Nat.le_refl _
  | j + 1 => by
    have h1 := chkP_size (n := n) hb j
    have h2 := oneC_size (partB_small (p := j * n) (n := n) hb)
    show (chkP b n j ++ oneC (partB b (j * n) n)).size ≤ _
    rw [size_app]; omega
theorem rounds_eq {s n j p : Nat} (hn : 1 ≤ n) (hp : p = j * n) (h1 : s ≤ p) (h2 : j = 0 ∨ p < s + n) : (s + n - 1) / n = j := by
  rcases h2 with h2 | h2
  · subst h2
    have : s = 0 := by omega
    subst this
    rw [Nat.div_eq_of_lt (by omega)]
  · apply Nat.div_eq_of_lt_le
    · omega
    · rw [Nat.succ_mul]; omega
theorem chkB_no {b : ByteArray} {n : Int} (h : ¬ (b.size ≤ 600 ∧ 1 ≤ n ∧ n ≤ 600)) : chkB b n = ⟨#[]⟩ := by unfold chkB; rw [if_neg h]
theorem chkB_yes {b : ByteArray} {n j p : Nat} (hb : b.size ≤ 600) (h1 : 1 ≤ n) (h2 : n ≤ 600) (hp : p = j * n) (h3 : b.size ≤ p) (h4 : j = 0 ∨ p < b.size + n) : chkB b (n : Int) = chkP b n j ++ oneC ⟨#[]⟩ := by
  unfold chkB
  rw [if_pos ⟨hb, by omega, by omega⟩, Int.toNat_natCast, rounds_eq h1 hp h3 h4]
theorem oneC_nil : oneC ⟨#[]⟩ = ⟨#[48, 13, 10, 13, 10]⟩ := by kernel_rfl
theorem rounds_few {n j p s : Nat} (hn : 1 ≤ n) (hp : p = j * n) (hs : s ≤ 600) (h : j = 0 ∨ p < s + n) : j ≤ 600 := by
  rcases h with h | h
  · omega
  · rcases Nat.lt_or_ge 600 j with h1 | h1
    · exfalso
      have h2 : 601 * n ≤ j * n := Nat.mul_le_mul_right n h1
      have h3 : 601 * n = 600 * n + n := by omega
      have h4 : 600 * 1 ≤ 600 * n := Nat.mul_le_mul_left 600 hn
      omega
    · exact h1
end Go.Proofs.YtaelopjalfapgacDoor
