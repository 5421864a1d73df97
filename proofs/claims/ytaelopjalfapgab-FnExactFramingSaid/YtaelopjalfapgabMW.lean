/-
  How many elements a list can have.
-/
import Derived.Test.YtaelopjalfapgabME
namespace Go.Proofs.Ytaelopjalfapgab
set_option linter.unusedVariables false
set_option linter.unusedSimpArgs false
open Go.RowKit
theorem elG_len : ∀ (l : List UInt8) (q : Nat) (cur : List UInt8), (elG q cur l).length ≤ l.length + 1
  | [], q, cur => by rw [elG_nil]; simp
  | b :: r, 0, cur => by
    rw [elG]; split
    · have := elG_len r 0 []; simp; omega
    · have := elG_len r (if b = 34 then 1 else 0) (cur ++ [b]); simp; omega
  | b :: r, 1, cur => by
    rw [elG]
    have := elG_len r (if b = 34 then 0 else if b = 92 then 2 else 1) (cur ++ [b]); simp; omega
  | b :: r, n + 2, cur => by
    rw [elG]
    · have := elG_len r 1 (cur ++ [b]); simp; omega
    · omega
    · omega
theorem elsB_len (s : ByteArray) : (elsB s).length ≤ 4001 := by
  unfold elsB
  split
  · rename_i h
    have h1 := cleanP_len (elG 0 [] s.data.toList)
    have h2 := elG_len s.data.toList 0 []
    rw [len_data] at h2
    omega
  · simp
end Go.Proofs.Ytaelopjalfapgab
