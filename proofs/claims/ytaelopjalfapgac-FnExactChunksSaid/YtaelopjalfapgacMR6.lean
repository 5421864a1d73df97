/-
  Chapter 6: what is read, on lists. No Go in sight.
-/
import Derived.Test.YtaelopjalfapgacMF
import Derived.Test.YtaelopjalfapgacF5
import Derived.Test.YtaelopjalfapgacM9
namespace Go.Proofs.Ytaelopjalfapgac
set_option linter.unusedVariables false
set_option linter.unusedSimpArgs false
open Go.RowKit
/-- The code of a head's line at k, its text and the place behind it. -/
def hlC (s : ByteArray) (k : Nat) : Int := if tlC s k = 0 then (if 300 < tlE s k - k ∨ 1500 < tlE s k + 2 then 431 else 0) else 400
def lineAt (s : ByteArray) (k : Nat) : ByteArray := s.extract k (tlE s k)
theorem tlC_range (s : ByteArray) (k : Nat) : tlC s k = 0 ∨ tlC s k = 1 ∨ tlC s k = 2 := by
  unfold tlC
  split
  · simp
  · split
    · simp
    · split
      · simp
      · split <;> simp
theorem tlE_le {s : ByteArray} {k : Nat} (hk : k ≤ s.size) : tlE s k ≤ s.size := eolLen_le s k hk
theorem tlE_ge (s : ByteArray) (k : Nat) : k ≤ tlE s k := Nat.le_add_right _ _
theorem tlE_ok {s : ByteArray} {k : Nat} (hk : k ≤ s.size) (h : tlC s k = 0) : tlE s k + 2 ≤ s.size := by
  have h1 := tlE_le hk
  unfold tlC at h
  split at h
  · cases h
  · split at h
    · cases h
    · split at h
      · cases h
      · omega
theorem lineAt_size {s : ByteArray} {k : Nat} (hk : k ≤ s.size) : (lineAt s k).size = tlE s k - k := by
  have h1 := tlE_le hk
  unfold lineAt
  rw [ByteArray.size_extract]
  omega
theorem hlC_bad {s : ByteArray} {k : Nat} (h : tlC s k ≠ 0) : hlC s k = 400 := by unfold hlC; rw [if_neg h]
theorem hlC_zero {s : ByteArray} {k : Nat} (h : hlC s k = 0) : tlC s k = 0 ∧ tlE s k - k ≤ 300 ∧ tlE s k + 2 ≤ 1500 := by
  unfold hlC at h
  split at h
  · rename_i h1
    split at h
    · cases h
    · rename_i h2
      exact ⟨h1, by omega, by omega⟩
  · cases h
theorem tlV_not {s : ByteArray} {k : Nat} (h : tlC s k ≠ 0) : ∃ c : Int, (c != 0) = true ∧ tlV s k = .tuple #[.string ⟨#[]⟩, curZ, .int .i64 c] := by
  rcases tlC_range s k with h1 | h1 | h1
  · exact absurd h1 h
  · exact ⟨1, rfl, tlV_short h1⟩
  · exact ⟨2, rfl, tlV_bad h1⟩
end Go.Proofs.Ytaelopjalfapgac
