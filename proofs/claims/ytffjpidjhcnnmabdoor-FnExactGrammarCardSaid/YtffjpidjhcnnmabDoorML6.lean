/-
  Where a line ends, on lists. No Go in sight.
-/
import Derived.Test.YtffjpidjhcnnmabDoorM9
namespace Go.Proofs.YtffjpidjhcnnmabDoor
set_option linter.unusedVariables false
set_option linter.unusedSimpArgs false
open Go.RowKit
def lineAt (s : ByteArray) (k : Nat) : ByteArray := s.extract k (tlE s k)
theorem tlC_range (s : ByteArray) (k : Nat) : tlC s k = 0 ∨ tlC s k = 1 ∨ tlC s k = 2 := by
  unfold tlC
  split
  · simp
  · split
    · simp
    · split
      · simp
      · split <;> simp
theorem tlE_le {s : ByteArray} {k : Nat} (hk : k ≤ s.size) : tlE s k ≤ s.size := eolLen_le s k hk
theorem tlE_ge (s : ByteArray) (k : Nat) : k ≤ tlE s k := Nat.le_add_right _ _
theorem tlE_ok {s : ByteArray} {k : Nat} (hk : k ≤ s.size) (h : tlC s k = 0) : tlE s k + 2 ≤ s.size := by
  have h1 := tlE_le hk
  unfold tlC at h
  split at h
  · cases h
  · split at h
    · cases h
    · split at h
      · cases h
      · omega
theorem lineAt_size {s : ByteArray} {k : Nat} (hk : k ≤ s.size) : (lineAt s k).size = tlE s k - k := by
  have h1 := tlE_le hk
  unfold lineAt
  rw [ByteArray.size_extract]
  omega
theorem tlV_not {s : ByteArray} {k : Nat} (h : tlC s k ≠ 0) : ∃ c : Int, (c != 0) = true ∧ tlV s k = .tuple #[.string ⟨#[]⟩, curZ, .int .i64 c] := by
  rcases tlC_range s k with h1 | h1 | h1
  · exact absurd h1 h
  · exact ⟨1, rfl, tlV_short h1⟩
  · exact ⟨2, rfl, tlV_bad h1⟩
theorem lenE_nil {s : ByteArray} {k : Nat} (hk : k ≤ s.size) : (lineAt s k).toList.isEmpty = decide (tlE s k = k) := by
  have hz := lineAt_size hk
  have hg := tlE_ge s k
  have hl : (lineAt s k).toList.length = tlE s k - k := by rw [ByteArray.toList_eq, len_data, hz]
  cases h : (lineAt s k).toList with
  | nil => rw [h] at hl; simp at hl; simp; omega
  | cons a r => rw [h] at hl; simp at hl; simp; omega
end Go.Proofs.YtffjpidjhcnnmabDoor
