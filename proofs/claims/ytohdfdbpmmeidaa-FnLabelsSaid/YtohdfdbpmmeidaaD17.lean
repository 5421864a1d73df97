/-
  The walks over chapter 3: Label, ReadLabel (both).
-/
import Derived.Test.YtohdfdbpmmeidaaD13b
import Derived.Test.YtohdfdbpmmeidaaW15
namespace Go.Proofs.Ytohdfdbpmmeidaa
set_option linter.unusedVariables false
set_option linter.unusedSimpArgs false
open Go.RowKit
/-- The five bytes ahead of the letters. -/
def lab5 : ByteArray := ⟨#[115, 104, 97, 49, 58]⟩
def labB (s : ByteArray) : ByteArray := lab5 ++ b32B (sha1B s)
theorem b32_20 (s : ByteArray) (h : s.size = 20) : (b32B s).size = 32 := by
  unfold b32B
  rw [if_pos (by omega)]
  show (b32L s (nFives s.size)).toArray.size = 32
  rw [List.size_toArray, b32L_len, h]
  rfl
set_option maxHeartbeats 1000000 in
theorem Label_any (s : ByteArray) (w : World) (hs : s.size ≤ 999999999999999) :
    Calls Try.prog 25 #[.string s] w fun e w' => e = .returned (.string (labB s)) ∧ Below w.heap.size w w' := by
  have h32 := b32_20 _ (sha1B_size s)
  have hle : (b32B (sha1B s)).size ≤ 32 := by omega
  have h20 : (sha1B s).size ≤ maxLen := by rw [sha1B_size]; unfold maxLen; omega
  have HL : Hid (labB s = lab5 ++ b32B (sha1B s)) := rfl
  clear h32
  go_enter Try.func25, Try.ntmps25
  go_wp2_with fail
  refine (Sha1_any s _ hs).mono ?_
  rintro e w1 ⟨rfl, hb1⟩
  go_wp2_with fail
  refine (Base32_any _ _ h20).mono ?_
  rintro e w2 ⟨rfl, hb2⟩
  generalize b32B (sha1B s) = x at *
  go_wp2
  go_ret
  exact ⟨ret_str HL.out, below_then hb1 hb2⟩
end Go.Proofs.Ytohdfdbpmmeidaa
