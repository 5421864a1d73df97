/-
  The walks over chapter 3: Sha1 (impl).
-/
import Derived.Test.YtknpolmenfdheaaD13
namespace Go.Proofs.Ytknpolmenfdheaa
set_option linter.unusedVariables false
set_option linter.unusedSimpArgs false
open Go.RowKit
set_option maxHeartbeats 1000000 in
theorem Sha1_any (s : ByteArray) (w : World) (hs : s.size ≤ 999999999999999) :
    Calls Try.prog 10 #[.string s] w fun e w' => e = .returned (.string (sha1B s)) ∧ Below w.heap.size w w' := by
  go_enter Try.func10, Try.ntmps10
  go_wp2_with fail
  refine (ShaNew_any _).mono ?_
  rintro e w1 ⟨b1, rfl, hle1, hr1, hb1⟩
  go_wp2_with fail
  have hA := ShaAdd_any b1 5 h0L ⟨#[]⟩ s 0 w1 hr1 h0_five rfl (by omega)
  rw [show ((0 : Nat) : Int) = 0 from rfl, show (⟨#[]⟩ : ByteArray).data.toList ++ s.data.toList = s.data.toList from rfl, Nat.zero_add] at hA
  refine hA.mono ?_
  rintro e w2 ⟨b2, rfl, hle2, hr2, hb2⟩
  clear hA
  go_wp2_with fail
  refine (ShaEnd_any b2 5 (inH h0L s.data.toList) ⟨(inR s.data.toList).toArray⟩ s.size _ hr2 (inH_five h0_five _) (by show (inR s.data.toList).toArray.size = _; rw [List.size_toArray, inR_len, len_data]) (by omega)).mono ?_
  rintro e w3 ⟨rfl, hb3⟩
  go_wp2
  go_ret
  refine ⟨ret_str ?_, below_then (below_then hb1 hb2) hb3⟩
  unfold sha1B sha1L
  rw [len_data]
end Go.Proofs.Ytknpolmenfdheaa
