/-
  The walks over chapter 3: ReadLabel (both).
-/
import Derived.Test.YtohdfdbpmmeidaaW16
namespace Go.Proofs.Ytohdfdbpmmeidaa
set_option linter.unusedVariables false
set_option linter.unusedSimpArgs false
open Go.RowKit
/-- Does it begin as a label does? -/
def lq (s : ByteArray) : Bool := (s.extract 0 5).toList == [115, 104, 97, 49, 58]
def rlV (s : ByteArray) : Value := if s.size = 37 ∧ lq s = true then .tuple #[.string (rbB (s.extract 5 s.size)), .bool (rbOk (s.extract 5 s.size))] else .tuple #[.string ⟨#[]⟩, .bool false]
theorem hideB2' {p : Prop} (h : p) : Hid p := h
theorem rlV_no {s : ByteArray} (h : s.size ≠ 37 ∨ lq s = false) : rlV s = .tuple #[.string ⟨#[]⟩, .bool false] := by
  unfold rlV
  rw [if_neg]
  rintro ⟨h1, h2⟩
  rcases h with h | h
  · exact h h1
  · rw [h] at h2; cases h2
theorem rlV_yes {s : ByteArray} (h : s.size = 37) (h2 : lq s = true) : rlV s = .tuple #[.string (rbB (s.extract 5 s.size)), .bool (rbOk (s.extract 5 s.size))] := by
  unfold rlV
  rw [if_pos ⟨h, h2⟩]
set_option maxHeartbeats 1000000 in
theorem ReadLabel_any (s : ByteArray) (w : World) (hs : s.size ≤ maxLen) :
    Calls Try.prog 24 #[.string s] w fun e w' => e = .returned (rlV s) ∧ Below w.heap.size w w' := by
  have hs' := hs
  unfold maxLen at hs'
  by_cases h37 : s.size = 37
  · have hne : ((s.size : Int) != 37) = false := by rw [bne_eq_false_iff_eq]; omega
    have h1 : 37 ≤ s.size := by omega
    have h2 : s.size ≤ 37 := by omega
    cases h5 : lq s with
    | false =>
      rw [rlV_no (.inr h5)]
      unfold lq at h5
      clear h37
      go_enter Try.func24, Try.ntmps24
      go_wp2
      go_ret2
      exact ⟨rfl, Below.refl _ _⟩
    | true =>
      have HV := hideB2' (rlV_yes h37 h5)
      unfold lq at h5
      have hx : (s.extract 5 s.size).size ≤ maxLen := by rw [ByteArray.size_extract]; unfold maxLen; omega
      clear h37
      go_enter Try.func24, Try.ntmps24
      go_wp2_with fail
      refine (ReadBase32_any _ _ hx).mono ?_
      rintro e w1 ⟨rfl, hb1⟩
      go_wp2
      go_ret2
      exact ⟨by rw [HV.out]; rfl, hb1⟩
  · rw [rlV_no (.inl h37)]
    have hne : ((s.size : Int) != 37) = true := by rw [bne_iff_ne]; omega
    go_enter Try.func24, Try.ntmps24
    go_wp2
    go_ret2
    exact ⟨rfl, Below.refl _ _⟩
end Go.Proofs.Ytohdfdbpmmeidaa
