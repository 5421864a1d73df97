/-
  FnStreams: what the four calls answer when a text comes in by two pieces.
-/
import Derived.Test.YtknpolmenfdheaaD20
namespace Go.Proofs.Ytknpolmenfdheaa
set_option linter.unusedVariables false
set_option linter.unusedSimpArgs false
open Go.RowKit
theorem cut_two (s : ByteArray) (k : Nat) (hk : k ≤ s.size) : (s.extract 0 k).data.toList ++ (s.extract k s.size).data.toList = s.data.toList := by
  simp only [ByteArray.data_extract, Array.toList_extract, List.extract]
  simp only [List.drop_zero, Nat.sub_zero]
  have : (s.data.toList.drop k).take (s.size - k) = s.data.toList.drop k := by
    apply List.take_of_length_le
    rw [List.length_drop, Array.length_toList]
    exact Nat.le_refl _
  rw [this, List.take_append_drop]
/-- What the four calls answer, the digest's parts by name. -/
theorem streams_all (s : ByteArray) (q : Nat) (hq : q ≤ s.size) (hs : s.size ≤ 200) : ∃ (R1 R2 : ByteArray) (H1 H2 : List Nat),
    (∀ b W, RowN W b h0L → Calls Try.prog 7 #[shaV b 5 5 ⟨#[]⟩ 0, .string (s.extract 0 q)] W fun e w' => ∃ g, e = .returned (shaV g 5 5 R1 (q : Int)) ∧ W.heap.size ≤ g ∧ RowN w' g H1 ∧ Below W.heap.size W w') ∧
    (∀ b W, RowN W b H1 → Calls Try.prog 7 #[shaV b 5 5 R1 (q : Int), .string (s.extract q s.size)] W fun e w' => ∃ g, e = .returned (shaV g 5 5 R2 (s.size : Int)) ∧ W.heap.size ≤ g ∧ RowN w' g H2 ∧ Below W.heap.size W w') ∧
    (∀ b W, RowN W b H2 → Calls Try.prog 9 #[shaV b 5 5 R2 (s.size : Int)] W fun e w' => e = .returned (.string (sha1B s)) ∧ Below W.heap.size W w') ∧
    (∀ b W, RowN W b H2 → Calls Try.prog 12 #[shaV b 5 5 R2 (s.size : Int)] W fun e w' => e = .returned (.bool true) ∧ Below W.heap.size W w') := by
  have z1 : (s.extract 0 q).size = q := by simp [ByteArray.size_extract]; omega
  have z2 : (s.extract q s.size).size = s.size - q := by simp [ByteArray.size_extract]
  have l1 : (s.extract 0 q).data.toList.length = q := by rw [len_data, z1]
  have hcut := cut_two s q hq
  generalize s.extract 0 q = s1 at *
  generalize s.extract q s.size = s2 at *
  have e1 : (⟨#[]⟩ : ByteArray).data.toList ++ s1.data.toList = s1.data.toList := rfl
  have hf1 : Five (inH h0L s1.data.toList) := inH_five h0_five _
  have hf2 : Five (inH h0L s.data.toList) := inH_five h0_five _
  have k1 : (⟨(inR s1.data.toList).toArray⟩ : ByteArray).size = q % 64 := by show (inR s1.data.toList).toArray.size = _; rw [List.size_toArray, inR_len, l1]
  have k2 : (⟨(inR s.data.toList).toArray⟩ : ByteArray).size = s.size % 64 := by show (inR s.data.toList).toArray.size = _; rw [List.size_toArray, inR_len, len_data]
  refine ⟨⟨(inR s1.data.toList).toArray⟩, ⟨(inR s.data.toList).toArray⟩, inH h0L s1.data.toList, inH h0L s.data.toList, ?_, ?_, ?_, ?_⟩
  · intro b W hr
    have h := ShaAdd_any b 5 h0L ⟨#[]⟩ s1 0 W hr h0_five rfl (by omega)
    rw [e1, Nat.zero_add, z1] at h
    exact h
  · intro b W hr
    have h := ShaAdd_any b 5 (inH h0L s1.data.toList) ⟨(inR s1.data.toList).toArray⟩ s2 q W hr hf1 k1 (by omega)
    rw [show (⟨(inR s1.data.toList).toArray⟩ : ByteArray).data.toList = inR s1.data.toList from rfl, inH_app, inR_app, hcut, z2, show q + (s.size - q) = s.size by omega] at h
    exact h
  · intro b W hr
    refine (ShaEnd_any b 5 (inH h0L s.data.toList) ⟨(inR s.data.toList).toArray⟩ s.size W hr hf2 k2 (by omega)).mono ?_
    rintro e w' ⟨rfl, hb⟩
    refine ⟨ret_str ?_, hb⟩
    unfold sha1B sha1L
    rw [len_data]
  · intro b W hr
    refine (ShaOk_any b 5 5 (nz (inH h0L s.data.toList)) ⟨(inR s.data.toList).toArray⟩ (s.size : Int) W hr.z (by unfold nz; rw [List.length_map]; exact hf2.1) (by unfold maxLen; decide) (by rw [k2]; unfold maxLen; omega)).mono ?_
    rintro e w' ⟨rfl, hb⟩
    rw [show shaQ (nz (inH h0L s.data.toList)) (⟨(inR s.data.toList).toArray⟩ : ByteArray).size (s.size : Int) = true from shaQ_iff.2 ⟨fiveZ_of hf2, ⟨by omega, by omega⟩, by rw [k2]; omega⟩]
    exact ⟨rfl, hb⟩
end Go.Proofs.Ytknpolmenfdheaa
