/-
  Plain functions of chapter 1: texts come back from their letters, and letters from their text. No Go in sight.
-/
import Derived.Test.YtohdfdbpmmeidaaM11
namespace Go.Proofs.Ytohdfdbpmmeidaa
set_option linter.unusedVariables false
set_option linter.unusedSimpArgs false
open Go.RowKit
theorem letters_fin : ∀ v : Fin 32, isL (let5 v.val) = true ∧ lv5 (let5 v.val) = v.val := by decide +kernel
theorem bytes_fin : ∀ b : Fin 256, isL (UInt8.ofNat b.val) = true → let5 (lv5 (UInt8.ofNat b.val)) = UInt8.ofNat b.val := by decide +kernel
theorem let5_v5 {b : UInt8} (h : isL b = true) : let5 (lv5 b) = b := by
  have := bytes_fin ⟨b.toNat, b.toNat_lt⟩
  simp only [UInt8.ofNat_toNat] at this
  exact this h
theorem at8_of (l : List UInt8) (j : Nat) : at8 ⟨l.toArray⟩ j = l.getD j 0 := rfl
theorem out5_at (s : ByteArray) (m j : Nat) (h : j < m) : (out5 s m).getD j 0 = UInt8.ofNat (accL s (8 * j) 8) := by simp [out5, List.getD, h]
theorem b32L_at (s : ByteArray) (n j : Nat) (h : j < n) : (b32L s n).getD j 0 = let5 (five s j) := by simp [b32L, List.getD, h]
theorem accL_bit (s : ByteArray) (p i n : Nat) (h : i < n) : accL s p n / 2 ^ (n - 1 - i) % 2 = bit5 s (p + i) := by
  have e : n = (i + 1) + (n - 1 - i) := by omega
  have := accL_hi s p (i + 1) (n - 1 - i)
  rw [← e] at this
  rw [this, accL]
  have := bit5_lt s (p + i)
  omega
theorem acc_bit (s : ByteArray) (p i n : Nat) (h : i < n) : acc s p n / 2 ^ (n - 1 - i) % 2 = bit8 s (p + i) := by
  have e : n = (i + 1) + (n - 1 - i) := by omega
  have := acc_hi s p (i + 1) (n - 1 - i)
  rw [← e] at this
  rw [this, acc]
  have := bit8_lt s (p + i)
  omega
theorem accL_zero {s : ByteArray} {p n : Nat} (h : accL s p n = 0) (i : Nat) (hi : i < n) : bit5 s (p + i) = 0 := by
  rw [← accL_bit s p i n hi, h]; simp
theorem acc_same {s t : ByteArray} {p n : Nat} (h : ∀ k, k < p + n → bit8 s k = bit5 t k) : acc s p n = accL t p n := by
  induction n with
  | zero => rfl
  | succ n ih => rw [acc, accL, ih (fun k hk => h k (by omega)), h (p + n) (by omega)]
/-- The bits of the text that the letters make. -/
theorem bit8_out (s : ByteArray) (m k : Nat) (h : k < 8 * m) : bit8 ⟨(out5 s m).toArray⟩ k = bit5 s k := by
  obtain ⟨j, i, hk, hi⟩ : ∃ j i, k = 8 * j + i ∧ i < 8 := ⟨k / 8, k % 8, by omega, by omega⟩
  have hj : j < m := by omega
  rw [hk, bit8_at _ j i hi, at8_of, out5_at s m j hj]
  have hlt : accL s (8 * j) 8 < 256 := by simpa using accL_lt s (8 * j) 8
  have e : (UInt8.ofNat (accL s (8 * j) 8)).toNat = accL s (8 * j) 8 := by rw [UInt8.toNat_ofNat']; omega
  rw [e]
  exact accL_bit s (8 * j) i 8 hi
/-- The bits of the letters that a text makes. -/
theorem bit5_b32 (s : ByteArray) (n k : Nat) (h : k < 5 * n) : bit5 ⟨(b32L s n).toArray⟩ k = bit8 s k := by
  obtain ⟨j, i, hk, hi⟩ : ∃ j i, k = 5 * j + i ∧ i < 5 := ⟨k / 5, k % 5, by omega, by omega⟩
  have hj : j < n := by omega
  rw [hk, bit5_at _ j i hi, at8_of, b32L_at s n j hj, (letters_fin ⟨five s j, five_lt s j⟩).2]
  exact acc_bit s (5 * j) i 5 hi
theorem rb_b32 {s : ByteArray} (hs : s.size ≤ 4000) : rbOk (b32B s) = true ∧ rbB (b32B s) = s := by
  rw [b32_small hs]
  have hsz : (ByteArray.mk (b32L s (nFives s.size)).toArray).size = nFives s.size := by show (b32L s (nFives s.size)).toArray.size = _; simp [b32L_len]
  have hb := fun k (h : k < 5 * nFives s.size) => (bit5_b32 s (nFives s.size) k h).symm
  have hat : ∀ j, j < nFives s.size → at8 ⟨(b32L s (nFives s.size)).toArray⟩ j = let5 (five s j) := fun j hj => by rw [at8_of, b32L_at _ _ _ hj]
  generalize ht : ByteArray.mk (b32L s (nFives s.size)).toArray = t at *
  have hn : nFives s.size = (8 * s.size + 4) / 5 := rfl
  have e1 : 5 * t.size / 8 = s.size := by omega
  have e2 : 5 * t.size % 8 = 5 * nFives s.size - 8 * s.size := by omega
  have hok : rbOk t = true := by
    refine rb_yes (by omega) (fun j hj => ?_) (by omega) ?_
    · rw [hat j (by omega)]; exact (letters_fin ⟨five s j, five_lt s j⟩).1
    · rw [e1, e2, ← acc_same (s := s) (fun k hk => hb k (by omega))]
      exact acc_end s _ _ (Nat.le_refl _)
  refine ⟨hok, ?_⟩
  unfold rbB
  rw [if_pos hok, e1]
  apply bytes_ext
  show out5 t s.size = s.data.toList
  apply List.ext_getElem
  · rw [out5_len, len_data]
  · intro j h1 h2
    rw [out5_len] at h1
    have h3 := out5_at t s.size j h1
    have h4 : (out5 t s.size).getD j 0 = (out5 t s.size)[j] := by simp [List.getD, List.getElem?_eq_getElem, out5_len, h1]
    have h5 : s.data.toList[j] = at8 s j := by simp [at8, List.getD, List.getElem?_eq_getElem h2]
    rw [← h4, h3, h5, ← acc_same (s := s) (fun k hk => hb k (by omega)), acc_byte8]
    simp
theorem b32_rb {t : ByteArray} (h : rbOk t = true) : b32B (rbB t) = t := by
  have hr : rbB t = ⟨(out5 t (5 * t.size / 8)).toArray⟩ := by unfold rbB; rw [if_pos h]
  unfold rbOk at h
  simp only [Bool.and_eq_true, decide_eq_true_iff, List.all_eq_true] at h
  obtain ⟨⟨⟨h1, h2⟩, h3⟩, h4⟩ := h
  rw [hr]
  have hsz : (ByteArray.mk (out5 t (5 * t.size / 8)).toArray).size = 5 * t.size / 8 := by show (out5 t (5 * t.size / 8)).toArray.size = _; simp [out5_len]
  have hb1 := fun k (h : k < 8 * (5 * t.size / 8)) => bit8_out t (5 * t.size / 8) k h
  generalize ByteArray.mk (out5 t (5 * t.size / 8)).toArray = r at *
  have hb : ∀ k, k < 5 * t.size → bit8 r k = bit5 t k := by
    intro k hk
    by_cases hk8 : k < 8 * (5 * t.size / 8)
    · exact hb1 k hk8
    · rw [bit8_end r k (by omega)]
      have := accL_zero h4 (k - 8 * (5 * t.size / 8)) (by omega)
      rw [show 8 * (5 * t.size / 8) + (k - 8 * (5 * t.size / 8)) = k from by omega] at this
      rw [this]
  have hn : nFives r.size = t.size := by unfold nFives; omega
  rw [b32_small (by omega), hn]
  apply bytes_ext
  show b32L r t.size = t.data.toList
  apply List.ext_getElem
  · rw [b32L_len, len_data]
  · intro j g1 g2
    rw [b32L_len] at g1
    have g3 := b32L_at r t.size j g1
    have g4 : (b32L r t.size).getD j 0 = (b32L r t.size)[j] := by simp [List.getD, List.getElem?_eq_getElem, b32L_len, g1]
    have g5 : t.data.toList[j] = at8 t j := by simp [at8, List.getD, List.getElem?_eq_getElem g2]
    have g6 : isL (at8 t j) = true := by rw [← g5]; exact h2 _ (List.getElem_mem g2)
    rw [← g4, g3, g5]
    unfold five
    rw [acc_same (t := t) (fun k hk => hb k (by omega)), accL_five, let5_v5 g6]
end Go.Proofs.Ytohdfdbpmmeidaa
