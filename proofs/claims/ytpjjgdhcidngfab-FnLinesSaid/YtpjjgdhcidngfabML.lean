/-
  Plain functions of chapter 1: lines that are taken back one by one. No Go in sight. And: the code that a law is handed, as a reader wants it.
-/
import Derived.Test.YtpjjgdhcidngfabM9
import Derived.Test.YtpjjgdhcidngfabM4
import Derived.Test.YtpjjgdhcidngfabW11
import Derived.Test.YtpjjgdhcidngfabOpen
import Derived.Lib.SmallJoins
namespace Go.Proofs.Ytpjjgdhcidngfab
set_option linter.unusedVariables false
set_option linter.unusedSimpArgs false
open Go.ChangeShapes Go.WideShapes Go.ChangeAt Go.RowKit

def lineL (L : List ByteArray) : List UInt8 := L.flatMap fun x => x.data.toList ++ [13, 10]
theorem lineL_snoc (L : List ByteArray) (x : ByteArray) : lineL (L ++ [x]) = lineL L ++ (x.data.toList ++ [13, 10]) := by simp [lineL]
def cleanB (x : ByteArray) : Prop := ∀ b ∈ x.data.toList, eol8 b = false
theorem dig_fin : ∀ d : Fin 10, eol8 (UInt8.ofNat (48 + d.val)) = false := by decide +kernel
theorem digits_clean (u : Nat) : ∀ b ∈ Lib.decDigits u, eol8 b = false := by
  induction u using Nat.strongRecOn with
  | _ u ih =>
    intro b hb
    by_cases h : u < 10
    · rw [Lib.decDigits, dif_pos h] at hb
      simp only [List.mem_singleton] at hb
      rw [hb]; exact dig_fin ⟨u, h⟩
    · rw [Lib.decDigits, dif_neg h] at hb
      rcases List.mem_append.1 hb with h1 | h1
      · exact ih (u / 10) (by omega) b h1
      · simp only [List.mem_singleton] at h1
        rw [h1]; exact dig_fin ⟨u % 10, by omega⟩
theorem dec_clean (u : Nat) : cleanB (decB u) := digits_clean u
theorem none_clean : cleanB ⟨#[]⟩ := fun b hb => by cases hb
theorem getD_right (A B : List UInt8) (j : Nat) : (A ++ B).getD (A.length + j) 0 = B.getD j 0 := by
  rw [List.getD, List.getD, List.getElem?_append_right (by omega), Nat.add_sub_cancel_left]
theorem mid (A B : List UInt8) (n : Nat) : ((A ++ B).take (A.length + n)).drop A.length = B.take n := by
  rw [List.take_append, List.take_of_length_le (by omega), Nat.add_sub_cancel_left, List.drop_left]
theorem tl_line (T : ByteArray) (A x R : List UInt8) (hT : T.data.toList = A ++ ((x ++ [13, 10]) ++ R)) (hx : ∀ b ∈ x, eol8 b = false) :
    tlV T A.length = .tuple #[.string ⟨x.toArray⟩, .agg #[.string T, .int .i64 ((A.length + x.length + 2 : Nat) : Int)], .int .i64 0] := by
  have hsz : T.size = A.length + (x.length + 2 + R.length) := by rw [← len_data, hT]; simp; omega
  have hat : ∀ j, at8 T (A.length + j) = ((x ++ [13, 10]) ++ R).getD j 0 := by intro j; unfold at8; rw [hT]; exact getD_right A _ j
  have h13 : at8 T (A.length + x.length) = 13 := by rw [hat]; simp [List.getD]
  have h10 : at8 T (A.length + x.length + 1) = 10 := by rw [Nat.add_assoc, hat]; simp [List.getD]
  have he : eolLen T A.length = x.length := by
    refine eolLen_of T A.length x.length (by omega) ?_ (Or.inr (by rw [h13]; decide))
    intro j hj
    rw [hat]
    have : ((x ++ [13, 10]) ++ R).getD j 0 = x[j] := by
      simp [List.getD, List.getElem?_append_left, hj]
    rw [this]
    exact hx _ (List.getElem_mem hj)
  have hE : tlE T A.length = A.length + x.length := by unfold tlE; rw [he]
  rw [tlV_ok (tlC_ok (by rw [hE]; omega) (by rw [hE, h13]; decide) (by rw [hE, h10]; decide)), hE]
  have hX : T.extract A.length (A.length + x.length) = ⟨x.toArray⟩ := by
    apply bytes_ext
    rw [extract_list, hT, mid, List.append_assoc, List.take_left]
  rw [hX]
  congr 1
theorem tl_end (T : ByteArray) (A : List UInt8) (hT : T.data.toList = A ++ [101, 110, 100]) : tlV T A.length = .tuple #[.string ⟨#[]⟩, curZ, .int .i64 1] := by
  have hsz : T.size = A.length + 3 := by rw [← len_data, hT]; simp
  have hat : ∀ j, at8 T (A.length + j) = ([101, 110, 100] : List UInt8).getD j 0 := by intro j; unfold at8; rw [hT]; exact getD_right A _ j
  apply tlV_short0
  unfold tlE
  rw [eolLen_of T A.length 3 (by omega) ?_ (Or.inl (by omega)), hsz]
  intro j hj
  rw [hat]
  match j, hj with
  | 0, _ => decide
  | 1, _ => decide
  | 2, _ => decide
theorem tn_end (T : ByteArray) (A : List UInt8) (hT : T.data.toList = A ++ [101, 110, 100]) : tnV T (A.length : Int) 3 = .tuple #[.string ⟨#[101, 110, 100]⟩, .agg #[.string T, .int .i64 ((A.length : Int) + 3)], .bool true] := by
  have hsz : T.size = A.length + 3 := by rw [← len_data, hT]; simp
  have h := tnV_yes (s := T) (k := A.length) (m := 3) (by omega)
  have hX : T.extract A.length (A.length + 3) = ⟨#[101, 110, 100]⟩ := by
    apply bytes_ext
    rw [extract_list, hT, mid]; rfl
  rw [hX] at h
  exact h

/-- The code: a row of bytes that lies there from the start. -/
def CRow (w : World) (a : Option Addr) (len : Nat) : Prop := len = 0 ∨ ∃ b off, a = some ⟨b, off, none⟩ ∧ b < w.heap.size ∧ ∀ i, i < len → ∃ z : Nat, z < 256 ∧ w.cell? ⟨b, off + i, none⟩ = some (.int .u8 (z : Int))
theorem CRow.later {w w' : World} {a : Option Addr} {len : Nat} (h : CRow w a len) (hb : Below w.heap.size w w') : CRow w' a len := by
  rcases h with h | ⟨b, off, rfl, hlt, hc⟩
  · exact Or.inl h
  · refine Or.inr ⟨b, off, rfl, Nat.lt_of_lt_of_le hlt hb.size, fun i hi => ?_⟩
    obtain ⟨z, hz, hcz⟩ := hc i hi
    exact ⟨z, hz, (hb.cell (p := ⟨b, off + i, none⟩) hlt).trans hcz⟩
theorem crow_of {w : World} {a : Option Addr} {len cap : Nat} {zs : List Int} (h : IsRow .u8 w a len cap zs) : CRow w a len ∧ len ≤ maxLen := by
  rcases h with ⟨rfl, rfl, rfl, rfl⟩ | ⟨x, rfl, hl, hm, hz, hcell, hwf⟩
  · exact ⟨Or.inl rfl, by unfold maxLen; omega⟩
  · refine ⟨?_, Nat.le_trans hl hm⟩
    by_cases h0 : len = 0
    · exact Or.inl h0
    · right
      obtain ⟨b, off, spot⟩ := x
      have hc := hcell 0 (by omega)
      have hspot : spot = none := by simpa [Addr.add] using World.cell?_spot hc
      subst hspot
      refine ⟨b, off, rfl, ?_, fun i hi => ?_⟩
      · have := World.block_lt_of_cell? _ _ hc
        simpa [Addr.add] using this
      · have hci := hcell i (by omega)
        rw [Addr.add_lit] at hci
        have hmem : zs.getD i 0 ∈ zs := by
          have hi' : i < zs.length := by omega
          rw [List.getD, List.getElem?_eq_getElem hi']
          exact List.getElem_mem hi'
        have hb := bounds_u8 (hwf _ hmem)
        exact ⟨(zs.getD i 0).toNat, by omega, by rw [hci]; congr 2; omega⟩
end Go.Proofs.Ytpjjgdhcidngfab
