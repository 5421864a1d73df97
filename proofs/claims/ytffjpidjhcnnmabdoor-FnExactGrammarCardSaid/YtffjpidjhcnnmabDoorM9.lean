/-
  Plain functions of chapter 1: cursors. No Go in sight.
-/
import Derived.Test.YtffjpidjhcnnmabDoorM2
namespace Go.Proofs.YtffjpidjhcnnmabDoor
set_option linter.unusedVariables false
set_option linter.unusedSimpArgs false
open Go.RowKit
def curV (s : ByteArray) (n : Int) : Value := .agg #[.string s, .int .i64 n]
def curOk (s : ByteArray) (n : Int) : Bool := decide (0 ≤ n) && decide (n ≤ (s.size : Int))
theorem curOk_iff {s : ByteArray} {n : Int} : curOk s n = true ↔ 0 ≤ n ∧ n ≤ (s.size : Int) := by unfold curOk; simp
theorem curOk_neg {s : ByteArray} {n : Int} (h : ¬ 0 ≤ n) : curOk s n = false := by simp [curOk, h]
theorem curOk_pos {s : ByteArray} {n : Int} (h : 0 ≤ n) : curOk s n = decide (n ≤ (s.size : Int)) := by simp [curOk, h]
def eolP (n : Int) : Bool := n == 13 || n == 10
def eol8 (b : UInt8) : Bool := eolP (b.toNat : Int)
/-- How many bytes stand ahead of the first 13 or 10 from k on. -/
def eolLen (s : ByteArray) (k : Nat) : Nat := ((s.data.toList.drop k).takeWhile fun b => !eol8 b).length
theorem takeWhile_len {α : Type} (p : α → Bool) : ∀ (l : List α) (m : Nat), m ≤ l.length → (∀ j (h : j < l.length), j < m → p l[j] = true) → (m = l.length ∨ ∃ h : m < l.length, p l[m] = false) → (l.takeWhile p).length = m
  | [], m, hm, _, _ => by simp at hm ⊢; omega
  | a :: l, 0, _, _, hend => by
    rcases hend with h | ⟨h, hp⟩
    · simp at h
    · simp at hp
      simp [hp]
  | a :: l, m + 1, hm, hall, hend => by
    have ha : p a = true := hall 0 (by simp) (by omega)
    rw [List.takeWhile_cons_of_pos ha, List.length_cons]
    congr 1
    refine takeWhile_len p l m (by simpa using hm) (fun j h hj => hall (j + 1) (by simpa using h) (by omega)) ?_
    rcases hend with h | ⟨h, hp⟩
    · left; simpa using h
    · right; exact ⟨by simpa using h, hp⟩
theorem eolLen_of (s : ByteArray) (k m : Nat) (hkm : k + m ≤ s.size) (hall : ∀ j, j < m → eol8 (at8 s (k + j)) = false) (hend : k + m = s.size ∨ eol8 (at8 s (k + m)) = true) : eolLen s k = m := by
  unfold eolLen
  have hl : (s.data.toList.drop k).length = s.size - k := by rw [List.length_drop, len_data]
  have hg : ∀ j (h : j < (s.data.toList.drop k).length), (s.data.toList.drop k)[j] = at8 s (k + j) := by
    intro j h
    have h' : k + j < s.data.toList.length := by rw [List.length_drop] at h; omega
    rw [List.getElem_drop]
    simp [at8, List.getD, List.getElem?_eq_getElem h']
  refine takeWhile_len _ _ m (by omega) (fun j h hj => by rw [hg j h, hall j hj]; rfl) ?_
  rcases hend with h | h
  · left; omega
  · by_cases e : k + m = s.size
    · left; omega
    · right; exact ⟨by omega, by rw [hg m (by omega), h]; rfl⟩
theorem eolLen_le (s : ByteArray) (k : Nat) (hk : k ≤ s.size) : k + eolLen s k ≤ s.size := by
  unfold eolLen
  have h1 := (List.takeWhile_sublist (l := s.data.toList.drop k) fun b => !eol8 b).length_le
  rw [List.length_drop, len_data] at h1
  omega
theorem eolP_iff {n : Int} : eolP n = true ↔ n = 13 ∨ n = 10 := by unfold eolP; simp
theorem eolP_no {n : Int} : eolP n = false ↔ n ≠ 13 ∧ n ≠ 10 := by unfold eolP; simp

/-- What TakeLine answers at a cursor that stands in its text: the line, the cursor's text and place, the code. -/
def tlE (s : ByteArray) (k : Nat) : Nat := k + eolLen s k
def tlC (s : ByteArray) (k : Nat) : Int := if tlE s k = s.size then 1 else if (at8 s (tlE s k)).toNat = 10 then 2 else if tlE s k + 1 = s.size then 1 else if (at8 s (tlE s k + 1)).toNat = 10 then 0 else 2
def tlL (s : ByteArray) (k : Nat) : ByteArray := if tlC s k = 0 then s.extract k (tlE s k) else ⟨#[]⟩
def tlS (s : ByteArray) (k : Nat) : ByteArray := if tlC s k = 0 then s else ⟨#[]⟩
def tlN (s : ByteArray) (k : Nat) : Int := if tlC s k = 0 then (tlE s k : Int) + 2 else 0
def curZ : Value := .agg #[.string ⟨#[]⟩, .int .i64 0]
def tlV (s : ByteArray) (k : Nat) : Value := .tuple #[.string (tlL s k), .agg #[.string (tlS s k), .int .i64 (tlN s k)], .int .i64 (tlC s k)]
theorem tlV_short0 {s : ByteArray} {k : Nat} (h : tlE s k = s.size) : tlV s k = .tuple #[.string ⟨#[]⟩, curZ, .int .i64 1] := by
  have : tlC s k = 1 := by unfold tlC; rw [if_pos h]
  simp [tlV, tlL, tlS, tlN, this, curZ]
theorem tlV_bad {s : ByteArray} {k : Nat} (h : tlC s k = 2) : tlV s k = .tuple #[.string ⟨#[]⟩, curZ, .int .i64 2] := by
  simp [tlV, tlL, tlS, tlN, h, curZ]
theorem tlV_short {s : ByteArray} {k : Nat} (h : tlC s k = 1) : tlV s k = .tuple #[.string ⟨#[]⟩, curZ, .int .i64 1] := by
  simp [tlV, tlL, tlS, tlN, h, curZ]
theorem tlV_ok {s : ByteArray} {k : Nat} (h : tlC s k = 0) : tlV s k = .tuple #[.string (s.extract k (tlE s k)), .agg #[.string s, .int .i64 ((tlE s k : Int) + 2)], .int .i64 0] := by
  simp [tlV, tlL, tlS, tlN, h]
theorem tlC_10 {s : ByteArray} {k : Nat} (h : tlE s k < s.size) (h1 : (at8 s (tlE s k)).toNat = 10) : tlC s k = 2 := by
  unfold tlC; rw [if_neg (by omega), if_pos h1]
theorem tlC_13end {s : ByteArray} {k : Nat} (h : tlE s k + 1 = s.size) (h1 : (at8 s (tlE s k)).toNat ≠ 10) : tlC s k = 1 := by
  unfold tlC; rw [if_neg (by omega), if_neg h1, if_pos h]
theorem tlC_ok {s : ByteArray} {k : Nat} (h : tlE s k + 1 < s.size) (h1 : (at8 s (tlE s k)).toNat ≠ 10) (h2 : (at8 s (tlE s k + 1)).toNat = 10) : tlC s k = 0 := by
  unfold tlC; rw [if_neg (by omega), if_neg h1, if_neg (by omega), if_pos h2]
theorem tlC_no {s : ByteArray} {k : Nat} (h : tlE s k + 1 < s.size) (h1 : (at8 s (tlE s k)).toNat ≠ 10) (h2 : (at8 s (tlE s k + 1)).toNat ≠ 10) : tlC s k = 2 := by
  unfold tlC; rw [if_neg (by omega), if_neg h1, if_neg (by omega), if_neg h2]
end Go.Proofs.YtffjpidjhcnnmabDoor
