/-
  Chapter 7: a path in its one form, on lists. No Go in sight.
-/
import Derived.Test.YtefhpjipcdmbaabGreatDoorMSg
import Derived.Test.YtefhpjipcdmbaabGreatDoorM3
import Derived.Test.YtefhpjipcdmbaabGreatDoorM6
import Derived.Test.YtefhpjipcdmbaabGreatDoorMA0
namespace Go.Proofs.YtefhpjipcdmbaabGreatDoor
set_option linter.unusedVariables false
set_option linter.unusedSimpArgs false
open Go.RowKit
def opnL : List UInt8 := [45, 46, 95, 126]
/-- A byte that stands for itself everywhere. -/
def opnP (n : Int) : Bool := letP n || digP n || inL opnL n
def opn8 (b : UInt8) : Bool := opnP (b.toNat : Int)
def hexP (b : UInt8) : Bool := decide (0 ≤ hex8 b)
/-- The byte that two digits name. -/
def nam8 (b c : UInt8) : UInt8 := UInt8.ofNat (hex8 b * 16 + hex8 c).toNat
def up8 (b : UInt8) : UInt8 := if 97 ≤ b.toNat ∧ b.toNat ≤ 122 then b - 32 else b
def pctP (b c : UInt8) : List UInt8 := if opn8 (nam8 b c) = true then [nam8 b c] else [37, up8 b, up8 c]
/-- What % stands for, where it may. -/
def evL : List UInt8 → List UInt8
  | [] => []
  | [a] => [a]
  | [a, b] => [a, b]
  | a :: b :: c :: r => if a = 37 ∧ hexP b = true ∧ hexP c = true then pctP b c ++ evL r else a :: evL (b :: c :: r)
theorem evL_hit {b c : UInt8} {r : List UInt8} (hb : hexP b = true) (hc : hexP c = true) : evL (37 :: b :: c :: r) = pctP b c ++ evL r := by
  rw [evL, if_pos ⟨rfl, hb, hc⟩]
theorem evL_miss {a : UInt8} {r : List UInt8} (h : ¬ (a = 37 ∧ ∃ b c q, r = b :: c :: q ∧ hexP b = true ∧ hexP c = true)) : evL (a :: r) = a :: evL r := by
  match r with
  | [] => rfl
  | [b] => rfl
  | b :: c :: q => rw [evL, if_neg (fun hh => h ⟨hh.1, b, c, q, rfl, hh.2.1, hh.2.2⟩)]
theorem pctP_len (b c : UInt8) : (pctP b c).length ≤ 3 := by unfold pctP; split <;> simp
theorem evL_len : ∀ (n : Nat) (l : List UInt8), l.length ≤ n → (evL l).length ≤ l.length
  | _, [], _ => Nat.le_refl _
  | _, [_], _ => Nat.le_refl _
  | _, [_, _], _ => Nat.le_refl _
  | 0, _ :: _ :: _ :: _, h => by simp at h
  | n + 1, a :: b :: c :: r, h => by
    rw [evL]
    split
    · have h1 := pctP_len b c
      have h2 := evL_len n r (by simp at h; omega)
      rw [List.length_append]; simp; omega
    · have h2 := evL_len n (b :: c :: r) (by simp at h ⊢; omega)
      rw [List.length_cons, List.length_cons (a := a)]; omega
/-- Do the bytes from i on begin with a % and two digits? -/
def hexAt (s : ByteArray) (i : Nat) : Bool := decide (i + 3 ≤ s.size) && (at8 s i == 37) && hexP (at8 s (i + 1)) && hexP (at8 s (i + 2))
theorem drop_at8 {s : ByteArray} {i : Nat} (h : i < s.size) : s.data.toList.drop i = at8 s i :: s.data.toList.drop (i + 1) := by
  have hl : i < s.data.toList.length := by rw [len_data]; exact h
  rw [List.drop_eq_getElem_cons hl]
  congr 1
  unfold at8
  rw [List.getD, List.getElem?_eq_getElem hl]; rfl
theorem hexAt_iff {s : ByteArray} {i : Nat} : hexAt s i = true ↔ i + 3 ≤ s.size ∧ at8 s i = 37 ∧ hexP (at8 s (i + 1)) = true ∧ hexP (at8 s (i + 2)) = true := by
  unfold hexAt
  simp [and_assoc]
theorem evL_at {s : ByteArray} {i : Nat} (h : hexAt s i = true) : evL (s.data.toList.drop i) = pctP (at8 s (i + 1)) (at8 s (i + 2)) ++ evL (s.data.toList.drop (i + 3)) := by
  obtain ⟨h1, h2, h3, h4⟩ := hexAt_iff.1 h
  rw [drop_at8 (i := i) (by omega), drop_at8 (i := i + 1) (by omega), drop_at8 (i := i + 1 + 1) (by omega), h2]
  exact evL_hit h3 h4
theorem evL_on {s : ByteArray} {i : Nat} (hi : i < s.size) (h : hexAt s i = false) : evL (s.data.toList.drop i) = at8 s i :: evL (s.data.toList.drop (i + 1)) := by
  rw [drop_at8 hi]
  refine evL_miss ?_
  rintro ⟨h1, b, c, q, hq, hb, hc⟩
  have hlen := congrArg List.length hq
  simp at hlen
  have hsz : i + 3 ≤ s.size := by have := len_data s; simp at this; omega
  rw [drop_at8 (i := i + 1) (by omega), drop_at8 (i := i + 1 + 1) (by omega)] at hq
  injection hq with e1 e2
  injection e2 with e2 _
  rw [← e1] at hb
  rw [← e2] at hc
  rw [hexAt_iff.2 ⟨hsz, h1, hb, hc⟩] at h
  cases h
/-- What the first bytes of s become, and how many they are. -/
def evP (s : ByteArray) : ByteArray := if hexAt s 0 = true then ⟨(pctP (at8 s 1) (at8 s 2)).toArray⟩ else s.extract 0 1
def evN (s : ByteArray) : Nat := if hexAt s 0 = true then 3 else 1
def evB (s : ByteArray) : ByteArray := ⟨(evL s.data.toList).toArray⟩
theorem evB_size (s : ByteArray) : (evB s).size ≤ s.size := by
  have h := evL_len s.data.toList.length s.data.toList (Nat.le_refl _)
  rw [len_data] at h
  show (evL s.data.toList).toArray.size ≤ _
  simpa using h
theorem evN_le {s : ByteArray} (h : 0 < s.size) : evN s ≤ s.size := by
  unfold evN
  split
  · rename_i h1; have := (hexAt_iff.1 h1).1; omega
  · omega
theorem evN_pos (s : ByteArray) : 1 ≤ evN s := by unfold evN; split <;> omega
theorem evP_size (s : ByteArray) : (evP s).size ≤ 3 := by
  unfold evP
  split
  · show (pctP _ _).toArray.size ≤ 3
    simpa using pctP_len _ _
  · rw [ByteArray.size_extract]; omega
theorem evB_step {s : ByteArray} (h : 0 < s.size) : evB s = evP s ++ evB (s.extract (evN s) s.size) := by
  apply bytes_ext
  rw [Go.Joins.data_append]
  show evL s.data.toList = _ ++ evL (s.extract (evN s) s.size).data.toList
  have e : (s.extract (evN s) s.size).data.toList = s.data.toList.drop (evN s) := by
    rw [Lib.extract_data]
    exact List.take_of_length_le (by rw [List.length_drop, len_data]; omega)
  rw [e]
  unfold evP evN
  split
  · rename_i h1
    have := evL_at h1
    rw [List.drop_zero] at this
    exact this
  · rename_i h1
    have h2 := evL_on h (by simpa using h1)
    rw [List.drop_zero] at h2
    rw [h2, Lib.extract_data]
    have := drop_at8 h
    rw [List.drop_zero] at this
    rw [List.drop_zero, this]
    rfl
/-- The pieces that stay. -/
def dd : ByteArray := ⟨#[46, 46]⟩
def d1 : ByteArray := ⟨#[46]⟩
def dotQ (x : ByteArray) : Bool := eqB x d1 || eqB x dd
def keepS (k : List ByteArray) (x : ByteArray) : List ByteArray := if eqB x dd = true then k.dropLast else if eqB x d1 = true then k else k ++ [x]
def keepL (l : List ByteArray) : List ByteArray := l.foldl keepS []
def lastDot (l : List ByteArray) : Bool := match l.getLast? with | some x => dotQ x | none => false
def keptL (l : List ByteArray) : List ByteArray := if lastDot l = true then keepL l ++ [⟨#[]⟩] else keepL l
theorem keepL_snoc (l : List ByteArray) (x : ByteArray) : keepL (l ++ [x]) = keepS (keepL l) x := by simp [keepL]
theorem keepL_take {l : List ByteArray} {k : Nat} (h : k < l.length) : keepL (l.take (k + 1)) = keepS (keepL (l.take k)) l[k] := by
  rw [List.take_succ_eq_append_getElem h, keepL_snoc]
theorem lastDot_take {l : List ByteArray} {k : Nat} (h : k < l.length) : lastDot (l.take (k + 1)) = dotQ l[k] := by
  rw [List.take_succ_eq_append_getElem h]
  unfold lastDot
  rw [List.getLast?_append]
  rfl
theorem keepS_le (k : List ByteArray) (x : ByteArray) : (keepS k x).length ≤ k.length + 1 ∧ sumS (keepS k x) ≤ sumS k + x.size := by
  have hd : sumS k.dropLast ≤ sumS k := by
    rcases List.eq_nil_or_concat k with rfl | ⟨q, y, rfl⟩
    · exact Nat.le_refl _
    · simp [sumS]
  unfold keepS
  split
  · rw [List.length_dropLast]; omega
  · split
    · omega
    · simp [sumS]
theorem keepL_le (l : List ByteArray) : (keepL l).length ≤ l.length ∧ sumS (keepL l) ≤ sumS l := by
  refine snoc_ind (p := fun l => (keepL l).length ≤ l.length ∧ sumS (keepL l) ≤ sumS l) ?_ ?_ l
  · exact ⟨Nat.le_refl _, Nat.le_refl _⟩
  · intro q x ih
    rw [keepL_snoc]
    have h := keepS_le (keepL q) x
    have e : sumS (q ++ [x]) = sumS q + x.size := by simp [sumS]
    rw [List.length_append, List.length_singleton, e]
    omega
/-- A path in its one form. -/
def clnL (l : List ByteArray) : ByteArray := if l = [] then ⟨#[47]⟩ else ⟨(tailS 47 l).toArray⟩
def nof8 (b : UInt8) : Bool := b != 35 && b != 63
def pthQ (p : ByteArray) : Bool := targQ p && (at8 p 0 == 47) && allB nof8 p
def clnB (p : ByteArray) : ByteArray := if pthQ p = true then clnL (keptL (splS 47 (evB (p.extract 1 p.size)))) else ⟨#[]⟩
end Go.Proofs.YtefhpjipcdmbaabGreatDoor
