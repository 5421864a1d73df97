/-
  Digests on lists: the eighty words of a block, the rounds, blocks one after the other, the end. No Go in sight.
-/
import Derived.Test.YtenjbgpndkodmabMS1
namespace Go.Proofs.Ytenjbgpndkodmab
set_option linter.unusedVariables false
set_option linter.unusedSimpArgs false
open Go.RowKit

def byteAt (l : List UInt8) (k : Nat) : Nat := (l.getD k 0).toNat
theorem byteAt_lt (l : List UInt8) (k : Nat) : byteAt l k < 256 := (l.getD k 0).toNat_lt
/-- The first m bytes of word q, the highest first. -/
def beP (l : List UInt8) (q : Nat) : Nat → Nat
  | 0 => 0
  | m + 1 => beP l q m * 256 + byteAt l (4 * q + m)
def be4 (l : List UInt8) (q : Nat) : Nat := beP l q 4
theorem beP_lt (l : List UInt8) (q m : Nat) : beP l q m < 256 ^ m := by
  induction m with
  | zero => simp [beP]
  | succ m ih =>
    have := byteAt_lt l (4 * q + m)
    rw [beP, Nat.pow_succ]; omega
theorem be4_lt (l : List UInt8) (q : Nat) : be4 l q < 4294967296 := beP_lt l q 4

theorem map_range_set {α : Type} (n k : Nat) (f g : Nat → α) (v : α) (hk : g k = v) (ho : ∀ j, j ≠ k → g j = f j) : (List.range n).map g = ((List.range n).map f).set k v := by
  apply List.ext_getElem?
  intro j
  by_cases hj : j < n
  · by_cases e : j = k
    · subst e
      rw [List.getElem?_set_self (by simp [hj])]
      simp [hj, hk]
    · rw [List.getElem?_set_ne (Ne.symm e)]
      simp [hj, ho j e]
  · have h1 : ((List.range n).map g)[j]? = none := List.getElem?_eq_none (by simp; omega)
    have h2 : (((List.range n).map f).set k v)[j]? = none := List.getElem?_eq_none (by simp; omega)
    rw [h1, h2]
theorem map_range_getD {α : Type} (n k : Nat) (f : Nat → α) (z : α) (hk : k < n) : ((List.range n).map f).getD k z = f k := by
  simp [List.getD, hk]

/-- The eighty cells while the block's bytes go in, i of them so far. -/
def inRow (l : List UInt8) (i : Nat) : List Nat := (List.range 80).map fun q => beP l q (min 4 (i - 4 * q))
theorem inRow_len (l : List UInt8) (i : Nat) : (inRow l i).length = 80 := by simp [inRow]
theorem inRow_zero (l : List UInt8) : inRow l 0 = List.replicate 80 0 := by
  unfold inRow
  have : (fun q => beP l q (min 4 (0 - 4 * q))) = fun _ => 0 := by funext q; simp [beP]
  rw [this, List.map_const']
  simp
theorem inRow_at (l : List UInt8) (i : Nat) (hi : i < 64) : (inRow l i).getD (i / 4) 0 = beP l (i / 4) (i % 4) := by
  unfold inRow
  rw [map_range_getD 80 (i / 4) _ 0 (by omega), show min 4 (i - 4 * (i / 4)) = i % 4 by omega]
theorem inRow_succ (l : List UInt8) (i : Nat) (hi : i < 64) : inRow l (i + 1) = (inRow l i).set (i / 4) (beP l (i / 4) (i % 4) * 256 + byteAt l i) := by
  unfold inRow
  refine map_range_set 80 (i / 4) _ _ _ ?_ ?_
  · show beP l (i / 4) (min 4 (i + 1 - 4 * (i / 4))) = _
    rw [show min 4 (i + 1 - 4 * (i / 4)) = i % 4 + 1 by omega, beP, show 4 * (i / 4) + i % 4 = i by omega]
  · intro j hj
    show beP l j (min 4 (i + 1 - 4 * j)) = beP l j (min 4 (i - 4 * j))
    rw [show min 4 (i + 1 - 4 * j) = min 4 (i - 4 * j) by omega]

/-- Word t, given those ahead. -/
def nxt (l : List UInt8) (t : Nat) (L : List Nat) : Nat := if t < 16 then be4 l t else rotl (((L.getD (t - 3) 0 ^^^ L.getD (t - 8) 0) ^^^ L.getD (t - 14) 0) ^^^ L.getD (t - 16) 0) 1
def schL (l : List UInt8) : Nat → List Nat
  | 0 => []
  | t + 1 => schL l t ++ [nxt l t (schL l t)]
theorem schL_len (l : List UInt8) (t : Nat) : (schL l t).length = t := by
  induction t with
  | zero => rfl
  | succ t ih => rw [schL, List.length_append, ih]; rfl
theorem getD_lt {L : List Nat} {B : Nat} (hB : 0 < B) (h : ∀ x ∈ L, x < B) (j : Nat) : L.getD j 0 < B := by
  rcases Nat.lt_or_ge j L.length with hj | hj
  · rw [List.getD, List.getElem?_eq_getElem hj]
    exact h _ (List.getElem_mem hj)
  · rw [List.getD, List.getElem?_eq_none hj]
    exact hB
theorem nxt_lt (l : List UInt8) (t : Nat) (L : List Nat) (h : ∀ x ∈ L, x < 4294967296) : nxt l t L < 4294967296 := by
  unfold nxt
  split
  · exact be4_lt l t
  · have g := getD_lt (by decide) h
    exact rotl_lt _ _ (xor_lt32 (xor_lt32 (xor_lt32 (g _) (g _)) (g _)) (g _))
theorem schL_lt (l : List UInt8) (t : Nat) : ∀ x ∈ schL l t, x < 4294967296 := by
  induction t with
  | zero => intro x hx; cases hx
  | succ t ih =>
    intro x hx
    rw [schL, List.mem_append] at hx
    rcases hx with hx | hx
    · exact ih x hx
    · rw [List.mem_singleton] at hx; rw [hx]; exact nxt_lt l t _ ih
theorem schL_get (l : List UInt8) (t j : Nat) (h : j < t) : (schL l t).getD j 0 = nxt l j (schL l j) := by
  induction t with
  | zero => omega
  | succ t ih =>
    rw [schL]
    by_cases e : j < t
    · rw [List.getD, List.getElem?_append_left (by rw [schL_len]; exact e), ← List.getD, ih e]
    · obtain rfl : j = t := by omega
      rw [List.getD, List.getElem?_append_right (by rw [schL_len]; exact Nat.le_refl _), schL_len, Nat.sub_self]
      rfl
/-- The cells while the words are made, t of them so far. -/
def fillR (L : List Nat) (n : Nat) : List Nat := L ++ List.replicate (n - L.length) 0
theorem fillR_len (L : List Nat) (n : Nat) (h : L.length ≤ n) : (fillR L n).length = n := by simp [fillR]; omega
theorem fillR_set (L : List Nat) (n v : Nat) (h : L.length < n) : fillR (L ++ [v]) n = (fillR L n).set L.length v := by
  unfold fillR
  rw [List.set_append_right _ _ (Nat.le_refl _), Nat.sub_self, List.length_append, show n - L.length = (n - (L.length + 1)) + 1 by omega, List.replicate_succ]
  simp
theorem fillR_at (L : List Nat) (n j : Nat) (h : j < L.length) : (fillR L n).getD j 0 = L.getD j 0 := by
  unfold fillR
  rw [List.getD, List.getElem?_append_left h, List.getD]
theorem fillR_lt {L : List Nat} {n : Nat} (h : ∀ x ∈ L, x < 4294967296) : ∀ x ∈ fillR L n, x < 4294967296 := by
  intro x hx
  rw [fillR, List.mem_append] at hx
  rcases hx with hx | hx
  · exact h x hx
  · have := List.eq_of_mem_replicate hx; omega
theorem fillR_full (L : List Nat) : fillR L L.length = L := by simp [fillR]
theorem fillR_nil (n : Nat) : fillR [] n = List.replicate n 0 := by simp [fillR]
theorem inRow_full (l : List UInt8) : inRow l 64 = fillR (schL l 16) 80 := by
  apply List.ext_getElem?
  intro j
  unfold inRow fillR
  rw [schL_len]
  by_cases h80 : j < 80
  · have e1 : ((List.range 80).map fun q => beP l q (min 4 (64 - 4 * q)))[j]? = some (beP l j (min 4 (64 - 4 * j))) := by simp [h80]
    rw [e1]
    by_cases h16 : j < 16
    · rw [List.getElem?_append_left (by rw [schL_len]; exact h16)]
      have h := schL_get l 16 j h16
      have hl : j < (schL l 16).length := by rw [schL_len]; exact h16
      rw [List.getD, List.getElem?_eq_getElem hl, Option.getD_some] at h
      rw [List.getElem?_eq_getElem hl, h]
      unfold nxt be4
      rw [if_pos h16, show min 4 (64 - 4 * j) = 4 by omega]
    · rw [List.getElem?_append_right (by rw [schL_len]; omega), schL_len, List.getElem?_replicate, if_pos (by omega), show min 4 (64 - 4 * j) = 0 by omega]
      rfl
  · rw [List.getElem?_eq_none (by simp; omega), List.getElem?_eq_none (by rw [List.length_append, schL_len, List.length_replicate]; omega)]

/-- The five words on their way. -/
structure St where
  a : Nat
  b : Nat
  c : Nat
  d : Nat
  e : Nat
def St.ok (s : St) : Prop := s.a < 4294967296 ∧ s.b < 4294967296 ∧ s.c < 4294967296 ∧ s.d < 4294967296 ∧ s.e < 4294967296
def rnd (W : List Nat) (t : Nat) (s : St) : St := ⟨(rotl s.a 5 + fOf t s.b s.c s.d + s.e + W.getD t 0 + kOf t) % 4294967296, s.a, rotl s.b 30, s.c, s.d⟩
def rnds (W : List Nat) (s : St) : Nat → St
  | 0 => s
  | t + 1 => rnd W t (rnds W s t)
theorem rnd_ok {W : List Nat} {t : Nat} {s : St} (h : s.ok) : (rnd W t s).ok := by
  obtain ⟨h1, h2, h3, h4, h5⟩ := h
  exact ⟨Nat.mod_lt _ (by decide), h1, rotl_lt _ _ h2, h3, h4⟩
theorem rnds_ok {W : List Nat} {s : St} (h : s.ok) (t : Nat) : (rnds W s t).ok := by
  induction t with
  | zero => exact h
  | succ t ih => exact rnd_ok ih
def stOf (h : List Nat) : St := ⟨h.getD 0 0, h.getD 1 0, h.getD 2 0, h.getD 3 0, h.getD 4 0⟩
/-- Five words. -/
def Five (h : List Nat) : Prop := h.length = 5 ∧ ∀ x ∈ h, x < 4294967296
theorem Five.ok {h : List Nat} (f : Five h) : (stOf h).ok := by
  have g := getD_lt (B := 4294967296) (by decide) f.2
  exact ⟨g 0, g 1, g 2, g 3, g 4⟩
theorem Five.mk5 {h : List Nat} (f : Five h) : ∃ a b c d e : Nat, h = [a, b, c, d, e] ∧ a < 4294967296 ∧ b < 4294967296 ∧ c < 4294967296 ∧ d < 4294967296 ∧ e < 4294967296 := by
  obtain ⟨hl, hx⟩ := f
  match h, hl with
  | [a, b, c, d, e], _ => exact ⟨a, b, c, d, e, rfl, hx a (by simp), hx b (by simp), hx c (by simp), hx d (by simp), hx e (by simp)⟩
def sumUp (h : List Nat) (s : St) : List Nat := [(h.getD 0 0 + s.a) % 4294967296, (h.getD 1 0 + s.b) % 4294967296, (h.getD 2 0 + s.c) % 4294967296, (h.getD 3 0 + s.d) % 4294967296, (h.getD 4 0 + s.e) % 4294967296]
/-- A block mixed into five words. -/
def comp (h : List Nat) (l : List UInt8) : List Nat := sumUp h (rnds (schL l 80) (stOf h) 80)
theorem sumUp_five (h : List Nat) (s : St) : Five (sumUp h s) := by
  refine ⟨rfl, ?_⟩
  intro x hx
  simp only [sumUp, List.mem_cons, List.not_mem_nil, or_false] at hx
  rcases hx with rfl | rfl | rfl | rfl | rfl <;> exact Nat.mod_lt _ (by decide)
theorem comp_five (h : List Nat) (l : List UInt8) : Five (comp h l) := sumUp_five _ _

/-- n blocks of l mixed in, one after the other. -/
def absH (h : List Nat) (l : List UInt8) : Nat → List Nat
  | 0 => h
  | n + 1 => comp (absH h l n) ((l.drop (64 * n)).take 64)
theorem absH_five {h : List Nat} (f : Five h) (l : List UInt8) (n : Nat) : Five (absH h l n) := by
  cases n with
  | zero => exact f
  | succ n => exact comp_five _ _
theorem absH_add (h : List Nat) (l : List UInt8) (n k : Nat) : absH h l (n + k) = absH (absH h l n) (l.drop (64 * n)) k := by
  induction k with
  | zero => rfl
  | succ k ih =>
    rw [← Nat.add_assoc, absH, absH, ih, List.drop_drop, Nat.mul_add]
theorem absH_front (h : List Nat) (l m : List UInt8) (n : Nat) (hn : 64 * n ≤ l.length) : absH h (l ++ m) n = absH h l n := by
  induction n with
  | zero => rfl
  | succ n ih =>
    rw [absH, absH, ih (by omega), List.drop_append_of_le_length (by omega), List.take_append_of_le_length (by rw [List.length_drop]; omega)]
/-- The words, and what remains, behind l. -/
def inH (h : List Nat) (l : List UInt8) : List Nat := absH h l (l.length / 64)
def inR (l : List UInt8) : List UInt8 := l.drop (64 * (l.length / 64))
theorem inR_len (l : List UInt8) : (inR l).length = l.length % 64 := by rw [inR, List.length_drop]; omega
theorem inH_five {h : List Nat} (f : Five h) (l : List UInt8) : Five (inH h l) := absH_five f _ _
/-- What comes in by two is as what comes in at once. -/
theorem inH_app (h : List Nat) (l m : List UInt8) : inH (inH h l) (inR l ++ m) = inH h (l ++ m) := by
  have e : (l ++ m).length / 64 = l.length / 64 + (inR l ++ m).length / 64 := by
    rw [List.length_append, List.length_append, inR_len]; omega
  unfold inH
  rw [e, absH_add, absH_front h l m _ (by omega), List.drop_append_of_le_length (by omega)]
  rfl
theorem inR_app (l m : List UInt8) : inR (inR l ++ m) = inR (l ++ m) := by
  have e : (l ++ m).length / 64 = l.length / 64 + (inR l ++ m).length / 64 := by
    rw [List.length_append, List.length_append, inR_len]; omega
  have e2 : inR (l ++ m) = (l ++ m).drop (64 * (l.length / 64 + (inR l ++ m).length / 64)) := by rw [← e]; rfl
  rw [e2, Nat.mul_add, ← List.drop_drop, List.drop_append_of_le_length (by omega)]
  rfl

/-- Eight bytes, the highest first. -/
def be8 (n : Nat) : List UInt8 := (List.range 8).map fun i => UInt8.ofNat (n / 256 ^ (7 - i))
def nZero (size : Nat) : Nat := (119 - size % 64) % 64
def endL (size : Nat) : List UInt8 := 128 :: (List.replicate (nZero size) 0 ++ be8 (8 * size))
theorem endL_len (size : Nat) : (endL size).length = nZero size + 9 := by simp [endL, be8]
def wordB (x : Nat) : List UInt8 := [UInt8.ofNat (x / 16777216), UInt8.ofNat (x / 65536), UInt8.ofNat (x / 256), UInt8.ofNat x]
def digH (h : List Nat) : List UInt8 := wordB (h.getD 0 0) ++ wordB (h.getD 1 0) ++ wordB (h.getD 2 0) ++ wordB (h.getD 3 0) ++ wordB (h.getD 4 0)
theorem digH_len (h : List Nat) : (digH h).length = 20 := rfl
/-- The end of a digest under way. -/
def endS (h : List Nat) (r : List UInt8) (size : Nat) : List UInt8 := digH (inH h (r ++ endL size))
def h0L : List Nat := [1732584193, 4023233417, 2562383102, 271733878, 3285377520]
theorem h0_five : Five h0L := ⟨rfl, by decide⟩
def sha1L (l : List UInt8) : List UInt8 := endS (inH h0L l) (inR l) l.length
def sha1B (s : ByteArray) : ByteArray := ⟨(sha1L s.data.toList).toArray⟩
theorem sha1L_len (l : List UInt8) : (sha1L l).length = 20 := rfl
theorem sha1B_size (s : ByteArray) : (sha1B s).size = 20 := rfl
end Go.Proofs.Ytenjbgpndkodmab
