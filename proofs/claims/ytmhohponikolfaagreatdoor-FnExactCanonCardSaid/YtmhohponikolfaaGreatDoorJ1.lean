/-
  Digests on lists: the eighty words of a block, the rounds, blocks one after the other, the end. No Go in sight. · What all walks share: worlds that stay below, a number within two. · The walks over chapter 3: words. · Chapter 7: addresses, on lists. No Go in sight. · A row of texts that the call itself makes and appends to, one text at a time. · Contracts of the library's functions at this program, laid off the kit's shelf in plain words. · Contracts of the library's functions at this program, laid off the kit's shelf in plain words. · Contracts of the library's functions at this program, laid off the kit's shelf in plain words. · A text cut at each byte of one kind by the library, and texts joined by one. · Bytes that may stand in a target: walks of both sides. · The walks over chapter 1: Token. · The walks over chapter 1: ReadHex. · A row of bytes that the call itself makes and appends to, one byte at a time. · Contracts of the library's functions at this program, laid off the kit's shelf in plain words.
-/
import Derived.Test.YtmhohponikolfaaGreatDoorJ0
import Derived.Test.YtmhohponikolfaaGreatDoorProg
import Derived.Deep.QuietTactic
import Derived.BigQuiet
import Derived.Laws.ShiftsVarLaws
import Derived.Shelf.Strings.SplitCore
import Derived.Shelf.Strings.Search3
import Derived.Shelf.Strings.OnBuilder
import Derived.Shelf.Strings.Split
import Derived.Shelf.Strings.IndexAnyAll
namespace Go.Proofs.YtmhohponikolfaaGreatDoor
set_option linter.unusedVariables false
set_option linter.unusedSimpArgs false
open Go.RowKit

def byteAt (l : List UInt8) (k : Nat) : Nat := (l.getD k 0).toNat
theorem byteAt_lt (l : List UInt8) (k : Nat) : byteAt l k < 256 := (l.getD k 0).toNat_lt
/-- The first m bytes of word q, the highest first. -/
def beP (l : List UInt8) (q : Nat) : Nat → Nat
  | 0 => 0
  | m + 1 => beP l q m * 256 + byteAt l (4 * q + m)
def be4 (l : List UInt8) (q : Nat) : Nat := beP l q 4
theorem beP_lt (l : List UInt8) (q m : Nat) : beP l q m < 256 ^ m := by
  induction m with
  | zero => simp [beP]
  | succ m ih =>
    have := byteAt_lt l (4 * q + m)
    rw [beP, Nat.pow_succ]; omega
theorem be4_lt (l : List UInt8) (q : Nat) : be4 l q < 4294967296 := beP_lt l q 4

theorem map_range_set {α : Type} (n k : Nat) (f g : Nat → α) (v : α) (hk : g k = v) (ho : ∀ j, j ≠ k → g j = f j) : (List.range n).map g = ((List.range n).map f).set k v := by
  apply List.ext_getElem?
  intro j
  by_cases hj : j < n
  · by_cases e : j = k
    · subst e
      rw [List.getElem?_set_self (by simp [hj])]
      simp [hj, hk]
    · rw [List.getElem?_set_ne (Ne.symm e)]
      simp [hj, ho j e]
  · have h1 : ((List.range n).map g)[j]? = none := List.getElem?_eq_none (by simp; omega)
    have h2 : (((List.range n).map f).set k v)[j]? = none := List.getElem?_eq_none (by simp; omega)
    rw [h1, h2]
theorem map_range_getD {α : Type} (n k : Nat) (f : Nat → α) (z : α) (hk : k < n) : ((List.range n).map f).getD k z = f k := by
  simp [List.getD, hk]

/-- The eighty cells while the block's bytes go in, i of them so far. -/
def inRow (l : List UInt8) (i : Nat) : List Nat := (List.range 80).map fun q => beP l q (min 4 (i - 4 * q))
theorem inRow_len (l : List UInt8) (i : Nat) : (inRow l i).length = 80 := by simp [inRow]
theorem inRow_zero (l : List UInt8) : inRow l 0 = List.replicate 80 0 := by
  unfold inRow
  have : (fun q => beP l q (min 4 (0 - 4 * q))) = fun _ => 0 := by funext q; simp [beP]
  rw [this, List.map_const']
  simp
theorem inRow_at (l : List UInt8) (i : Nat) (hi : i < 64) : (inRow l i).getD (i / 4) 0 = beP l (i / 4) (i % 4) := by
  unfold inRow
  rw [map_range_getD 80 (i / 4) _ 0 (by omega), show min 4 (i - 4 * (i / 4)) = i % 4 by omega]
theorem inRow_succ (l : List UInt8) (i : Nat) (hi : i < 64) : inRow l (i + 1) = (inRow l i).set (i / 4) (beP l (i / 4) (i % 4) * 256 + byteAt l i) := by
  unfold inRow
  refine map_range_set 80 (i / 4) _ _ _ ?_ ?_
  · show beP l (i / 4) (min 4 (i + 1 - 4 * (i / 4))) = _
    rw [show min 4 (i + 1 - 4 * (i / 4)) = i % 4 + 1 by omega, beP, show 4 * (i / 4) + i % 4 = i by omega]
  · intro j hj
    show beP l j (min 4 (i + 1 - 4 * j)) = beP l j (min 4 (i - 4 * j))
    rw [show min 4 (i + 1 - 4 * j) = min 4 (i - 4 * j) by omega]

/-- Word t, given those ahead. -/
def nxt (l : List UInt8) (t : Nat) (L : List Nat) : Nat := if t < 16 then be4 l t else rotl (((L.getD (t - 3) 0 ^^^ L.getD (t - 8) 0) ^^^ L.getD (t - 14) 0) ^^^ L.getD (t - 16) 0) 1
def schL (l : List UInt8) : Nat → List Nat
  | 0 => []
  | t + 1 => schL l t ++ [nxt l t (schL l t)]
theorem schL_len (l : List UInt8) (t : Nat) : (schL l t).length = t := by
  induction t with
  | zero => rfl
  | succ t ih => rw [schL, List.length_append, ih]; rfl
theorem getD_lt {L : List Nat} {B : Nat} (hB : 0 < B) (h : ∀ x ∈ L, x < B) (j : Nat) : L.getD j 0 < B := by
  rcases Nat.lt_or_ge j L.length with hj | hj
  · rw [List.getD, List.getElem?_eq_getElem hj]
    exact h _ (List.getElem_mem hj)
  · rw [List.getD, List.getElem?_eq_none hj]
    exact hB
theorem nxt_lt (l : List UInt8) (t : Nat) (L : List Nat) (h : ∀ x ∈ L, x < 4294967296) : nxt l t L < 4294967296 := by
  unfold nxt
  split
  · exact be4_lt l t
  · have g := getD_lt (by decide) h
    exact rotl_lt _ _ (xor_lt32 (xor_lt32 (xor_lt32 (g _) (g _)) (g _)) (g _))
theorem schL_lt (l : List UInt8) (t : Nat) : ∀ x ∈ schL l t, x < 4294967296 := by
  induction t with
  | zero => intro x hx; cases hx
  | succ t ih =>
    intro x hx
    rw [schL, List.mem_append] at hx
    rcases hx with hx | hx
    · exact ih x hx
    · rw [List.mem_singleton] at hx; rw [hx]; exact nxt_lt l t _ ih
theorem schL_get (l : List UInt8) (t j : Nat) (h : j < t) : (schL l t).getD j 0 = nxt l j (schL l j) := by
  induction t with
  | zero => omega
  | succ t ih =>
    rw [schL]
    by_cases e : j < t
    · rw [List.getD, List.getElem?_append_left (by rw [schL_len]; exact e), ← List.getD, ih e]
    · obtain rfl : j = t := by omega
      rw [List.getD, List.getElem?_append_right (by rw [schL_len]; exact Nat.le_refl _), schL_len, Nat.sub_self]
      rfl
/-- The cells while the words are made, t of them so far. -/
def fillR (L : List Nat) (n : Nat) : List Nat := L ++ List.replicate (n - L.length) 0
theorem fillR_len (L : List Nat) (n : Nat) (h : L.length ≤ n) : (fillR L n).length = n := by simp [fillR]; omega
theorem fillR_set (L : List Nat) (n v : Nat) (h : L.length < n) : fillR (L ++ [v]) n = (fillR L n).set L.length v := by
  unfold fillR
  rw [List.set_append_right _ _ (Nat.le_refl _), Nat.sub_self, List.length_append, show n - L.length = (n - (L.length + 1)) + 1 by omega, List.replicate_succ]
  simp
theorem fillR_at (L : List Nat) (n j : Nat) (h : j < L.length) : (fillR L n).getD j 0 = L.getD j 0 := by
  unfold fillR
  rw [List.getD, List.getElem?_append_left h, List.getD]
theorem fillR_lt {L : List Nat} {n : Nat} (h : ∀ x ∈ L, x < 4294967296) : ∀ x ∈ fillR L n, x < 4294967296 := by
  intro x hx
  rw [fillR, List.mem_append] at hx
  rcases hx with hx | hx
  · exact h x hx
  · have := List.eq_of_mem_replicate hx; omega
theorem fillR_full (L : List Nat) : fillR L L.length = L := by simp [fillR]
theorem fillR_nil (n : Nat) : fillR [] n = List.replicate n 0 := by simp [fillR]
theorem inRow_full (l : List UInt8) : inRow l 64 = fillR (schL l 16) 80 := by
  apply List.ext_getElem?
  intro j
  unfold inRow fillR
  rw [schL_len]
  by_cases h80 : j < 80
  · have e1 : ((List.range 80).map fun q => beP l q (min 4 (64 - 4 * q)))[j]? = some (beP l j (min 4 (64 - 4 * j))) := by simp [h80]
    rw [e1]
    by_cases h16 : j < 16
    · rw [List.getElem?_append_left (by rw [schL_len]; exact h16)]
      have h := schL_get l 16 j h16
      have hl : j < (schL l 16).length := by rw [schL_len]; exact h16
      rw [List.getD, List.getElem?_eq_getElem hl, Option.getD_some] at h
      rw [List.getElem?_eq_getElem hl, h]
      unfold nxt be4
      rw [if_pos h16, show min 4 (64 - 4 * j) = 4 by omega]
    · rw [List.getElem?_append_right (by rw [schL_len]; omega), schL_len, List.getElem?_replicate, if_pos (by omega), show min 4 (64 - 4 * j) = 0 by omega]
      rfl
  · rw [List.getElem?_eq_none (by simp; omega), List.getElem?_eq_none (by rw [List.length_append, schL_len, List.length_replicate]; omega)]

/-- The five words on their way. -/
structure St where
  a : Nat
  b : Nat
  c : Nat
  d : Nat
  e : Nat
def St.ok (s : St) : Prop := s.a < 4294967296 ∧ s.b < 4294967296 ∧ s.c < 4294967296 ∧ s.d < 4294967296 ∧ s.e < 4294967296
def rnd (W : List Nat) (t : Nat) (s : St) : St := ⟨(rotl s.a 5 + fOf t s.b s.c s.d + s.e + W.getD t 0 + kOf t) % 4294967296, s.a, rotl s.b 30, s.c, s.d⟩
def rnds (W : List Nat) (s : St) : Nat → St
  | 0 => s
  | t + 1 => rnd W t (rnds W s t)
theorem rnd_ok {W : List Nat} {t : Nat} {s : St} (h : s.ok) : (rnd W t s).ok := by
  obtain ⟨h1, h2, h3, h4, h5⟩ := h
  exact ⟨Nat.mod_lt _ (by decide), h1, rotl_lt _ _ h2, h3, h4⟩
theorem rnds_ok {W : List Nat} {s : St} (h : s.ok) (t : Nat) : (rnds W s t).ok := by
  induction t with
  | zero => exact h
  | succ t ih => exact rnd_ok ih
def stOf (h : List Nat) : St := ⟨h.getD 0 0, h.getD 1 0, h.getD 2 0, h.getD 3 0, h.getD 4 0⟩
/-- Five words. -/
def Five (h : List Nat) : Prop := h.length = 5 ∧ ∀ x ∈ h, x < 4294967296
theorem Five.ok {h : List Nat} (f : Five h) : (stOf h).ok := by
  have g := getD_lt (B := 4294967296) (by decide) f.2
  exact ⟨g 0, g 1, g 2, g 3, g 4⟩
theorem Five.mk5 {h : List Nat} (f : Five h) : ∃ a b c d e : Nat, h = [a, b, c, d, e] ∧ a < 4294967296 ∧ b < 4294967296 ∧ c < 4294967296 ∧ d < 4294967296 ∧ e < 4294967296 := by
  obtain ⟨hl, hx⟩ := f
  match h, hl with
  | [a, b, c, d, e], _ => exact ⟨a, b, c, d, e, rfl, hx a (by simp), hx b (by simp), hx c (by simp), hx d (by simp), hx e (by simp)⟩
def sumUp (h : List Nat) (s : St) : List Nat := [(h.getD 0 0 + s.a) % 4294967296, (h.getD 1 0 + s.b) % 4294967296, (h.getD 2 0 + s.c) % 4294967296, (h.getD 3 0 + s.d) % 4294967296, (h.getD 4 0 + s.e) % 4294967296]
/-- A block mixed into five words. -/
def comp (h : List Nat) (l : List UInt8) : List Nat := sumUp h (rnds (schL l 80) (stOf h) 80)
theorem sumUp_five (h : List Nat) (s : St) : Five (sumUp h s) := by
  refine ⟨rfl, ?_⟩
  intro x hx
  simp only [sumUp, List.mem_cons, List.not_mem_nil, or_false] at hx
  rcases hx with rfl | rfl | rfl | rfl | rfl <;> exact Nat.mod_lt _ (by decide)
theorem comp_five (h : List Nat) (l : List UInt8) : Five (comp h l) := sumUp_five _ _

/-- n blocks of l mixed in, one after the other. -/
def absH (h : List Nat) (l : List UInt8) : Nat → List Nat
  | 0 => h
  | n + 1 => comp (absH h l n) ((l.drop (64 * n)).take 64)
theorem absH_five {h : List Nat} (f : Five h) (l : List UInt8) (n : Nat) : Five (absH h l n) := by
  cases n with
  | zero => exact f
  | succ n => exact comp_five _ _
theorem absH_add (h : List Nat) (l : List UInt8) (n k : Nat) : absH h l (n + k) = absH (absH h l n) (l.drop (64 * n)) k := by
  induction k with
  | zero => rfl
  | succ k ih =>
    rw [← Nat.add_assoc, absH, absH, ih, List.drop_drop, Nat.mul_add]
theorem absH_front (h : List Nat) (l m : List UInt8) (n : Nat) (hn : 64 * n ≤ l.length) : absH h (l ++ m) n = absH h l n := by
  induction n with
  | zero => rfl
  | succ n ih =>
    rw [absH, absH, ih (by omega), List.drop_append_of_le_length (by omega), List.take_append_of_le_length (by rw [List.length_drop]; omega)]
/-- The words, and what remains, behind l. -/
def inH (h : List Nat) (l : List UInt8) : List Nat := absH h l (l.length / 64)
def inR (l : List UInt8) : List UInt8 := l.drop (64 * (l.length / 64))
theorem inR_len (l : List UInt8) : (inR l).length = l.length % 64 := by rw [inR, List.length_drop]; omega
theorem inH_five {h : List Nat} (f : Five h) (l : List UInt8) : Five (inH h l) := absH_five f _ _
/-- What comes in by two is as what comes in at once. -/
theorem inH_app (h : List Nat) (l m : List UInt8) : inH (inH h l) (inR l ++ m) = inH h (l ++ m) := by
  have e : (l ++ m).length / 64 = l.length / 64 + (inR l ++ m).length / 64 := by
    rw [List.length_append, List.length_append, inR_len]; omega
  unfold inH
  rw [e, absH_add, absH_front h l m _ (by omega), List.drop_append_of_le_length (by omega)]
  rfl
theorem inR_app (l m : List UInt8) : inR (inR l ++ m) = inR (l ++ m) := by
  have e : (l ++ m).length / 64 = l.length / 64 + (inR l ++ m).length / 64 := by
    rw [List.length_append, List.length_append, inR_len]; omega
  have e2 : inR (l ++ m) = (l ++ m).drop (64 * (l.length / 64 + (inR l ++ m).length / 64)) := by rw [← e]; rfl
  rw [e2, Nat.mul_add, ← List.drop_drop, List.drop_append_of_le_length (by omega)]
  rfl

/-- Eight bytes, the highest first. -/
def be8 (n : Nat) : List UInt8 := (List.range 8).map fun i => UInt8.ofNat (n / 256 ^ (7 - i))
def nZero (size : Nat) : Nat := (119 - size % 64) % 64
def endL (size : Nat) : List UInt8 := 128 :: (List.replicate (nZero size) 0 ++ be8 (8 * size))
theorem endL_len (size : Nat) : (endL size).length = nZero size + 9 := by simp [endL, be8]
def wordB (x : Nat) : List UInt8 := [UInt8.ofNat (x / 16777216), UInt8.ofNat (x / 65536), UInt8.ofNat (x / 256), UInt8.ofNat x]
def digH (h : List Nat) : List UInt8 := wordB (h.getD 0 0) ++ wordB (h.getD 1 0) ++ wordB (h.getD 2 0) ++ wordB (h.getD 3 0) ++ wordB (h.getD 4 0)
theorem digH_len (h : List Nat) : (digH h).length = 20 := rfl
/-- The end of a digest under way. -/
def endS (h : List Nat) (r : List UInt8) (size : Nat) : List UInt8 := digH (inH h (r ++ endL size))
def h0L : List Nat := [1732584193, 4023233417, 2562383102, 271733878, 3285377520]
theorem h0_five : Five h0L := ⟨rfl, by decide⟩
def sha1L (l : List UInt8) : List UInt8 := endS (inH h0L l) (inR l) l.length
def sha1B (s : ByteArray) : ByteArray := ⟨(sha1L s.data.toList).toArray⟩
theorem sha1L_len (l : List UInt8) : (sha1L l).length = 20 := rfl
theorem sha1B_size (s : ByteArray) : (sha1B s).size = 20 := rfl
end Go.Proofs.YtmhohponikolfaaGreatDoor
namespace Go.Proofs.YtmhohponikolfaaGreatDoor
set_option linter.unusedVariables false
set_option linter.unusedSimpArgs false
open Go.RowKit
theorem below_a1 (w : World) (o : Obj) : Below w.heap.size w (w.alloc o) := (Below.refl _ w).alloc (Nat.le_refl _) o
theorem below_a2 (w : World) (o o' : Obj) : Below w.heap.size w ((w.alloc o).alloc o') := (below_a1 w o).alloc (by simp) o'
theorem below_a3 (w : World) (o o' o'' : Obj) : Below w.heap.size w (((w.alloc o).alloc o').alloc o'') := (below_a2 w o o').alloc (by simp; omega) o''
theorem below_then {w w1 w2 : World} (h : Below w.heap.size w w1) (k : Below w1.heap.size w1 w2) : Below w.heap.size w w2 := h.trans (k.mono h.size)
theorem bcell2 {W w1 : World} (hb : Below W.heap.size W w1) : (∀ b o, b < W.heap.size → w1.cell? ⟨b, o, none⟩ = W.cell? ⟨b, o, none⟩) ∧ (∀ b o, b < W.heap.size → w1.frozen? ⟨b, o, none⟩ = W.frozen? ⟨b, o, none⟩) :=
  ⟨fun b o h => hb.cell (p := ⟨b, o, none⟩) h, fun b o h => hb.frozen (p := ⟨b, o, none⟩) h⟩
theorem hideB2 {p : Prop} (h : p) : Hid p := h
def withinB (n a b : Int) : Bool := decide (a ≤ n) && decide (n ≤ b)
theorem within_iff {n a b : Int} : withinB n a b = true ↔ a ≤ n ∧ n ≤ b := by unfold withinB; simp
set_option maxHeartbeats 400000 in
theorem within_any (n a b : Int) (w : World) :
    Calls Tryz.prog 86 #[.int .i64 n, .int .i64 a, .int .i64 b] w fun e w' => e = .returned (.bool (withinB n a b)) ∧ w' = w := by
  by_cases h : a ≤ n
  · by_cases h' : n ≤ b
    · rw [show withinB n a b = true by simp [withinB, h, h']]
      go_enter Tryz.func86, Tryz.ntmps86
      go_wp2
      go_ret
      exact ⟨rfl, rfl⟩
    · rw [show withinB n a b = false by simp [withinB, h, h']]
      go_enter Tryz.func86, Tryz.ntmps86
      go_wp2
      go_ret
      exact ⟨rfl, rfl⟩
  · rw [show withinB n a b = false by simp [withinB, h]]
    go_enter Tryz.func86, Tryz.ntmps86
    go_wp2
    go_ret
    exact ⟨rfl, rfl⟩
end Go.Proofs.YtmhohponikolfaaGreatDoor
namespace Go.Proofs.YtmhohponikolfaaGreatDoor
set_option linter.unusedVariables false
set_option linter.unusedSimpArgs false
open Go.RowKit
theorem ret_two {a b : Value} {c d : Value} (h : a = c) (k : b = d) : Ending.returned (.tuple #[a, b]) = .returned (.tuple #[c, d]) := by rw [h, k]
/-- Is it a word? -/
def wordQ (n : Int) : Bool := withinB n 0 4294967295
theorem wordQ_iff {n : Int} : wordQ n = true ↔ 0 ≤ n ∧ n ≤ 4294967295 := within_iff
theorem turn_i64w (x n : Nat) (hx : x < 4294967296) (hn : n ≤ 31) :
    bits .and .i64 (bits .or .i64 (wrap64 ((x : Int) * 2 ^ n)) ((x : Int) / 2 ^ (32 - n))) 4294967295 = ((rotl x n : Nat) : Int) := by
  have h1 := mul_pow_lt hx hn
  have e1 : (x : Int) * 2 ^ n = ((x * 2 ^ n : Nat) : Int) := by simp
  have e2 : wrap64 ((x : Int) * 2 ^ n) = (x : Int) * 2 ^ n := by
    rw [e1]
    generalize x * 2 ^ n = y at *
    unfold wrap64
    omega
  rw [e2]
  exact turn_i64 x n hx hn
theorem quarter {t : Nat} (h : t ≤ 79) : (t : Int) / 20 = 0 ∧ fOf t = chs ∧ kOf t = 1518500249 ∨ (t : Int) / 20 = 1 ∧ fOf t = par ∧ kOf t = 1859775393 ∨ (t : Int) / 20 = 2 ∧ fOf t = maj ∧ kOf t = 2400959708 ∨ (t : Int) / 20 = 3 ∧ fOf t = par ∧ kOf t = 3395469782 := by
  have h4 : t / 20 = 0 ∨ t / 20 = 1 ∨ t / 20 = 2 ∨ t / 20 = 3 := by omega
  rcases h4 with e | e | e | e
  · exact .inl ⟨by omega, by funext b c d; simp [fOf, e], by simp [kOf, e]⟩
  · exact .inr (.inl ⟨by omega, by funext b c d; simp [fOf, e], by simp [kOf, e]⟩)
  · exact .inr (.inr (.inl ⟨by omega, by funext b c d; simp [fOf, e], by simp [kOf, e]⟩))
  · exact .inr (.inr (.inr ⟨by omega, by funext b c d; simp [fOf, e], by simp [kOf, e]⟩))
theorem xmask (b : Nat) (hb : b < 4294967296) : bits .xor .u32 4294967295 (b : Int) = ((b ^^^ 4294967295 : Nat) : Int) := by
  have := u32_xor_nat 4294967295 b (by decide) hb
  rw [Nat.xor_comm] at this
  exact this
theorem chs_u32 (b c d : Nat) (hb : b < 4294967296) (hc : c < 4294967296) (hd : d < 4294967296) :
    bits .or .u32 (bits .and .u32 (b : Int) (c : Int)) (bits .and .u32 (bits .xor .u32 4294967295 (b : Int)) (d : Int)) = ((chs b c d : Nat) : Int) := by
  have hx : b ^^^ 4294967295 < 4294967296 := xor_lt32 hb (by decide)
  rw [xmask b hb, u32_and_nat b c hb hc, u32_and_nat _ d hx hd, u32_or_nat _ _ (and_lt32 hc) (and_lt32 hd)]
  rfl
theorem par_u32 (b c d : Nat) (hb : b < 4294967296) (hc : c < 4294967296) (hd : d < 4294967296) :
    bits .xor .u32 (bits .xor .u32 (b : Int) (c : Int)) (d : Int) = ((par b c d : Nat) : Int) := by
  rw [u32_xor_nat b c hb hc, u32_xor_nat _ d (xor_lt32 hb hc) hd]
  rfl
theorem maj_u32 (b c d : Nat) (hb : b < 4294967296) (hc : c < 4294967296) (hd : d < 4294967296) :
    bits .or .u32 (bits .or .u32 (bits .and .u32 (b : Int) (c : Int)) (bits .and .u32 (b : Int) (d : Int))) (bits .and .u32 (c : Int) (d : Int)) = ((maj b c d : Nat) : Int) := by
  rw [u32_and_nat b c hb hc, u32_and_nat b d hb hd, u32_and_nat c d hc hd, u32_or_nat _ _ (and_lt32 hc) (and_lt32 hd), u32_or_nat _ _ (or_lt32 (and_lt32 hc) (and_lt32 hd)) (and_lt32 hd)]
  rfl
theorem chs_i64 (b c d : Nat) (hb : b < 4294967296) (hc : c < 4294967296) (hd : d < 4294967296) :
    bits .or .i64 (bits .and .i64 (b : Int) (c : Int)) (bits .and .i64 (bits .xor .i64 (b : Int) 4294967295) (d : Int)) = ((chs b c d : Nat) : Int) := by
  have hx : b ^^^ 4294967295 < 4294967296 := xor_lt32 hb (by decide)
  have h1 := and_lt32 (a := b) hc
  have h2 := and_lt32 (a := b ^^^ 4294967295) hd
  have e := i64_xor_nat b 4294967295 (by omega) (by decide)
  rw [show bits .xor .i64 (b : Int) 4294967295 = ((b ^^^ 4294967295 : Nat) : Int) from e, i64_and_nat b c (by omega) (by omega), i64_and_nat _ d (by omega) (by omega), i64_or_nat _ _ (by omega) (by omega)]
  rfl
theorem par_i64 (b c d : Nat) (hb : b < 4294967296) (hc : c < 4294967296) (hd : d < 4294967296) :
    bits .xor .i64 (bits .xor .i64 (b : Int) (c : Int)) (d : Int) = ((par b c d : Nat) : Int) := by
  have h1 := xor_lt32 hb hc
  rw [i64_xor_nat b c (by omega) (by omega), i64_xor_nat _ d (by omega) (by omega)]
  rfl
theorem maj_i64 (b c d : Nat) (hb : b < 4294967296) (hc : c < 4294967296) (hd : d < 4294967296) :
    bits .or .i64 (bits .or .i64 (bits .and .i64 (b : Int) (c : Int)) (bits .and .i64 (b : Int) (d : Int))) (bits .and .i64 (c : Int) (d : Int)) = ((maj b c d : Nat) : Int) := by
  have h1 := and_lt32 (a := b) hc
  have h2 := and_lt32 (a := b) hd
  have h3 := and_lt32 (a := c) hd
  have h4 := or_lt32 h1 h2
  rw [i64_and_nat b c (by omega) (by omega), i64_and_nat b d (by omega) (by omega), i64_and_nat c d (by omega) (by omega), i64_or_nat _ _ (by omega) (by omega), i64_or_nat _ _ (by omega) (by omega)]
  rfl
theorem tup2 {a b c d : Int} {k l : IntKind} (h : c = a) (g : d = b) : Ending.returned (.tuple #[.int k a, .int l b]) = .returned (.tuple #[.int k c, .int l d]) := by rw [h, g]
/-- What Turn answers. -/
def turnV (x n : Int) : Int := if wordQ x = true ∧ withinB n 0 31 = true then ((rotl x.toNat n.toNat : Nat) : Int) else -1
theorem turnV_yes (x n : Nat) (hx : x < 4294967296) (hn : n ≤ 31) : turnV x n = ((rotl x n : Nat) : Int) := by
  unfold turnV
  rw [if_pos ⟨wordQ_iff.2 ⟨by omega, by omega⟩, within_iff.2 ⟨by omega, by omega⟩⟩]
  simp
theorem turnV_no {x n : Int} (h : wordQ x = false ∨ withinB n 0 31 = false) : turnV x n = -1 := by
  unfold turnV
  rw [if_neg]
  rintro ⟨h1, h2⟩
  rcases h with h | h
  · rw [h1] at h; cases h
  · rw [h2] at h; cases h
end Go.Proofs.YtmhohponikolfaaGreatDoor
namespace Go.Proofs.YtmhohponikolfaaGreatDoor
set_option linter.unusedVariables false
set_option linter.unusedSimpArgs false
open Go.RowKit
/-- A sign of a host, and of a host's piece. -/
def pcP (n : Int) : Bool := (decide (97 ≤ n) && decide (n ≤ 122)) || digP n || n == 45
def hstP (n : Int) : Bool := pcP n || n == 46
def pc8 (b : UInt8) : Bool := pcP (b.toNat : Int)
def hst8 (b : UInt8) : Bool := hstP (b.toNat : Int)
def hostQ (h : ByteArray) : Bool := decide (h.size ≤ 60) && allB hst8 h && !((splS 46 h).any fun x => eqB x ⟨#[]⟩)
def portB (n : Int) : ByteArray := if n = 80 then ⟨#[]⟩ else (⟨#[58]⟩ : ByteArray) ++ decT n
def qryB (q : ByteArray) (b : Bool) : ByteArray := if b = true then (⟨#[63]⟩ : ByteArray) ++ q else ⟨#[]⟩
def schB : ByteArray := ⟨#[104, 116, 116, 112, 58, 47, 47]⟩
def utxt (ho pa qu : ByteArray) (po : Int) (hq : Bool) : ByteArray := ((schB ++ ho) ++ portB po) ++ pa ++ qryB qu hq
def queQ (q : ByteArray) (b : Bool) : Bool := (b || eqB q ⟨#[]⟩) && decide (idxS 35 q < 0)
def urlQ (ho pa qu : ByteArray) (po : Int) (hq : Bool) : Bool := hostQ ho && withinB po 1 65535 && !eqB pa ⟨#[]⟩ && eqB (clnB pa) pa && queQ qu hq && targQ (utxt ho pa qu po hq)
theorem portB_size (n : Int) : (portB n).size ≤ 16 := by
  unfold portB
  have h := decT_size n
  split
  · show (0 : Nat) ≤ _; omega
  · rw [ByteArray.size_append]
    have e : (⟨#[58]⟩ : ByteArray).size = 1 := rfl
    omega
theorem qryB_size (q : ByteArray) (b : Bool) : (qryB q b).size ≤ q.size + 1 := by
  unfold qryB
  split
  · rw [ByteArray.size_append]
    have e : (⟨#[63]⟩ : ByteArray).size = 1 := rfl
    omega
  · show (0 : Nat) ≤ _; omega
theorem utxt_size (ho pa qu : ByteArray) (po : Int) (hq : Bool) : (utxt ho pa qu po hq).size = 7 + ho.size + (portB po).size + pa.size + (qryB qu hq).size := by
  unfold utxt
  rw [ByteArray.size_append, ByteArray.size_append, ByteArray.size_append, ByteArray.size_append]
  rfl
theorem all_app (p : UInt8 → Bool) (a b : ByteArray) : allB p (a ++ b) = (allB p a && allB p b) := by
  unfold allB
  rw [Go.Joins.data_append, List.all_append]
/-- The pieces have no sign that parts them. -/
theorem splS_all (c : UInt8) (p q : UInt8 → Bool) (hpq : ∀ b, b ≠ c → p b = q b) (hc : p c = true) : ∀ (n : Nat) (s : ByteArray), s.size ≤ n → allB p s = (splS c s).all (allB q)
  | n, s, hn => by
    rcases idxS_cases c s with h | ⟨i, h, hi⟩
    · rw [(splS_none h).2]
      have h0 := idxS_none h
      have e : allB p s = allB q s := by
        unfold allB
        rw [Bool.eq_iff_iff, List.all_eq_true, List.all_eq_true]
        have hx : ∀ b ∈ s.data.toList, p b = q b := by
          intro b hb
          obtain ⟨j, hj, rfl⟩ := List.mem_iff_getElem.1 hb
          have hj' : j < s.size := by rw [len_data] at hj; exact hj
          have := h0 j hj'
          unfold at8 at this
          rw [List.getD, List.getElem?_eq_getElem hj] at this
          exact hpq _ this
        constructor
        · intro hh b hb; rw [← hx b hb]; exact hh b hb
        · intro hh b hb; rw [hx b hb]; exact hh b hb
      rw [e]; simp
    · cases n with
      | zero => omega
      | succ n =>
        obtain ⟨g1, g2, g3⟩ := idxS_some h
        have e2 : (s.extract (i + 1) s.size).size = s.size - (i + 1) := by rw [ByteArray.size_extract]; omega
        have ih := splS_all c p q hpq hc n (s.extract (i + 1) s.size) (by omega)
        have e0 : (s.extract 0 i).size = i := by rw [ByteArray.size_extract]; omega
        have hn0 : idxS c (s.extract 0 i) = -1 := idxS_miss (fun j hj => by
          rw [at8_extS (by omega) (by omega), Nat.zero_add]; exact g3 j (by omega))
        have ih0 := splS_all c p q hpq hc n (s.extract 0 i) (by omega)
        rw [(splS_none hn0).2] at ih0
        rw [(splS_some h).2, List.all_cons, ← ih]
        have e1 : s.data.toList = (s.extract 0 i).data.toList ++ c :: (s.extract (i + 1) s.size).data.toList := by
          have t1 : (s.extract 0 i).data.toList = s.data.toList.take i := by rw [Lib.extract_data, List.drop_zero, Nat.sub_zero]
          have t2 : (s.extract (i + 1) s.size).data.toList = s.data.toList.drop (i + 1) := by
            rw [Lib.extract_data]; exact List.take_of_length_le (by rw [List.length_drop, len_data]; omega)
          rw [t1, t2, ← g2, ← drop_at8 g1, List.take_append_drop]
        have e3 : allB p s = (allB p (s.extract 0 i) && allB p (s.extract (i + 1) s.size)) := by
          unfold allB
          rw [e1, List.all_append, List.all_cons, hc, Bool.true_and]
        rw [e3, ih0]
        simp
theorem hst_pieces (s : ByteArray) : allB hst8 s = (splS 46 s).all (allB pc8) := by
  refine splS_all 46 hst8 pc8 ?_ rfl s.size s (Nat.le_refl _)
  intro b hb
  unfold hst8 pc8 hstP
  have : ((b.toNat : Int) == 46) = false := by
    rw [beq_eq_false_iff_ne]
    intro hh
    exact hb (UInt8.toNat_inj.1 (by have : b.toNat = 46 := by omega
                                    rw [this]; rfl))
  rw [this, Bool.or_false]
theorem pcP_vis {n : Int} (h : hstP n = true) : visP n = true := by
  unfold hstP pcP digP at h
  unfold visP
  simp at h ⊢
  omega
theorem allB_mono {p q : UInt8 → Bool} {s : ByteArray} (h : allB p s = true) (hpq : ∀ b, p b = true → q b = true) : allB q s = true := by
  unfold allB at *
  rw [List.all_eq_true] at *
  intro b hb
  exact hpq b (h b hb)
theorem host_vis {s : ByteArray} (h : allB hst8 s = true) : allB vis8 s = true := allB_mono h (fun b hb => pcP_vis hb)
end Go.Proofs.YtmhohponikolfaaGreatDoor
namespace Go.Proofs.YtmhohponikolfaaGreatDoor
set_option linter.unusedVariables false
set_option linter.unusedSimpArgs false
open Go.RowKit

/-- The value v is a slice of the call's own that holds the texts l; nothing that was there in w0 has turned. -/
structure BufS (w0 w : World) (v : Value) (l : List ByteArray) : Prop where
  below : Below w0.heap.size w0 w
  own : w.ownsRow w0.heap.size 9 1 v l.length (l.map Value.string)

theorem Tryz.infoStr : (Tryz.prog.info? 9).map (fun i => (i.zero, i.size, i.bytes)) = some (some (.string ⟨#[]⟩), 1, 16) := by kernel_rfl

theorem BufS.start (w : World) : BufS w w (.slice none 0 0) [] := ⟨Below.refl _ _, World.ownsRow_nil _ _ _ _⟩
theorem BufS.alloc {w0 w : World} {v : Value} {l : List ByteArray} (h : BufS w0 w v l) (o : Obj) : BufS w0 (w.alloc o) v l :=
  ⟨h.below.alloc h.below.size o, h.own.alloc o⟩
theorem BufS.form {w0 w : World} {v : Value} {l : List ByteArray} (h : BufS w0 w v l) : ∃ (a : Option Addr) (c : Nat), v = .slice a l.length c := by
  rcases h.own.2 with ⟨h1, h2⟩ | ⟨g, cap, cur, h1, _⟩
  · exact ⟨none, 0, by rw [h1, h2]⟩
  · exact ⟨_, _, h1⟩
/-- A call that leaves all old blocks alone leaves the row. -/
theorem BufS.later {w0 w w' : World} {v : Value} {l : List ByteArray} (h : BufS w0 w v l) (hb : Below w.heap.size w w') : BufS w0 w' v l := by
  refine ⟨h.below.trans (hb.mono h.below.size), ?_⟩
  exact h.own.kept (row := none) ⟨hb.os, hb.tape, hb.output, hb.size, fun k hk _ => hb.block k hk⟩ (by
    cases hv : v.ownBlock with
    | none => exact Or.inl rfl
    | some g => exact Or.inr (by intro e; cases e))
/-- The row's cells, where there is one. -/
theorem BufS.cells {w0 w : World} {v : Value} {l : List ByteArray} (h : BufS w0 w v l) (hl : 0 < l.length) : ∃ g cap, v = .slice (some ⟨g, 0, none⟩) l.length cap ∧ w0.heap.size ≤ g ∧ g < w.heap.size ∧ ∀ j, j < l.length → w.cell? ⟨g, j, none⟩ = some (.string (l.getD j ⟨#[]⟩)) := by
  rcases h.own.2 with ⟨h1, h2⟩ | ⟨g, cap, cur, h1, hg, hh, _⟩
  · omega
  · have hlt := (h.own.lt g (by rw [h1]; rfl)).2
    refine ⟨g, cap, h1, hg, hlt, fun j hj => ?_⟩
    have := h.own.cells (g := g) (by rw [h1]; rfl) j (.string l[j]) (by simp [List.getElem?_eq_getElem hj])
    rw [Addr.add_lit, Nat.zero_add] at this
    rw [this]
    simp [List.getD, List.getElem?_eq_getElem hj]
theorem wp_sapp {ops : Array Oper} {rest : List Oper} {o : Oper} {a : Act} {Q : Exit → Act → World → Prop} {w0 W : World} (hgd : o.guard = none) (s x : Operand)
    (ho : o.op = .call { callee := .builtin .append, args := #[s, x], argTypes := #[26, 26] }) (v : Value) (l : List ByteArray) (hs : a.eval s = v) (hbuf : BufS w0 W v l)
    (y : ByteArray) (hx : a.eval x = .slice (some ⟨W.heap.size, 0, none⟩) 1 1) (hlen : l.length ≤ 1073741824)
    (h : ∀ v' W', BufS w0 W' v' (l ++ [y]) → wpList Tryz.prog ops Q rest (a.put o.dst v') W') :
    wpList Tryz.prog ops Q (o :: rest) a (W.alloc (.cells #[.string y] 9)) := by
  obtain ⟨i0, hi, hz0, hz1, hz2⟩ := info_parts Tryz.infoStr
  refine wpList_append_own _ hgd s x 26 ho w0.heap.size 9 i0 (.string ⟨#[]⟩) 1 16 Tryz.underlying26 hi hz0 hz1 hz2 rfl (by decide) v l.length (l.map Value.string) hs (hbuf.own.alloc _) ⟨W.heap.size, 0, none⟩ 1 1 [.string y] hx rfl (cell_one_new _ _ _) (fun u hu => by simp at hu; subst hu; rfl) (by unfold maxLen; omega) (by omega) (by have := hbuf.below.size; simp; omega) ?_
  intro v' W' hown hgrow _
  refine h v' W' ⟨?_, ?_⟩
  · refine (hbuf.alloc _).below.grown hgrow (by have := hbuf.below.size; simp; omega) ?_
    intro k hk
    exact (hbuf.own.lt k hk).1
  · rw [List.length_append, List.length_singleton, List.map_append]
    exact hown
end Go.Proofs.YtmhohponikolfaaGreatDoor
namespace Go.Proofs
open Go.Shelf
def Tryz.lays221_ren : Go.Shelf.Ren := ⟨fun | 221 => 95 | 268 => 133 | 138 => 134 | 143 => 87 | 195 => 157 | 197 => 158 | 218 => 159 | 219 => 125 | 260 => 181 | 217 => 150 | 225 => 151 | 224 => 152 | 267 => 153 | 266 => 179 | 314 => 180 | n => n, fun | 9 => 9 | 3 => 3 | 31 => 26 | 4 => 4 | 0 => 0 | 105 => 128 | 21 => 21 | 5 => 5 | 46 => 109 | 119 => 161 | 139 => 164 | 138 => 163 | 146 => 147 | 51 => 144 | n => n, fun | 1 => 1 | 3 => 2 | 4 => 3 | n => n⟩
theorem Tryz.lays221 : Go.Proofs.Lays.n221 Tryz.prog Tryz.lays221_ren := {
  mixed := by kernel_rfl
  f138 := Tryz.func134.trans (congrArg some (by kernel_rfl))
  f143 := Tryz.func87.trans (congrArg some (by kernel_rfl))
  f195 := Tryz.func157.trans (congrArg some (by kernel_rfl))
  f197 := Tryz.func158.trans (congrArg some (by kernel_rfl))
  f217 := Tryz.func150.trans (congrArg some (by kernel_rfl))
  f218 := Tryz.func159.trans (congrArg some (by kernel_rfl))
  f219 := Tryz.func125.trans (congrArg some (by kernel_rfl))
  f221 := Tryz.func95.trans (congrArg some (by kernel_rfl))
  f224 := Tryz.func152.trans (congrArg some (by kernel_rfl))
  f225 := Tryz.func151.trans (congrArg some (by kernel_rfl))
  f260 := Tryz.func181.trans (congrArg some (by kernel_rfl))
  f266 := Tryz.func179.trans (congrArg some (by kernel_rfl))
  f267 := Tryz.func153.trans (congrArg some (by kernel_rfl))
  f268 := Tryz.func133.trans (congrArg some (by kernel_rfl))
  f314 := Tryz.func180.trans (congrArg some (by kernel_rfl))
  t0 := Tryz.underlying0
  a0 := Tryz.isAgg0
  z0 := Tryz.sizeOf0
  v0 := Tryz.zeroValue0
  t3 := Tryz.underlying3
  a3 := Tryz.isAgg3
  z3 := Tryz.sizeOf3
  v3 := Tryz.zeroValue3
  t4 := Tryz.underlying4
  a4 := Tryz.isAgg4
  z4 := Tryz.sizeOf4
  v4 := Tryz.zeroValue4
  t5 := Tryz.underlying5
  a5 := Tryz.isAgg5
  z5 := Tryz.sizeOf5
  v5 := Tryz.zeroValue5
  t9 := Tryz.underlying9
  a9 := Tryz.isAgg9
  z9 := Tryz.sizeOf9
  v9 := Tryz.zeroValue9
  t21 := Tryz.underlying21
  a21 := Tryz.isAgg21
  z21 := Tryz.sizeOf21
  v21 := Tryz.zeroValue21
  t31 := Tryz.underlying26
  a31 := Tryz.isAgg26
  z31 := Tryz.sizeOf26
  v31 := Tryz.zeroValue26
  t46 := Tryz.underlying109
  a46 := Tryz.isAgg109
  z46 := Tryz.sizeOf109
  v46 := Tryz.zeroValue109
  t51 := Tryz.underlying144
  a51 := Tryz.isAgg144
  z51 := Tryz.sizeOf144
  v51 := Tryz.zeroValue144
  t105 := Tryz.underlying128
  a105 := Tryz.isAgg128
  z105 := Tryz.sizeOf128
  v105 := Tryz.zeroValue128
  t119 := Tryz.underlying161
  a119 := Tryz.isAgg161
  z119 := Tryz.sizeOf161
  t138 := Tryz.underlying163
  a138 := Tryz.isAgg163
  z138 := Tryz.sizeOf163
  v138 := Tryz.zeroValue163
  t139 := Tryz.underlying164
  a139 := Tryz.isAgg164
  z139 := Tryz.sizeOf164
  v139 := Tryz.zeroValue164
  t146 := Tryz.underlying147
  a146 := Tryz.isAgg147
  z146 := Tryz.sizeOf147
  v146 := Tryz.zeroValue147
  g1 := by kernel_rfl
  g3 := by kernel_rfl
  g4 := by kernel_rfl }
end Go.Proofs
namespace Go.Proofs
open Go.Shelf
def Tryz.lays143_ren : Go.Shelf.Ren := ⟨fun | 143 => 87 | 219 => 125 | 217 => 150 | 225 => 151 | 224 => 152 | 267 => 153 | 266 => 179 | 314 => 180 | n => n, fun | 9 => 9 | 3 => 3 | 4 => 4 | 5 => 5 | 46 => 109 | 146 => 147 | 51 => 144 | n => n, fun | 1 => 1 | n => n⟩
theorem Tryz.lays143 : Go.Proofs.Lays.n143 Tryz.prog Tryz.lays143_ren := {
  mixed := by kernel_rfl
  f143 := Tryz.func87.trans (congrArg some (by kernel_rfl))
  f217 := Tryz.func150.trans (congrArg some (by kernel_rfl))
  f219 := Tryz.func125.trans (congrArg some (by kernel_rfl))
  f224 := Tryz.func152.trans (congrArg some (by kernel_rfl))
  f225 := Tryz.func151.trans (congrArg some (by kernel_rfl))
  f266 := Tryz.func179.trans (congrArg some (by kernel_rfl))
  f267 := Tryz.func153.trans (congrArg some (by kernel_rfl))
  f314 := Tryz.func180.trans (congrArg some (by kernel_rfl))
  t3 := Tryz.underlying3
  a3 := Tryz.isAgg3
  z3 := Tryz.sizeOf3
  v3 := Tryz.zeroValue3
  t4 := Tryz.underlying4
  a4 := Tryz.isAgg4
  z4 := Tryz.sizeOf4
  v4 := Tryz.zeroValue4
  t5 := Tryz.underlying5
  a5 := Tryz.isAgg5
  z5 := Tryz.sizeOf5
  v5 := Tryz.zeroValue5
  t9 := Tryz.underlying9
  a9 := Tryz.isAgg9
  z9 := Tryz.sizeOf9
  v9 := Tryz.zeroValue9
  t46 := Tryz.underlying109
  a46 := Tryz.isAgg109
  z46 := Tryz.sizeOf109
  v46 := Tryz.zeroValue109
  t51 := Tryz.underlying144
  a51 := Tryz.isAgg144
  z51 := Tryz.sizeOf144
  v51 := Tryz.zeroValue144
  t146 := Tryz.underlying147
  a146 := Tryz.isAgg147
  z146 := Tryz.sizeOf147
  v146 := Tryz.zeroValue147
  g1 := by kernel_rfl }
end Go.Proofs
namespace Go.Proofs
open Go.Shelf
def Tryz.lays156_ren : Go.Shelf.Ren := ⟨fun | 156 => 55 | 165 => 97 | 166 => 98 | 169 => 99 | 240 => 138 | 241 => 139 | 276 => 164 | 277 => 165 | n => n, fun | 31 => 26 | 9 => 9 | 3 => 3 | 4 => 4 | 0 => 0 | 20 => 20 | 72 => 97 | 76 => 101 | 70 => 95 | 37 => 22 | 75 => 100 | 127 => 119 | 164 => 133 | 5 => 5 | 80 => 103 | n => n, fun | n => n⟩
theorem Tryz.lays156 : Go.Proofs.Lays.n156 Tryz.prog Tryz.lays156_ren := {
  mixed := by kernel_rfl
  f156 := Tryz.func55.trans (congrArg some (by kernel_rfl))
  f165 := Tryz.func97.trans (congrArg some (by kernel_rfl))
  f166 := Tryz.func98.trans (congrArg some (by kernel_rfl))
  f169 := Tryz.func99.trans (congrArg some (by kernel_rfl))
  f240 := Tryz.func138.trans (congrArg some (by kernel_rfl))
  f241 := Tryz.func139.trans (congrArg some (by kernel_rfl))
  f276 := Tryz.func164.trans (congrArg some (by kernel_rfl))
  f277 := Tryz.func165.trans (congrArg some (by kernel_rfl))
  t0 := Tryz.underlying0
  a0 := Tryz.isAgg0
  z0 := Tryz.sizeOf0
  v0 := Tryz.zeroValue0
  t3 := Tryz.underlying3
  a3 := Tryz.isAgg3
  z3 := Tryz.sizeOf3
  v3 := Tryz.zeroValue3
  t4 := Tryz.underlying4
  a4 := Tryz.isAgg4
  z4 := Tryz.sizeOf4
  v4 := Tryz.zeroValue4
  t9 := Tryz.underlying9
  a9 := Tryz.isAgg9
  z9 := Tryz.sizeOf9
  v9 := Tryz.zeroValue9
  t20 := Tryz.underlying20
  a20 := Tryz.isAgg20
  z20 := Tryz.sizeOf20
  v20 := Tryz.zeroValue20
  t31 := Tryz.underlying26
  a31 := Tryz.isAgg26
  z31 := Tryz.sizeOf26
  v31 := Tryz.zeroValue26
  t37 := Tryz.underlying22
  a37 := Tryz.isAgg22
  z37 := Tryz.sizeOf22
  v37 := Tryz.zeroValue22
  t70 := Tryz.underlying95
  a70 := Tryz.isAgg95
  z70 := Tryz.sizeOf95
  v70 := Tryz.zeroValue95
  t72 := Tryz.underlying97
  a72 := Tryz.isAgg97
  z72 := Tryz.sizeOf97
  v72 := Tryz.zeroValue97
  t75 := Tryz.underlying100
  a75 := Tryz.isAgg100
  z75 := Tryz.sizeOf100
  v75 := Tryz.zeroValue100
  t76 := Tryz.underlying101
  a76 := Tryz.isAgg101
  z76 := Tryz.sizeOf101
  v76 := Tryz.zeroValue101
  t127 := Tryz.underlying119
  a127 := Tryz.isAgg119
  z127 := Tryz.sizeOf119
  v127 := Tryz.zeroValue119
  t164 := Tryz.underlying133
  a164 := Tryz.isAgg133
  z164 := Tryz.sizeOf133
  v164 := Tryz.zeroValue133 }
end Go.Proofs
namespace Go.Proofs.YtmhohponikolfaaGreatDoor
set_option linter.unusedVariables false
set_option linter.unusedSimpArgs false
open Go.RowKit
theorem IndexS_any (s : ByteArray) (c : UInt8) (w : World) :
    Calls Tryz.prog 87 #[.string s, .string ⟨#[c]⟩] w fun e w' => e = .returned (.int .i64 (Lib.indexB s ⟨#[c]⟩)) ∧ w' = w := by
  rw [idxS_B]
  exact Any.strings_Index_one Tryz.lays143 s c w
theorem CountS_any (s : ByteArray) (c : UInt8) (w : World) :
    Calls Tryz.prog 134 #[.string s, .string ⟨#[c]⟩] w fun e w' => e = .returned (.int .i64 (Lib.countB s ⟨#[c]⟩)) ∧ w' = w := by
  refine (Any.strings_Count_one { Tryz.lays221 with } s c w).mono fun e w' ⟨he, hw⟩ => ⟨?_, hw⟩
  rw [he]
  show _ = Ending.returned (Value.int .i64 ((Lib.count s.data.toList [c] : Nat) : Int))
  rw [Lib.count_one]
  rfl
theorem genSplitS (s : ByteArray) (c : UInt8) (n : Int) (N : Nat) (w : World) (hs : s.size < 4294967281) (hn0 : n ≠ 0) (hn63 : n ≤ 9223372036854775807) (hN : (N : Int) = min (if n < 0 then (Lib.countB s ⟨#[c]⟩ : Int) + 1 else n) ((s.size : Int) + 1)) :
    Calls Tryz.prog 95 #[.string s, .string ⟨#[c]⟩, .int .i64 0, .int .i64 n] w fun e w' =>
      e = .returned (.slice (some ⟨w.heap.size, 0, none⟩) (Lib.splitB ⟨#[c]⟩ 0 (N - 1) s).length N) ∧ w' = w.alloc (.cells (Lib.cellsOf (Lib.splitB ⟨#[c]⟩ 0 (N - 1) s) N) 9) :=
  Any.strings_genSplit_core Tryz.lays221 (by kernel_rfl) s ⟨#[c]⟩ 0 n N w hs (Nat.le_refl _) (Nat.zero_le _) (fun x _ _ => IndexS_any x c _) (CountS_any s c w) hn0 hn63 hN
/-- A whole row of the call's own, as Split hands it back. -/
theorem buf_made (w : World) (l : List ByteArray) (hl : 1 ≤ l.length) (hm : l.length ≤ maxLen) : BufS w (w.alloc (.cells ((l.map Value.string).toArray) 9)) (.slice (some ⟨w.heap.size, 0, none⟩) l.length l.length) l := by
  refine ⟨below_a1 w _, by simp, .inr ⟨w.heap.size, l.length, (l.map Value.string).toArray, rfl, Nat.le_refl _, heap_alloc_new w _, Nat.le_refl _, hm, by simp, ?_⟩⟩
  simp only [Nat.mul_one]
  exact List.take_of_length_le (by simp)
set_option maxHeartbeats 1000000 in
theorem SplitS_any (s : ByteArray) (c : UInt8) (w : World) (hs : s.size ≤ 1048576) :
    Calls Tryz.prog 53 #[.string s, .string ⟨#[c]⟩] w fun e w' => ∃ v, e = .returned v ∧ BufS w w' v (splS c s) := by
  have h1 : 1 ≤ (⟨#[c]⟩ : ByteArray).size := Nat.le_refl _
  have hle := splS_cnt c s
  have hlen := splS_len c s
  have g := genSplitS s c (-1) (cntS c s + 1) w (by omega) (by decide) (by decide) (by rw [if_pos (by decide)]; unfold cntS at hle ⊢; omega)
  rw [Nat.add_sub_cancel] at g
  change Calls _ _ _ w fun e w' => e = .returned (.slice (some ⟨w.heap.size, 0, none⟩) (splS c s).length (cntS c s + 1)) ∧ w' = w.alloc (.cells (Lib.cellsOf (splS c s) (cntS c s + 1)) 9) at g
  rw [← hlen, Lib.cellsOf_full] at g
  have HB := hideB2 (buf_made w (splS c s) (by omega) (by unfold maxLen; omega))
  have HC := hideB2 g
  clear g
  generalize splS c s = L at *
  generalize hA : (L.map Value.string).toArray = arr at *
  clear hA
  generalize hq : L.length = q at *
  clear hq hlen hle
  go_enter Tryz.func53, Tryz.ntmps53
  go_wp2_with (go_at_call 95; refine HC.out.mono ?_; rintro e w' ⟨rfl, hw⟩; rw [hw])
  go_ret
  exact ⟨_, rfl, HB.out⟩
theorem Tryz.extraS : Builder.Extra Tryz.prog Tryz.lays156_ren := { sizeBuilder := by kernel_rfl, liesBuilder := by kernel_rfl, t5 := Tryz.underlying5, a5 := Tryz.isAgg5, z5 := Tryz.sizeOf5, v5 := Tryz.zeroValue5, infoByte := by kernel_rfl, cellsByte := by kernel_rfl, sizeByte := by kernel_rfl, neB5 := by decide }
theorem JoinS_any (w0 w : World) (v : Value) (c : UInt8) (l : List ByteArray) (hb : BufS w0 w v l) (hl : l.length ≤ 4194304) (hlen : (joinS c l).size ≤ 4194304) :
    Calls Tryz.prog 55 #[v, .string ⟨#[c]⟩] w fun e w' => e = .returned (.string (joinS c l)) ∧ Below w.heap.size w w' := by
  rcases hb.own.2 with ⟨h1, h2⟩ | ⟨g, cap, cur, h1, hg, hh, hc, _⟩
  · obtain rfl : l = [] := List.eq_nil_of_length_eq_zero h2
    subst h1
    refine (Any.strings_Join_none Tryz.lays156 Tryz.extraS none 0 ⟨#[c]⟩ w).mono ?_
    rintro e w' ⟨rfl, rfl⟩
    exact ⟨rfl, Below.refl _ _⟩
  · have hlt := (hb.own.lt g (by rw [h1]; rfl)).2
    have hcell : ∀ (j : Nat) x, l[j]? = some x → w.cell? ⟨g, 0 + j, none⟩ = some (.string x) := by
      intro j x hx
      have := hb.own.cells (g := g) (by rw [h1]; rfl) j (.string x) (by simp [hx])
      rwa [Addr.add_lit] at this
    subst h1
    have := Any.strings_Join Tryz.lays156 Tryz.extraS g 0 cap l ⟨#[c]⟩ w hcell hlt (by omega) hc (by
      have e : (joinS c l).size = (Lib.join (l.map (·.data.toList)) [c]).length := by show (Lib.join (l.map (·.data.toList)) [c]).toArray.size = _; simp
      show (Lib.join (l.map (·.data.toList)) [c]).length ≤ _
      omega)
    refine this.mono ?_
    rintro e w' ⟨rfl, hb'⟩
    exact ⟨rfl, hb'⟩
theorem BufS.shrink {w0 w : World} {g cap n : Nat} {l : List ByteArray} (h : BufS w0 w (.slice (some ⟨g, 0, none⟩) n cap) l) (m : Nat) (hm : m ≤ l.length) : BufS w0 w (.slice (some ⟨g, 0, none⟩) m cap) (l.take m) := by
  refine ⟨h.below, by simp <;> omega, .inr ?_⟩
  rcases h.own.2 with ⟨h1, _⟩ | ⟨g', cap', cur, h1, hg, hh, hc, hx, hcs, ht⟩
  · cases h1
  · injection h1 with e1 e2 e3
    injection e1 with e1
    injection e1 with e1
    subst e1 e3
    refine ⟨g, cap, cur, by simp <;> omega, hg, hh, by simp <;> omega, hx, hcs, ?_⟩
    have := congrArg (List.take m) ht
    rw [List.take_take, ← List.map_take] at this
    rw [← this]
    congr 1
    simp <;> omega
end Go.Proofs.YtmhohponikolfaaGreatDoor
namespace Go.Proofs.YtmhohponikolfaaGreatDoor
set_option linter.unusedVariables false
set_option linter.unusedSimpArgs false
open Go.RowKit
theorem targQ_no1 {s : ByteArray} (h : withinB (s.size : Int) 1 200 = false) : targQ s = false := by
  unfold targQ; rw [show (decide (1 ≤ (s.size : Int)) && decide ((s.size : Int) ≤ 200)) = false from h]; rfl
theorem targQ_no2 {s : ByteArray} (h : allB vis8 s = false) : targQ s = false := by unfold targQ; rw [h]; simp
theorem targQ_yes {s : ByteArray} (h1 : withinB (s.size : Int) 1 200 = true) (h : allB vis8 s = true) : targQ s = true := by
  unfold targQ; rw [show (decide (1 ≤ (s.size : Int)) && decide ((s.size : Int) ≤ 200)) = true from h1, h]; rfl
set_option maxHeartbeats 1000000 in
theorem targetOk_any (s : ByteArray) (w : World) (hs : s.size ≤ maxLen) :
    Calls Tryz.prog 41 #[.string s] w fun e w' => e = .returned (.bool (targQ s)) ∧ w' = w := by
  unfold maxLen at hs
  cases h1 : withinB (s.size : Int) 1 200
  · have hf := hideB2 (targQ_no1 h1)
    go_enter Tryz.func41, Tryz.ntmps41
    go_wp2_with (go_at_call 86; refine (within_any _ _ _ _).mono ?_; rintro e w' ⟨rfl, rfl⟩; rw [h1])
    go_ret
    exact ⟨ret_bool hf.out, rfl⟩
  · have H1 := hideB2 h1
    clear h1
    go_enter Tryz.func41, Tryz.ntmps41
    go_wp2_with (go_at_call 86; refine (within_any _ _ _ _).mono ?_; rintro e w' ⟨rfl, rfl⟩; rw [H1.out])
    go_loop [10] (fun i => ∃ k : Nat, k ≤ s.size ∧ i = .int .i64 k ∧ ∀ j, j < k → vis8 (at8 s j) = true) (fun i => s.size - (intOf i).toNat)
    case atStart => exact ⟨0, Nat.zero_le _, rfl, fun j hj => by omega⟩
    case round =>
      obtain ⟨k, hk, rfl, hall⟩ := hrel
      have Hall : Hid (∀ j, j < k → vis8 (at8 s j) = true) := hall
      clear hall
      by_cases hlt : k < s.size
      · have e64 : wrap64 (s[k].toNat : Int) = (s[k].toNat : Int) := by
          have h1 := u8_hi s[k]
          have h2 := u8_lo s[k]
          unfold wrap64
          omega
        cases hg0 : vis8 (at8 s k)
        · have hg := hideB2 (show withinB (s[k].toNat : Int) 33 126 = false by rw [at8_eq s k hlt]; exact hg0)
          have hfin : Hid (targQ s = false) := targQ_no2 (allB_no hlt hg0)
          clear hg0
          go_wp2_with (go_at_call 86; refine (within_any _ _ _ _).mono ?_; rintro e w' ⟨rfl, rfl⟩; rw [e64, hg.out])
          go_ret
          exact ⟨ret_bool hfin.out, rfl⟩
        · have hg := hideB2 (show withinB (s[k].toNat : Int) 33 126 = true by rw [at8_eq s k hlt]; exact hg0)
          have Hg : Hid (vis8 (at8 s k) = true) := hg0
          clear hg0
          go_wp2_with (go_at_call 86; refine (within_any _ _ _ _).mono ?_; rintro e w' ⟨rfl, rfl⟩; rw [e64, hg.out])
          go_round
          case rel => exact ⟨k + 1, by omega, by go_num, all_succ Hall.out Hg.out⟩
          case measure => simp [intOf]; omega
      · have hfin : Hid (targQ s = true) := targQ_yes H1.out (allB_yes (fun j hj => Hall.out j (by omega)))
        go_wp2
        go_ret
        exact ⟨ret_bool hfin.out, rfl⟩
theorem vis_int (n : Int) : visP n = (!decide (n < 33) && !decide (126 < n)) := by
  unfold visP
  by_cases h1 : n < 33 <;> by_cases h2 : 126 < n <;> simp [h1, h2] <;> omega
set_option maxHeartbeats 1000000 in
theorem l6visible_any (s : ByteArray) (w : World) (hs : s.size ≤ maxLen) :
    Calls Tryz.prog 57 #[.string s] w fun e w' => e = .returned (.bool (decide (0 < (s.size : Int)) && allB vis8 s)) ∧ w' = w := by
  unfold maxLen at hs
  generalize hR : (decide (0 < (s.size : Int)) && allB vis8 s) = R
  have HR := hideB2 hR
  clear hR
  go_enter Tryz.func57, Tryz.ntmps57
  go_wp2
  go_loop [3] (fun i => ∃ k : Nat, k ≤ s.size ∧ i = .int .i64 k ∧ ∀ j, j < k → vis8 (at8 s j) = true) (fun i => s.size - (intOf i).toNat)
  case atStart => exact ⟨0, Nat.zero_le _, rfl, fun j hj => by omega⟩
  case round =>
    obtain ⟨k, hk, rfl, hall⟩ := hrel
    have Hall : Hid (∀ j, j < k → vis8 (at8 s j) = true) := hall
    clear hall
    by_cases hlt : k < s.size
    · have hat : (s[k].toNat : Int) = ((at8 s k).toNat : Int) := by rw [at8_eq s k hlt]
      by_cases h33 : (s[k].toNat : Int) < 33
      · have hfin : Hid (R = false) := by
          show R = false
          rw [← HR.out, allB_no hlt (by unfold vis8; rw [← hat, vis_int]; simp [h33]), Bool.and_false]
        clear hat
        go_wp2
        go_ret
        exact ⟨ret_bool hfin.out, rfl⟩
      · by_cases h126 : (126 : Int) < (s[k].toNat : Int)
        · have hfin : Hid (R = false) := by
            show R = false
            rw [← HR.out, allB_no hlt (by unfold vis8; rw [← hat, vis_int]; simp [h126]), Bool.and_false]
          clear hat
          have d33 : decide ((s[k].toNat : Int) < 33) = false := decide_eq_false h33
          go_wp2
          go_ret
          exact ⟨ret_bool hfin.out, rfl⟩
        · have Hg : Hid (vis8 (at8 s k) = true) := by
            show vis8 _ = true
            unfold vis8; rw [← hat, vis_int]; simp [h33, h126]
          clear hat
          have d33 : decide ((s[k].toNat : Int) < 33) = false := decide_eq_false h33
          have d126 : decide ((126 : Int) < (s[k].toNat : Int)) = false := decide_eq_false h126
          go_wp2
          go_round
          case rel => exact ⟨k + 1, by omega, by go_num, all_succ Hall.out Hg.out⟩
          case measure => simp [intOf]; omega
    · have hfin : Hid (R = decide (0 < s.size)) := by
        show R = _
        rw [← HR.out, allB_yes (fun j hj => Hall.out j (by omega)), Bool.and_true]
        apply decide_eq_decide.2
        omega
      go_wp2
      go_ret
      exact ⟨ret_bool hfin.out, rfl⟩
end Go.Proofs.YtmhohponikolfaaGreatDoor
namespace Go.Proofs.YtmhohponikolfaaGreatDoor
set_option linter.unusedVariables false
set_option linter.unusedSimpArgs false
open Go.RowKit


theorem hideB3 {p : Prop} (h : p) : Hid p := h
theorem letP_yes {n : Int} (h1 : 97 ≤ lowI n) (h2 : lowI n ≤ 122) : letP n = true := by simp [letP, h1, h2]
theorem letP_no {n : Int} (h : lowI n < 97 ∨ 122 < lowI n) : letP n = false := by
  unfold letP
  rcases h with h | h
  · simp [show ¬ 97 ≤ lowI n by omega]
  · simp [show ¬ lowI n ≤ 122 by omega]
/-- The signs of impl's token, as the text has them. -/
theorem tokSigns_at (k : Nat) (hk : k < (⟨#[33, 35, 36, 37, 38, 39, 42, 43, 45, 46, 94, 95, 124, 126, 96]⟩ : ByteArray).size) : (⟨#[33, 35, 36, 37, 38, 39, 42, 43, 45, 46, 94, 95, 124, 126, 96]⟩ : ByteArray)[k] = tokSigns.getD k 0 := by
  rw [at8_eq _ k hk]; rfl
set_option maxHeartbeats 1000000 in
theorem letterByte_any (n : Int) (w : World) (h0 : 0 ≤ n) (h1 : n ≤ 255) :
    Calls Tryz.prog 143 #[.int .u8 n] w fun e w' => e = .returned (.bool (letP n)) ∧ w' = w := by
  unfold letP
  generalize hm : lowI n = m
  have HM := hideB3 hm
  clear hm
  by_cases hl : 97 ≤ m
  · go_enter Tryz.func143, Tryz.ntmps143
    go_wp2_with (go_at_call 89; refine (smallByte_any _ _ h0 h1).mono ?_; rintro e w' ⟨rfl, rfl⟩; rw [HM.out])
    go_ret
    exact ⟨ret_bool (by first | (simp [hl]; done) | (simp; omega)), rfl⟩
  · go_enter Tryz.func143, Tryz.ntmps143
    go_wp2_with (go_at_call 89; refine (smallByte_any _ _ h0 h1).mono ?_; rintro e w' ⟨rfl, rfl⟩; rw [HM.out])
    go_ret
    exact ⟨ret_bool (by first | (simp [hl]; done) | (simp; omega)), rfl⟩
set_option maxHeartbeats 1000000 in
theorem tokenByte_sig (n : Int) (w : World) (h0 : 0 ≤ n) (h1 : n ≤ 255) (hl : letP n = false) (hd : digP n = false) :
    Calls Tryz.prog 110 #[.int .u8 n] w fun e w' => e = .returned (.bool (inL tokSigns n)) ∧ w' = w := by
  go_enter Tryz.func110, Tryz.ntmps110
  go_wp2_with (first | (go_at_call 143; refine (letterByte_any _ _ h0 h1).mono ?_; rintro e w' ⟨rfl, rfl⟩; rw [hl]) | (go_at_call 126; refine (digitByte_any _ _).mono ?_; rintro e w' ⟨rfl, rfl⟩))
  go_loop [10] (fun i => ∃ k : Nat, k ≤ 15 ∧ i = .int .i64 k ∧ ∀ j, j < k → ((tokSigns.getD j 0).toNat : Int) ≠ n) (fun i => 15 - (intOf i).toNat)
  case atStart => exact ⟨0, Nat.zero_le _, rfl, fun j hj => by omega⟩
  case round =>
    obtain ⟨k, hk, rfl, hall⟩ := hrel
    have Hall : Hid (∀ j, j < k → ((tokSigns.getD j 0).toNat : Int) ≠ n) := hall
    clear hall
    by_cases hlt : k < 15
    · have hb : k < (⟨#[33, 35, 36, 37, 38, 39, 42, 43, 45, 46, 94, 95, 124, 126, 96]⟩ : ByteArray).size := hlt
      go_wp2
      · have hh : (((⟨#[33, 35, 36, 37, 38, 39, 42, 43, 45, 46, 94, 95, 124, 126, 96]⟩ : ByteArray)[k].toNat : Int) == n) = true := by assumption
        go_ret
        rw [tokSigns_at k hb, beq_iff_eq] at hh
        have hl2 : k < tokSigns.length := hlt
        have e : inL tokSigns n = true := inL_hit hl2 (by rw [← hh, List.getD, List.getElem?_eq_getElem hl2]; rfl)
        exact ⟨ret_bool e, rfl⟩
      · have hh : (((⟨#[33, 35, 36, 37, 38, 39, 42, 43, 45, 46, 94, 95, 124, 126, 96]⟩ : ByteArray)[k].toNat : Int) == n) = false := by assumption
        rw [tokSigns_at k hb, beq_eq_false_iff_ne] at hh
        go_round
        case rel => exact ⟨k + 1, by omega, by go_num, all_succ Hall.out hh⟩
        case measure => simp [intOf]; omega
    · have e : Hid (inL tokSigns n = false) := inL_miss (fun j hj => Hall.out j (by have : tokSigns.length = 15 := rfl; omega))
      go_wp2
      go_ret
      exact ⟨ret_bool e.out, rfl⟩

set_option maxHeartbeats 1000000 in
theorem tokenByte_any (n : Int) (w : World) (h0 : 0 ≤ n) (h1 : n ≤ 255) :
    Calls Tryz.prog 110 #[.int .u8 n] w fun e w' => e = .returned (.bool (tokP n)) ∧ w' = w := by
  cases hl : letP n
  · cases hd : digP n
    · rw [tokP_sig hl hd]
      exact tokenByte_sig n w h0 h1 hl hd
    · rw [tokP_dig hd]
      go_enter Tryz.func110, Tryz.ntmps110
      go_wp2_with (first | (go_at_call 143; refine (letterByte_any _ _ h0 h1).mono ?_; rintro e w' ⟨rfl, rfl⟩; rw [hl]) | (go_at_call 126; refine (digitByte_any _ _).mono ?_; rintro e w' ⟨rfl, rfl⟩))
      go_ret
      exact ⟨rfl, rfl⟩
  · rw [tokP_let hl]
    go_enter Tryz.func110, Tryz.ntmps110
    go_wp2_with (first | (go_at_call 143; refine (letterByte_any _ _ h0 h1).mono ?_; rintro e w' ⟨rfl, rfl⟩; rw [hl]) | (go_at_call 126; refine (digitByte_any _ _).mono ?_; rintro e w' ⟨rfl, rfl⟩))
    go_ret
    exact ⟨rfl, rfl⟩
set_option maxHeartbeats 1000000 in
theorem l1has_any (s : ByteArray) (n : Int) (w : World) (hs : s.size ≤ maxLen) :
    Calls Tryz.prog 117 #[.string s, .int .u8 n] w fun e w' => e = .returned (.bool (inL s.data.toList n)) ∧ w' = w := by
  unfold maxLen at hs
  go_enter Tryz.func117, Tryz.ntmps117
  go_wp2
  go_loop [5] (fun i => ∃ k : Nat, k ≤ s.size ∧ i = .int .i64 k ∧ ∀ j, j < k → ((s.data.toList.getD j 0).toNat : Int) ≠ n) (fun i => s.size - (intOf i).toNat)
  case atStart => exact ⟨0, Nat.zero_le _, rfl, fun j hj => by omega⟩
  case round =>
    obtain ⟨k, hk, rfl, hall⟩ := hrel
    have Hall : Hid (∀ j, j < k → ((s.data.toList.getD j 0).toNat : Int) ≠ n) := hall
    clear hall
    by_cases hlt : k < s.size
    · have hl2 : k < s.data.toList.length := by simpa using hlt
      have hat : s[k] = s.data.toList.getD k 0 := at8_eq s k hlt
      have Hat : Hid (s[k] = s.data.toList.getD k 0) := hat
      clear hat
      cases hq : ((s[k].toNat : Int) == n)
      · go_wp2
        go_round
        case rel => exact ⟨k + 1, by omega, by go_num, all_succ Hall.out (by rw [← Hat.out]; simpa using hq)⟩
        case measure => simp [intOf]; omega
      · have e : Hid (inL s.data.toList n = true) := inL_hit hl2 (by rw [beq_iff_eq] at hq; rw [← hq, Hat.out, List.getD, List.getElem?_eq_getElem hl2]; rfl)
        go_wp2
        go_ret
        exact ⟨ret_bool e.out, rfl⟩
    · have e : Hid (inL s.data.toList n = false) := inL_miss (fun j hj => Hall.out j (by have := len_data s; omega))
      go_wp2
      go_ret
      exact ⟨ret_bool e.out, rfl⟩
set_option maxHeartbeats 1000000 in
theorem l1tchar_any (n : Int) (w : World) (h0 : 0 ≤ n) (h1 : n ≤ 255) :
    Calls Tryz.prog 74 #[.int .u8 n] w fun e w' => e = .returned (.bool (tokP n)) ∧ w' = w := by
  by_cases hl : 97 ≤ lowI n ∧ lowI n ≤ 122
  · obtain ⟨hl1, hl2⟩ := hl
    rw [tokP_let (letP_yes hl1 hl2)]
    go_enter Tryz.func74, Tryz.ntmps74
    go_wp2_with (first | (go_at_call 76; refine (l1lower_any _ _ (by omega) (by omega)).mono ?_; rintro e w' ⟨rfl, rfl⟩) | (go_at_call 103; refine (l1digit_any _ _).mono ?_; rintro e w' ⟨rfl, rfl⟩) | (go_at_call 117; refine (l1has_any _ _ _ (by decide)).mono ?_; rintro e w' ⟨rfl, rfl⟩))
    go_ret
    exact ⟨rfl, rfl⟩
  · have hl' : lowI n < 97 ∨ 122 < lowI n := by omega
    have hl2 : lowI n < 97 ∨ (122 < lowI n ∧ decide (lowI n ≤ 122) = false) := by
      rcases hl' with h | h
      · exact Or.inl h
      · exact Or.inr ⟨h, by simp; omega⟩
    clear hl
    cases hd : digP n
    · cases h96 : (n == 96)
      · rw [tokP_14 (letP_no hl') hd h96]
        rcases hl2 with hl | ⟨hl, hl3⟩
        all_goals
          go_enter Tryz.func74, Tryz.ntmps74
          go_wp2_with (first | (go_at_call 76; refine (l1lower_any _ _ (by omega) (by omega)).mono ?_; rintro e w' ⟨rfl, rfl⟩) | (go_at_call 103; refine (l1digit_any _ _).mono ?_; rintro e w' ⟨rfl, rfl⟩) | (go_at_call 117; refine (l1has_any _ _ _ (by decide)).mono ?_; rintro e w' ⟨rfl, rfl⟩))
          go_ret
          exact ⟨rfl, rfl⟩
      · rw [tokP_96 (letP_no hl') hd h96]
        rcases hl2 with hl | ⟨hl, hl3⟩
        all_goals
          go_enter Tryz.func74, Tryz.ntmps74
          go_wp2_with (first | (go_at_call 76; refine (l1lower_any _ _ (by omega) (by omega)).mono ?_; rintro e w' ⟨rfl, rfl⟩) | (go_at_call 103; refine (l1digit_any _ _).mono ?_; rintro e w' ⟨rfl, rfl⟩) | (go_at_call 117; refine (l1has_any _ _ _ (by decide)).mono ?_; rintro e w' ⟨rfl, rfl⟩))
          go_ret
          exact ⟨rfl, rfl⟩
    · rw [tokP_dig hd]
      rcases hl2 with hl | ⟨hl, hl3⟩
      all_goals
        go_enter Tryz.func74, Tryz.ntmps74
        go_wp2_with (first | (go_at_call 76; refine (l1lower_any _ _ (by omega) (by omega)).mono ?_; rintro e w' ⟨rfl, rfl⟩) | (go_at_call 103; refine (l1digit_any _ _).mono ?_; rintro e w' ⟨rfl, rfl⟩) | (go_at_call 117; refine (l1has_any _ _ _ (by decide)).mono ?_; rintro e w' ⟨rfl, rfl⟩))
        go_ret
        exact ⟨rfl, rfl⟩
set_option maxHeartbeats 1000000 in
theorem Token_any (s : ByteArray) (w : World) (hs : s.size ≤ maxLen) :
    Calls Tryz.prog 68 #[.string s] w fun e w' => e = .returned (.bool (tokB s)) ∧ w' = w := by
  unfold maxLen at hs
  by_cases h0 : s.size = 0
  · rw [tokB_size (Or.inl h0)]
    have hne : s.toList.isEmpty = true := by rw [ByteArray.toList_eq, List.isEmpty_iff, ← List.length_eq_zero_iff, Array.length_toList]; exact h0
    go_enter Tryz.func68, Tryz.ntmps68
    go_wp2
    go_ret
    exact ⟨rfl, rfl⟩
  · have hne : s.toList.isEmpty = false := by
      rw [ByteArray.toList_eq, List.isEmpty_eq_false_iff]
      intro hh
      apply h0
      show s.data.size = 0
      rw [← Array.length_toList, hh]; rfl
    have hne2 : ((s.size : Int) == 0) = false := by rw [Bool.eq_false_iff, ne_eq, beq_iff_eq]; omega
    by_cases hbig : (4000 : Int) < (s.size : Int)
    · rw [tokB_size (Or.inr (by omega))]
      go_enter Tryz.func68, Tryz.ntmps68
      go_wp2
      go_ret
      exact ⟨rfl, rfl⟩
    · go_enter Tryz.func68, Tryz.ntmps68
      go_wp2
      clear hne hne2
      go_loop [13] (fun i => ∃ k : Nat, k ≤ s.size ∧ i = .int .i64 k ∧ ∀ j, j < k → tok8 (at8 s j) = true) (fun i => s.size - (intOf i).toNat)
      case atStart => exact ⟨0, Nat.zero_le _, rfl, fun j hj => by omega⟩
      case round =>
        obtain ⟨k, hk, rfl, hall⟩ := hrel
        have Hall : Hid (∀ j, j < k → tok8 (at8 s j) = true) := hall
        clear hall
        by_cases hlt : k < s.size
        · cases hg0 : tok8 (at8 s k)
          · have hg : tokP (s[k].toNat : Int) = false := by rw [at8_eq s k hlt]; exact hg0
            have hfin : Hid (tokB s = false) := tokB_no hlt hg0
            clear hg0
            go_wp2_with (go_at_call 110; refine (tokenByte_any _ _ (u8_lo _) (u8_hi _)).mono ?_; rintro e w' ⟨rfl, rfl⟩)
            go_ret
            exact ⟨ret_bool hfin.out, rfl⟩
          · have hg : tokP (s[k].toNat : Int) = true := by rw [at8_eq s k hlt]; exact hg0
            have Hg : Hid (tok8 (at8 s k) = true) := hg0
            clear hg0
            go_wp2_with (go_at_call 110; refine (tokenByte_any _ _ (u8_lo _) (u8_hi _)).mono ?_; rintro e w' ⟨rfl, rfl⟩)
            go_round
            case rel => exact ⟨k + 1, by omega, by go_num, all_succ Hall.out Hg.out⟩
            case measure => simp [intOf]; omega
        · have hfin : Hid (tokB s = true) := tokB_yes (by omega) (by omega) (fun j hj => Hall.out j (by omega))
          go_wp2
          go_ret
          exact ⟨ret_bool hfin.out, rfl⟩
set_option maxHeartbeats 1000000 in
theorem sToken_any (s : ByteArray) (w : World) (hs : s.size ≤ maxLen) :
    Calls Tryz.prog 32 #[.string s] w fun e w' => e = .returned (.bool (tokB s)) ∧ w' = w := by
  unfold maxLen at hs
  by_cases h0 : s.size = 0
  · rw [tokB_size (Or.inl h0)]
    have hne : ((s.size : Int) == 0) = true := by rw [beq_iff_eq]; omega
    go_enter Tryz.func32, Tryz.ntmps32
    go_wp2
    go_ret
    exact ⟨rfl, rfl⟩
  · have hne : s.toList.isEmpty = false := by
      rw [ByteArray.toList_eq, List.isEmpty_eq_false_iff]
      intro hh
      apply h0
      show s.data.size = 0
      rw [← Array.length_toList, hh]; rfl
    have hne2 : ((s.size : Int) == 0) = false := by rw [Bool.eq_false_iff, ne_eq, beq_iff_eq]; omega
    by_cases hbig : (4000 : Int) < (s.size : Int)
    · rw [tokB_size (Or.inr (by omega))]
      go_enter Tryz.func32, Tryz.ntmps32
      go_wp2
      go_ret
      exact ⟨rfl, rfl⟩
    · go_enter Tryz.func32, Tryz.ntmps32
      go_wp2
      clear hne hne2
      go_loop [3] (fun i => ∃ k : Nat, k ≤ s.size ∧ i = .int .i64 k ∧ ∀ j, j < k → tok8 (at8 s j) = true) (fun i => s.size - (intOf i).toNat)
      case atStart => exact ⟨0, Nat.zero_le _, rfl, fun j hj => by omega⟩
      case round =>
        obtain ⟨k, hk, rfl, hall⟩ := hrel
        have Hall : Hid (∀ j, j < k → tok8 (at8 s j) = true) := hall
        clear hall
        by_cases hlt : k < s.size
        · cases hg0 : tok8 (at8 s k)
          · have hg : tokP (s[k].toNat : Int) = false := by rw [at8_eq s k hlt]; exact hg0
            have hfin : Hid (tokB s = false) := tokB_no hlt hg0
            clear hg0
            go_wp2_with (go_at_call 74; refine (l1tchar_any _ _ (u8_lo _) (u8_hi _)).mono ?_; rintro e w' ⟨rfl, rfl⟩)
            go_ret
            exact ⟨ret_bool hfin.out, rfl⟩
          · have hg : tokP (s[k].toNat : Int) = true := by rw [at8_eq s k hlt]; exact hg0
            have Hg : Hid (tok8 (at8 s k) = true) := hg0
            clear hg0
            go_wp2_with (go_at_call 74; refine (l1tchar_any _ _ (u8_lo _) (u8_hi _)).mono ?_; rintro e w' ⟨rfl, rfl⟩)
            go_round
            case rel => exact ⟨k + 1, by omega, by go_num, all_succ Hall.out Hg.out⟩
            case measure => simp [intOf]; omega
        · have hfin : Hid (tokB s = true) := tokB_yes (by omega) (by omega) (fun j hj => Hall.out j (by omega))
          go_wp2
          go_ret
          exact ⟨ret_bool hfin.out, rfl⟩
end Go.Proofs.YtmhohponikolfaaGreatDoor
namespace Go.Proofs.YtmhohponikolfaaGreatDoor
set_option linter.unusedVariables false
set_option linter.unusedSimpArgs false
open Go.RowKit

theorem ret_ib6 {k : IntKind} {n m : Int} {a b : Bool} (h : m = n) (h' : b = a) : Ending.returned (.tuple #[.int k n, .bool a]) = .returned (.tuple #[.int k m, .bool b]) := by rw [h, h']
theorem hexV_neg {n : Int} (h : hexV n < 0) : digP n = false ∧ (lowI n < 97 ∨ 102 < lowI n) := by
  unfold hexV at h
  split at h
  · rename_i hd; rw [digP_iff] at hd; omega
  · rename_i hd
    split at h
    · omega
    · exact ⟨by simpa using hd, by omega⟩
theorem hexV_pos {n : Int} (h : 0 ≤ hexV n) : (digP n = true ∧ hexV n = n - 48) ∨ (digP n = false ∧ 97 ≤ lowI n ∧ lowI n ≤ 102 ∧ hexV n = lowI n - 87) := by
  cases hd : digP n
  · right
    by_cases hl : 97 ≤ lowI n ∧ lowI n ≤ 102
    · exact ⟨rfl, hl.1, hl.2, hexV_let hd hl.1 hl.2⟩
    · rw [hexV_no hd (by omega)] at h; omega
  · left; exact ⟨rfl, hexV_dig hd⟩
set_option maxHeartbeats 1000000 in
theorem hexValue_any (n : Int) (w : World) (h0 : 0 ≤ n) (h1 : n ≤ 255) :
    Calls Tryz.prog 182 #[.int .u8 n] w fun e w' => e = .returned (.int .i64 (hexV n)) ∧ w' = w := by
  cases hd : digP n
  · by_cases hl : 97 ≤ lowI n ∧ lowI n ≤ 102
    · obtain ⟨ha, hb⟩ := hl
      rw [hexV_let hd ha hb]
      go_enter Tryz.func182, Tryz.ntmps182
      go_wp2_with (first | (go_at_call 89; refine (smallByte_any _ _ (by omega) (by omega)).mono ?_; rintro e w' ⟨rfl, rfl⟩) | (go_at_call 126; refine (digitByte_any _ _).mono ?_; rintro e w' ⟨rfl, rfl⟩))
      go_ret
      exact ⟨ret_int (by omega), rfl⟩
    · have hl' : lowI n < 97 ∨ 102 < lowI n := by omega
      rw [hexV_no hd hl']
      have hl2 : lowI n < 97 ∨ (102 < lowI n ∧ decide (lowI n ≤ 102) = false) := by
        rcases hl' with h | h
        · exact Or.inl h
        · exact Or.inr ⟨h, by simp; omega⟩
      clear hl hl'
      rcases hl2 with hl | ⟨hl, hl3⟩
      all_goals
        go_enter Tryz.func182, Tryz.ntmps182
        go_wp2_with (first | (go_at_call 89; refine (smallByte_any _ _ (by omega) (by omega)).mono ?_; rintro e w' ⟨rfl, rfl⟩) | (go_at_call 126; refine (digitByte_any _ _).mono ?_; rintro e w' ⟨rfl, rfl⟩))
        go_ret
        exact ⟨rfl, rfl⟩
  · have hb := digP_iff.1 hd
    rw [hexV_dig hd]
    go_enter Tryz.func182, Tryz.ntmps182
    go_wp2_with (first | (go_at_call 89; refine (smallByte_any _ _ (by omega) (by omega)).mono ?_; rintro e w' ⟨rfl, rfl⟩) | (go_at_call 126; refine (digitByte_any _ _).mono ?_; rintro e w' ⟨rfl, rfl⟩))
    go_ret
    exact ⟨rfl, rfl⟩
set_option maxHeartbeats 1000000 in
theorem ReadHex_any (s : ByteArray) (w : World) (hs : s.size ≤ maxLen) :
    Calls Tryz.prog 160 #[.string s] w fun e w' => e = .returned (.tuple #[.int .i64 (rhexN s), .bool (rhexOk s)]) ∧ w' = w := by
  unfold maxLen at hs
  by_cases h0 : s.size = 0
  · have hr := rhex_size (Or.inl h0)
    have hne : s.toList.isEmpty = true := by rw [ByteArray.toList_eq, List.isEmpty_iff, ← List.length_eq_zero_iff, Array.length_toList]; exact h0
    rw [hr.1, hr.2]
    clear hr
    go_enter Tryz.func160, Tryz.ntmps160
    go_wp2
    go_ret2
    exact ⟨rfl, rfl⟩
  · have hne2 : s.toList.isEmpty = false := by
      rw [ByteArray.toList_eq, List.isEmpty_eq_false_iff]
      intro hh
      apply h0
      rw [← len_data, hh]; rfl
    by_cases hbig : (7 : Int) < (s.size : Int)
    · have hr := rhex_size (s := s) (Or.inr (by omega))
      rw [hr.1, hr.2]
      clear hr
      go_enter Tryz.func160, Tryz.ntmps160
      go_wp2
      go_ret2
      exact ⟨rfl, rfl⟩
    · go_enter Tryz.func160, Tryz.ntmps160
      go_wp2
      clear hne2
      go_loop [4, 16] (fun n i => ∃ k : Nat, k ≤ s.size ∧ i = .int .i64 k ∧ n = .int .i64 (hval (s.data.toList.take k)) ∧ allHex (s.data.toList.take k) = true) (fun _ i => s.size - (intOf i).toNat)
      case atStart => exact ⟨0, Nat.zero_le _, rfl, rfl, rfl⟩
      case round =>
        obtain ⟨k, hk, rfl, rfl, hall⟩ := hrel
        have Hall : Hid (allHex (s.data.toList.take k) = true) := hall
        obtain ⟨hv0, hv1⟩ := hval_small s k (by omega) hall
        clear hall
        by_cases hlt : k < s.size
        · have hlo := u8_lo s[k]
          have hhi := u8_hi s[k]
          have hn0 : hexV (s[k].toNat : Int) = hex8 (at8 s k) := by rw [at8_eq s k hlt]; rfl
          by_cases hg0 : hex8 (at8 s k) < 0
          · have hfin : Hid (rhexN s = 0 ∧ rhexOk s = false) := rhex_no hlt hg0
            have hneg : hexV (s[k].toNat : Int) < 0 := by rw [hn0]; exact hg0
            clear hg0 hn0
            generalize hval (s.data.toList.take k) = v at *
            go_wp2_with (go_at_call 182; refine (hexValue_any _ _ (by omega) (by omega)).mono ?_; rintro e w' ⟨rfl, rfl⟩)
            go_ret2
            exact ⟨ret_ib6 hfin.out.1 hfin.out.2, rfl⟩
          · have hvq : Hid (hval (s.data.toList.take (k + 1)) = hval (s.data.toList.take k) * 16 + hexV (s[k].toNat : Int)) := by
              show _ = _
              rw [allDig_take_succ s k hlt, hval_snoc, hn0]
            have Hall2 : Hid (allHex (s.data.toList.take (k + 1)) = true) := by
              show _ = _
              rw [allDig_take_succ s k hlt]; exact allHex_snoc _ _ Hall.out (by omega)
            have hpos : 0 ≤ hexV (s[k].toNat : Int) := by rw [hn0]; omega
            have hp15 := (hexV_bd (s[k].toNat : Int)).2
            clear hg0 hn0
            generalize hval (s.data.toList.take k) = v at *
            go_wp2_with (go_at_call 182; refine (hexValue_any _ _ (by omega) (by omega)).mono ?_; rintro e w' ⟨rfl, rfl⟩)
            go_round
            case rel => exact ⟨k + 1, by omega, by go_num, congrArg (Value.int .i64) (by rw [hvq.out]), Hall2.out⟩
            case measure => simp [intOf]; omega
        · obtain rfl : k = s.size := by omega
          have ht : s.data.toList.take s.size = s.data.toList := List.take_of_length_le (by rw [len_data]; exact Nat.le_refl _)
          rw [ht] at Hall hv0 hv1 ⊢
          have hfin : Hid (rhexN s = hval s.data.toList ∧ rhexOk s = true) := rhex_yes (by omega) (by omega) Hall.out
          clear ht
          generalize hval s.data.toList = v at *
          go_wp2
          go_ret2
          exact ⟨ret_ib6 hfin.out.1 hfin.out.2, rfl⟩
set_option maxHeartbeats 1000000 in
theorem sReadHex_any (s : ByteArray) (w : World) (hs : s.size ≤ maxLen) :
    Calls Tryz.prog 100 #[.string s] w fun e w' => e = .returned (.tuple #[.int .i64 (rhexN s), .bool (rhexOk s)]) ∧ w' = w := by
  unfold maxLen at hs
  by_cases h0 : s.size = 0
  · have hr := rhex_size (Or.inl h0)
    have hne : ((s.size : Int) == 0) = true := by rw [beq_iff_eq]; omega
    rw [hr.1, hr.2]
    clear hr
    go_enter Tryz.func100, Tryz.ntmps100
    go_wp2
    go_ret2
    exact ⟨rfl, rfl⟩
  · have hne2 : ((s.size : Int) == 0) = false := by rw [Bool.eq_false_iff, ne_eq, beq_iff_eq]; omega
    by_cases hbig : (7 : Int) < (s.size : Int)
    · have hr := rhex_size (s := s) (Or.inr (by omega))
      rw [hr.1, hr.2]
      clear hr
      go_enter Tryz.func100, Tryz.ntmps100
      go_wp2
      go_ret2
      exact ⟨rfl, rfl⟩
    · go_enter Tryz.func100, Tryz.ntmps100
      go_wp2
      clear hne2
      go_loop [4, 5] (fun n i => ∃ k : Nat, k ≤ s.size ∧ i = .int .i64 k ∧ n = .int .i64 (hval (s.data.toList.take k)) ∧ allHex (s.data.toList.take k) = true) (fun _ i => s.size - (intOf i).toNat)
      case atStart => exact ⟨0, Nat.zero_le _, rfl, rfl, rfl⟩
      case round =>
        obtain ⟨k, hk, rfl, rfl, hall⟩ := hrel
        have Hall : Hid (allHex (s.data.toList.take k) = true) := hall
        obtain ⟨hv0, hv1⟩ := hval_small s k (by omega) hall
        clear hall
        by_cases hlt : k < s.size
        · have hlo := u8_lo s[k]
          have hhi := u8_hi s[k]
          have hn0 : hexV (s[k].toNat : Int) = hex8 (at8 s k) := by rw [at8_eq s k hlt]; rfl
          by_cases hg0 : hex8 (at8 s k) < 0
          · have hfin : Hid (rhexN s = 0 ∧ rhexOk s = false) := rhex_no hlt hg0
            have hneg : hexV (s[k].toNat : Int) < 0 := by rw [hn0]; exact hg0
            clear hg0 hn0
            generalize hval (s.data.toList.take k) = v at *
            have hno : digP (s[k].toNat : Int) = false ∧ (lowI (s[k].toNat : Int) < 97 ∨ 102 < lowI (s[k].toNat : Int)) := hexV_neg hneg
            obtain ⟨hd, hl⟩ := hno
            rw [← digP_low _ hlo] at hd
            clear hneg
            have hl2 : lowI (s[k].toNat : Int) < 97 ∨ (102 < lowI (s[k].toNat : Int) ∧ decide (lowI (s[k].toNat : Int) ≤ 102) = false) := by
              rcases hl with h | h
              · exact Or.inl h
              · exact Or.inr ⟨h, by simp; omega⟩
            rcases hl2 with hl | ⟨hl, hl3⟩
            all_goals
              go_wp2_with (first | (go_at_call 76; refine (l1lower_any _ _ (by omega) (by omega)).mono ?_; rintro e w' ⟨rfl, rfl⟩) | (go_at_call 103; refine (l1digit_any _ _).mono ?_; rintro e w' ⟨rfl, rfl⟩))
              go_ret2
              exact ⟨ret_ib6 hfin.out.1 hfin.out.2, rfl⟩
          · have hvq : Hid (hval (s.data.toList.take (k + 1)) = hval (s.data.toList.take k) * 16 + hexV (s[k].toNat : Int)) := by
              show _ = _
              rw [allDig_take_succ s k hlt, hval_snoc, hn0]
            have Hall2 : Hid (allHex (s.data.toList.take (k + 1)) = true) := by
              show _ = _
              rw [allDig_take_succ s k hlt]; exact allHex_snoc _ _ Hall.out (by omega)
            have hpos : 0 ≤ hexV (s[k].toNat : Int) := by rw [hn0]; omega
            have hp15 := (hexV_bd (s[k].toNat : Int)).2
            clear hg0 hn0
            generalize hval (s.data.toList.take k) = v at *
            have hyes := hexV_pos hpos
            rcases hyes with ⟨hd, he⟩ | ⟨hd, h97, h102, he⟩
            · have hd' : digP (lowI (s[k].toNat : Int)) = true := by rw [digP_low _ hlo]; exact hd
              have hlow := lowI_dig hd
              have hb := digP_iff.1 hd
              have he' : Hid (hexV (s[k].toNat : Int) = (s[k].toNat : Int) - 48) := he
              have hlo2 : lowI (s[k].toNat : Int) ≤ 57 := by rw [hlow]; exact hb.2
              have hlo3 : 48 ≤ lowI (s[k].toNat : Int) := by rw [hlow]; exact hb.1
              have Hlow : Hid (lowI (s[k].toNat : Int) = (s[k].toNat : Int)) := hlow
              clear he hd hb hlow
              go_wp2_with (first | (go_at_call 76; refine (l1lower_any _ _ (by omega) (by omega)).mono ?_; rintro e w' ⟨rfl, rfl⟩) | (go_at_call 103; refine (l1digit_any _ _).mono ?_; rintro e w' ⟨rfl, rfl⟩))
              go_round
              case rel => exact ⟨k + 1, by omega, by go_num, congrArg (Value.int .i64) (by rw [hvq.out, he'.out, Hlow.out]), Hall2.out⟩
              case measure => simp [intOf]; omega
            · have hd' : digP (lowI (s[k].toNat : Int)) = false := by rw [digP_low _ hlo]; exact hd
              have he' : Hid (hexV (s[k].toNat : Int) = lowI (s[k].toNat : Int) - 87) := he
              clear he hd
              go_wp2_with (first | (go_at_call 76; refine (l1lower_any _ _ (by omega) (by omega)).mono ?_; rintro e w' ⟨rfl, rfl⟩) | (go_at_call 103; refine (l1digit_any _ _).mono ?_; rintro e w' ⟨rfl, rfl⟩))
              go_round
              case rel => exact ⟨k + 1, by omega, by go_num, congrArg (Value.int .i64) (by rw [hvq.out, he'.out]; omega), Hall2.out⟩
              case measure => simp [intOf]; omega
        · obtain rfl : k = s.size := by omega
          have ht : s.data.toList.take s.size = s.data.toList := List.take_of_length_le (by rw [len_data]; exact Nat.le_refl _)
          rw [ht] at Hall hv0 hv1 ⊢
          have hfin : Hid (rhexN s = hval s.data.toList ∧ rhexOk s = true) := rhex_yes (by omega) (by omega) Hall.out
          clear ht
          generalize hval s.data.toList = v at *
          go_wp2
          go_ret2
          exact ⟨ret_ib6 hfin.out.1 hfin.out.2, rfl⟩
end Go.Proofs.YtmhohponikolfaaGreatDoor
namespace Go.Proofs.YtmhohponikolfaaGreatDoor
set_option linter.unusedVariables false
set_option linter.unusedSimpArgs false
open Go.RowKit

def c8 (b : UInt8) : Value := .int .u8 (b.toNat : Int)
/-- The value v is a slice of the call's own that holds the bytes l; nothing that was there in w0 has turned. -/
structure Buf (w0 w : World) (v : Value) (l : List UInt8) : Prop where
  below : Below w0.heap.size w0 w
  own : w.ownsRow w0.heap.size 5 1 v l.length (l.map c8)

theorem Tryz.infoU8 : (Tryz.prog.info? 5).map (fun i => (i.zero, i.size, i.bytes)) = some (some (.int .u8 0), 1, 1) := by kernel_rfl

theorem Buf.start (w : World) : Buf w w (.slice none 0 0) [] := ⟨Below.refl _ _, World.ownsRow_nil _ _ _ _⟩
theorem Buf.alloc {w0 w : World} {v : Value} {l : List UInt8} (h : Buf w0 w v l) (o : Obj) : Buf w0 (w.alloc o) v l :=
  ⟨h.below.alloc h.below.size o, h.own.alloc o⟩
theorem Buf.one (w : World) (n : Int) (y : UInt8) (hy : n = (y.toNat : Int)) : Buf w (w.alloc (.cells #[.int .u8 n] 5)) (.slice (some ⟨w.heap.size, 0, none⟩) 1 1) [y] := by
  subst hy
  exact ⟨(Below.refl _ _).alloc (Nat.le_refl _) _, ⟨by simp, .inr ⟨w.heap.size, 1, #[.int .u8 (y.toNat : Int)], rfl, Nat.le_refl _, heap_alloc_new w _, Nat.le_refl _, by decide, by simp, by simp [c8]⟩⟩⟩
theorem Buf.form {w0 w : World} {v : Value} {l : List UInt8} (h : Buf w0 w v l) : ∃ (a : Option Addr) (c : Nat), v = .slice a l.length c := by
  rcases h.own.2 with ⟨h1, h2⟩ | ⟨g, cap, cur, h1, _⟩
  · exact ⟨none, 0, by rw [h1, h2]⟩
  · exact ⟨_, _, h1⟩
theorem Buf.text {w0 w : World} {v : Value} {l : List UInt8} (h : Buf w0 w v l) :
    (convert 22 9 v).run Tryz.prog w = .ok (.string ⟨l.toArray⟩) w := by
  have hl : l.map (fun b => UInt8.ofNat ((b.toNat : Int)).toNat) = l := by
    conv => rhs; rw [← List.map_id l]
    apply List.map_congr_left
    intro b _
    simp
  rcases h.own.2 with ⟨h1, h2⟩ | ⟨g, cap, cur, h1, _, hh, _, _, _, ht⟩
  · have : l = [] := List.length_eq_zero_iff.1 h2
    subst this
    rw [h1]
    exact run_convert_bytes_nil (P := Tryz.prog) w 22 5 Tryz.underlying22 Tryz.underlying5 0 0 9 Tryz.underlying9
  · subst h1
    have hc : ∀ i, i < l.length → w.cell? ⟨g, 0 + i, none⟩ = some (.int .u8 ((l.map fun b => (b.toNat : Int)).getD i 0)) := by
      intro i hi
      have := h.own.cells (g := g) rfl i (.int .u8 ((l[i].toNat : Int))) (by simp [c8, List.getElem?_eq_getElem hi])
      rw [Addr.add_lit] at this
      rw [this]
      simp [List.getD, List.getElem?_eq_getElem hi]
    have := run_convert_bytes_arg (P := Tryz.prog) w 22 5 Tryz.underlying22 Tryz.underlying5 g 0 l.length cap (l.map fun b => (b.toNat : Int)) (by simp) hc 9 Tryz.underlying9
    rw [this]
    simp only [strOfNums, List.map_map]
    exact congrArg (fun x : Array UInt8 => Result.ok (Value.string ⟨x⟩) w) (congrArg List.toArray hl)
theorem wp_app {ops : Array Oper} {rest : List Oper} {o : Oper} {a : Act} {Q : Exit → Act → World → Prop} {w0 W : World} (hgd : o.guard = none) (s x : Operand)
    (ho : o.op = .call { callee := .builtin .append, args := #[s, x], argTypes := #[22, 22] }) (v : Value) (l : List UInt8) (hs : a.eval s = v) (hbuf : Buf w0 W v l)
    (n : Int) (y : UInt8) (hy : n = (y.toNat : Int)) (hx : a.eval x = .slice (some ⟨W.heap.size, 0, none⟩) 1 1) (hlen : l.length ≤ 1099511627776)
    (h : ∀ v' W', Buf w0 W' v' (l ++ [y]) → wpList Tryz.prog ops Q rest (a.put o.dst v') W') :
    wpList Tryz.prog ops Q (o :: rest) a (W.alloc (.cells #[.int .u8 n] 5)) := by
  subst hy
  obtain ⟨i0, hi, hz0, hz1, hz2⟩ := info_parts Tryz.infoU8
  refine wpList_append_own _ hgd s x 22 ho w0.heap.size 5 i0 (.int .u8 0) 1 1 Tryz.underlying22 hi hz0 hz1 hz2 rfl (by decide) v l.length (l.map c8) hs (hbuf.own.alloc _) ⟨W.heap.size, 0, none⟩ 1 1 [c8 y] hx rfl (cell_one_new _ _ _) (fun u hu => by simp at hu; subst hu; rfl) (by unfold maxLen; omega) (by omega) (by have := hbuf.below.size; simp; omega) ?_
  intro v' W' hown hgrow _
  refine h v' W' ⟨?_, ?_⟩
  · refine (hbuf.alloc _).below.grown hgrow (by have := hbuf.below.size; simp; omega) ?_
    intro k hk
    exact (hbuf.own.lt k hk).1
  · rw [List.length_append, List.length_singleton, List.map_append]
    exact hown
end Go.Proofs.YtmhohponikolfaaGreatDoor
namespace Go.Proofs
open Go.Shelf
def Tryz.lays158_ren : Go.Shelf.Ren := ⟨fun | 158 => 137 | 165 => 97 | 166 => 98 | 167 => 161 | 169 => 99 | 230 => 162 | 203 => 163 | 240 => 138 | 241 => 139 | 197 => 158 | 118 => 183 | 168 => 184 | 270 => 185 | 262 => 186 | 276 => 164 | 277 => 165 | 260 => 181 | 242 => 194 | 313 => 195 | 278 => 201 | 274 => 202 | 275 => 203 | n => n, fun | 9 => 9 | 4 => 4 | 3 => 3 | 5 => 5 | 72 => 97 | 0 => 0 | 76 => 101 | 75 => 100 | 107 => 132 | 70 => 95 | 20 => 20 | 37 => 22 | 127 => 119 | 21 => 21 | 105 => 128 | 164 => 133 | 162 => 168 | 203 => 166 | 119 => 161 | 46 => 109 | 139 => 164 | 138 => 163 | 51 => 144 | 160 => 176 | 208 => 185 | 206 => 183 | 80 => 103 | n => n, fun | 13 => 4 | 3 => 2 | 4 => 3 | n => n⟩
theorem Tryz.lays158 : Go.Proofs.Lays.n158 Tryz.prog Tryz.lays158_ren := {
  mixed := by kernel_rfl
  f118 := Tryz.func183.trans (congrArg some (by kernel_rfl))
  f158 := Tryz.func137.trans (congrArg some (by kernel_rfl))
  f165 := Tryz.func97.trans (congrArg some (by kernel_rfl))
  f166 := Tryz.func98.trans (congrArg some (by kernel_rfl))
  f167 := Tryz.func161.trans (congrArg some (by kernel_rfl))
  f168 := Tryz.func184.trans (congrArg some (by kernel_rfl))
  f169 := Tryz.func99.trans (congrArg some (by kernel_rfl))
  f197 := Tryz.func158.trans (congrArg some (by kernel_rfl))
  f203 := Tryz.func163.trans (congrArg some (by kernel_rfl))
  f230 := Tryz.func162.trans (congrArg some (by kernel_rfl))
  f240 := Tryz.func138.trans (congrArg some (by kernel_rfl))
  f241 := Tryz.func139.trans (congrArg some (by kernel_rfl))
  f242 := Tryz.func194.trans (congrArg some (by kernel_rfl))
  f260 := Tryz.func181.trans (congrArg some (by kernel_rfl))
  f262 := Tryz.func186.trans (congrArg some (by kernel_rfl))
  f270 := Tryz.func185.trans (congrArg some (by kernel_rfl))
  f274 := Tryz.func202.trans (congrArg some (by kernel_rfl))
  f275 := Tryz.func203.trans (congrArg some (by kernel_rfl))
  f276 := Tryz.func164.trans (congrArg some (by kernel_rfl))
  f277 := Tryz.func165.trans (congrArg some (by kernel_rfl))
  f278 := Tryz.func201.trans (congrArg some (by kernel_rfl))
  f313 := Tryz.func195.trans (congrArg some (by kernel_rfl))
  t0 := Tryz.underlying0
  a0 := Tryz.isAgg0
  z0 := Tryz.sizeOf0
  v0 := Tryz.zeroValue0
  t3 := Tryz.underlying3
  a3 := Tryz.isAgg3
  z3 := Tryz.sizeOf3
  v3 := Tryz.zeroValue3
  t4 := Tryz.underlying4
  a4 := Tryz.isAgg4
  z4 := Tryz.sizeOf4
  v4 := Tryz.zeroValue4
  t5 := Tryz.underlying5
  a5 := Tryz.isAgg5
  z5 := Tryz.sizeOf5
  v5 := Tryz.zeroValue5
  t9 := Tryz.underlying9
  a9 := Tryz.isAgg9
  z9 := Tryz.sizeOf9
  v9 := Tryz.zeroValue9
  t20 := Tryz.underlying20
  a20 := Tryz.isAgg20
  z20 := Tryz.sizeOf20
  v20 := Tryz.zeroValue20
  t21 := Tryz.underlying21
  a21 := Tryz.isAgg21
  z21 := Tryz.sizeOf21
  v21 := Tryz.zeroValue21
  t37 := Tryz.underlying22
  a37 := Tryz.isAgg22
  z37 := Tryz.sizeOf22
  v37 := Tryz.zeroValue22
  t46 := Tryz.underlying109
  a46 := Tryz.isAgg109
  z46 := Tryz.sizeOf109
  v46 := Tryz.zeroValue109
  t51 := Tryz.underlying144
  a51 := Tryz.isAgg144
  z51 := Tryz.sizeOf144
  v51 := Tryz.zeroValue144
  t70 := Tryz.underlying95
  a70 := Tryz.isAgg95
  z70 := Tryz.sizeOf95
  v70 := Tryz.zeroValue95
  t72 := Tryz.underlying97
  a72 := Tryz.isAgg97
  z72 := Tryz.sizeOf97
  v72 := Tryz.zeroValue97
  t75 := Tryz.underlying100
  a75 := Tryz.isAgg100
  z75 := Tryz.sizeOf100
  v75 := Tryz.zeroValue100
  t76 := Tryz.underlying101
  a76 := Tryz.isAgg101
  z76 := Tryz.sizeOf101
  v76 := Tryz.zeroValue101
  t105 := Tryz.underlying128
  a105 := Tryz.isAgg128
  z105 := Tryz.sizeOf128
  v105 := Tryz.zeroValue128
  t107 := Tryz.underlying132
  a107 := Tryz.isAgg132
  z107 := Tryz.sizeOf132
  v107 := Tryz.zeroValue132
  t119 := Tryz.underlying161
  a119 := Tryz.isAgg161
  z119 := Tryz.sizeOf161
  t127 := Tryz.underlying119
  a127 := Tryz.isAgg119
  z127 := Tryz.sizeOf119
  v127 := Tryz.zeroValue119
  t138 := Tryz.underlying163
  a138 := Tryz.isAgg163
  z138 := Tryz.sizeOf163
  v138 := Tryz.zeroValue163
  t139 := Tryz.underlying164
  a139 := Tryz.isAgg164
  z139 := Tryz.sizeOf164
  v139 := Tryz.zeroValue164
  t160 := Tryz.underlying176
  a160 := Tryz.isAgg176
  z160 := Tryz.sizeOf176
  v160 := Tryz.zeroValue176
  t162 := Tryz.underlying168
  a162 := Tryz.isAgg168
  z162 := Tryz.sizeOf168
  v162 := Tryz.zeroValue168
  t164 := Tryz.underlying133
  a164 := Tryz.isAgg133
  z164 := Tryz.sizeOf133
  v164 := Tryz.zeroValue133
  t203 := Tryz.underlying166
  a203 := Tryz.isAgg166
  z203 := Tryz.sizeOf166
  v203 := Tryz.zeroValue166
  t206 := Tryz.underlying183
  a206 := Tryz.isAgg183
  z206 := Tryz.sizeOf183
  v206 := Tryz.zeroValue183
  t208 := Tryz.underlying185
  a208 := Tryz.isAgg185
  z208 := Tryz.sizeOf185
  v208 := Tryz.zeroValue185
  g3 := by kernel_rfl
  g4 := by kernel_rfl
  g13 := by kernel_rfl }
def Tryz.lays150_ren : Go.Shelf.Ren := ⟨fun | 150 => 52 | 153 => 94 | 152 => 129 | 226 => 130 | 227 => 131 | 228 => 132 | 137 => 155 | 119 => 156 | 224 => 152 | 225 => 151 | 217 => 150 | 266 => 179 | n => n, fun | 9 => 9 | 4 => 4 | 3 => 3 | 5 => 5 | 21 => 21 | 117 => 114 | 116 => 113 | 0 => 0 | 46 => 109 | 124 => 126 | n => n, fun | n => n⟩
theorem Tryz.lays150 : Go.Proofs.Lays.n150 Tryz.prog Tryz.lays150_ren := {
  mixed := by kernel_rfl
  f119 := Tryz.func156.trans (congrArg some (by kernel_rfl))
  f137 := Tryz.func155.trans (congrArg some (by kernel_rfl))
  f150 := Tryz.func52.trans (congrArg some (by kernel_rfl))
  f152 := Tryz.func129.trans (congrArg some (by kernel_rfl))
  f153 := Tryz.func94.trans (congrArg some (by kernel_rfl))
  f217 := Tryz.func150.trans (congrArg some (by kernel_rfl))
  f224 := Tryz.func152.trans (congrArg some (by kernel_rfl))
  f225 := Tryz.func151.trans (congrArg some (by kernel_rfl))
  f226 := Tryz.func130.trans (congrArg some (by kernel_rfl))
  f227 := Tryz.func131.trans (congrArg some (by kernel_rfl))
  f228 := Tryz.func132.trans (congrArg some (by kernel_rfl))
  f266 := Tryz.func179.trans (congrArg some (by kernel_rfl))
  t0 := Tryz.underlying0
  a0 := Tryz.isAgg0
  z0 := Tryz.sizeOf0
  v0 := Tryz.zeroValue0
  t3 := Tryz.underlying3
  a3 := Tryz.isAgg3
  z3 := Tryz.sizeOf3
  v3 := Tryz.zeroValue3
  t4 := Tryz.underlying4
  a4 := Tryz.isAgg4
  z4 := Tryz.sizeOf4
  v4 := Tryz.zeroValue4
  t5 := Tryz.underlying5
  a5 := Tryz.isAgg5
  z5 := Tryz.sizeOf5
  v5 := Tryz.zeroValue5
  t9 := Tryz.underlying9
  a9 := Tryz.isAgg9
  z9 := Tryz.sizeOf9
  v9 := Tryz.zeroValue9
  t21 := Tryz.underlying21
  a21 := Tryz.isAgg21
  z21 := Tryz.sizeOf21
  v21 := Tryz.zeroValue21
  t46 := Tryz.underlying109
  a46 := Tryz.isAgg109
  z46 := Tryz.sizeOf109
  v46 := Tryz.zeroValue109
  t116 := Tryz.underlying113
  a116 := Tryz.isAgg113
  z116 := Tryz.sizeOf113
  t117 := Tryz.underlying114
  a117 := Tryz.isAgg114
  z117 := Tryz.sizeOf114
  v117 := Tryz.zeroValue114
  t124 := Tryz.underlying126
  a124 := Tryz.isAgg126
  z124 := Tryz.sizeOf126
  v124 := Tryz.zeroValue126 }
end Go.Proofs
