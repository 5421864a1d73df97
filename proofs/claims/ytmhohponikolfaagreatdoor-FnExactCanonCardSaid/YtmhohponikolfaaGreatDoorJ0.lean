/-
  Plain functions of chapter 1 (bytes): no Go in sight. · Plain functions of chapter 1: gaps and Trim. No Go in sight. · A text cut at each byte of one kind, on lists. No Go in sight. · Plain functions of chapter 1: signs of a token. No Go in sight. · Plain functions of chapter 1: decimal numbers. No Go in sight. · Plain functions of chapter 1: numbers in sixteens. No Go in sight. · All bytes of a text are of a kind; a target. No Go in sight. · Chapter 7: a path in its one form, on lists. No Go in sight. · The walks over chapter 1's small functions. · The walks over chapter 1: gaps, digits, Trim. · The walks over chapter 1: spec.DecText, ReadDec. · impl.DecText by strconv.Itoa's contract; what it asks of the world comes of the row's listed tables. · Digits in tens by the library's table, and how long they are. · Words of 32 bits, as natural numbers: turned, joined, summed. No Go in sight.
-/
import Derived.WalkKit
import Derived.WalkSpells
import Derived.WalkLawsBesides
import Derived.Lib.ConvBytes
import Derived.Laws.IdiomStrings
import Derived.Laws.BytesArg
import Derived.Lib.IndexLaws
import Derived.Lib.Bytealg
import Derived.Lib.SplitLaws
import Derived.Lib.IndexBytes
import Derived.Lib.Join
import Derived.Lib.SmallJoins
import Derived.Lib.ItoaNum
import Derived.Test.YtmhohponikolfaaGreatDoorProg
import Derived.Deep.RegionWith
import Derived.Shelf.Strconv.Itoa3
import Derived.Shelf.Lay
import Derived.Lib.LaidTab
import Derived.Lib.AppendIntMem
import Derived.LaidLaws
import Derived.Laws.BitsAllLaws
namespace Go.Proofs.YtmhohponikolfaaGreatDoor
set_option linter.unusedVariables false
set_option linter.unusedSimpArgs false
open Go.RowKit

/-- A letter A to Z as its small one, on numbers. -/
def lowI (n : Int) : Int := if 65 ≤ n ∧ n ≤ 90 then n + 32 else n
/-- The same on bytes. -/
def low8 (b : UInt8) : UInt8 := if 65 ≤ b.toNat ∧ b.toNat ≤ 90 then b + 32 else b
def foldL (l : List UInt8) : List UInt8 := l.map low8
def foldB (s : ByteArray) : ByteArray := ⟨(foldL s.data.toList).toArray⟩

theorem low8_toNat (b : UInt8) : ((low8 b).toNat : Int) = lowI (b.toNat : Int) := by
  unfold low8 lowI
  have hb := b.toNat_lt
  by_cases h : 65 ≤ b.toNat ∧ b.toNat ≤ 90
  · rw [if_pos h, if_pos (by omega)]
    rw [UInt8.toNat_add]
    simp
    omega
  · rw [if_neg h, if_neg (by omega)]
theorem lowI_bd (n : Int) (h0 : 0 ≤ n) (h1 : n ≤ 255) : 0 ≤ lowI n ∧ lowI n ≤ 255 := by
  unfold lowI; split <;> omega
theorem foldB_size (s : ByteArray) : (foldB s).size = s.size := by
  show ((s.data.toList.map low8).toArray).size = s.data.size
  simp

theorem ret_bool {a b : Bool} (h : b = a) : Ending.returned (.bool a) = .returned (.bool b) := by rw [h]
theorem ret_int {k : IntKind} {a b : Int} (h : b = a) : Ending.returned (.int k a) = .returned (.int k b) := by rw [h]
theorem ret_str {a b : ByteArray} (h : b = a) : Ending.returned (.string a) = .returned (.string b) := by rw [h]

theorem len_data (s : ByteArray) : s.data.toList.length = s.size := by
  show _ = s.data.size
  simp
theorem u8_lo (b : UInt8) : (0 : Int) ≤ (b.toNat : Int) := Int.natCast_nonneg _
theorem u8_hi (b : UInt8) : (b.toNat : Int) ≤ 255 := by have := b.toNat_lt; omega

/-- Go's '==' on texts. -/
def eqB (a b : ByteArray) : Bool := a.toList == b.toList
theorem eqB_iff {a b : ByteArray} : eqB a b = true ↔ a = b := by
  unfold eqB
  rw [ByteArray.toList_eq, ByteArray.toList_eq, beq_iff_eq]
  constructor
  · intro h
    cases a; cases b
    congr 1
    exact Array.toList_inj.1 h
  · rintro rfl; rfl
theorem eqB_self (a : ByteArray) : eqB a a = true := eqB_iff.2 rfl

/-- A row of bytes at the head of block b: what it holds, and that it may be written. -/
structure Row8 (w : World) (b : Nat) (xs : List Int) : Prop where
  cell : ∀ j, j < xs.length → w.cell? ⟨b, j, none⟩ = some (.int .u8 (xs.getD j 0))
  free : ∀ j, j < xs.length → w.frozen? ⟨b, j, none⟩ = false
  lt : b < w.heap.size

theorem Row8.set {w : World} {b : Nat} {xs : List Int} (h : Row8 w b xs) (k : Nat) (v : Int) (hk : k < xs.length) : Row8 (w.setCell ⟨b, k, none⟩ (.int .u8 v)) b (xs.set k v) := by
  refine ⟨fun j hj => ?_, fun j hj => ?_, by simpa [World.setCell] using h.lt⟩
  · rw [List.length_set] at hj
    by_cases e : j = k
    · subst e
      rw [World.cell?_setCell_same _ _ _ (h.cell j hj)]
      simp [List.getD, hk]
    · rw [World.cell?_setCell_other _ _ _ _ (by intro hh; apply e; injection hh with _ h2; exact h2.symm), h.cell j hj]
      simp [List.getD, Ne.symm e]
  · rw [List.length_set] at hj
    rw [World.frozen?_setCell]
    exact h.free j hj

/-- The numbers of a text's bytes. -/
def nums (s : ByteArray) : List Int := s.data.toList.map fun b => (b.toNat : Int)
theorem nums_length (s : ByteArray) : (nums s).length = s.size := by
  show (s.data.toList.map _).length = s.data.size
  simp
theorem nums_getD (s : ByteArray) (j : Nat) (hj : j < s.size) : (nums s).getD j 0 = ((s.data.toList.getD j 0).toNat : Int) := by
  have hj' : j < s.data.toList.length := by simpa using hj
  simp [nums, List.getD, List.getElem?_eq_getElem hj']
theorem nums_bd (s : ByteArray) (j : Nat) : 0 ≤ (nums s).getD j 0 ∧ (nums s).getD j 0 ≤ 255 := by
  rcases Nat.lt_or_ge j s.size with h | h
  · rw [nums_getD s j h]
    have := (s.data.toList.getD j 0).toNat_lt
    omega
  · have : (nums s).length ≤ j := by rw [nums_length]; exact h
    simp [List.getD, List.getElem?_eq_none this]

theorem row8_bytes (w : World) (e : TypeId) (s : ByteArray) : Row8 (Lib.bytesWorld w e s) w.heap.size (nums s) := by
  refine ⟨fun j hj => ?_, fun j hj => ?_, by rw [Lib.bytesWorld_size]; omega⟩
  · rw [nums_length] at hj
    rw [Lib.bytesWorld_cell w e s j hj, nums_getD s j hj]
  · rw [nums_length] at hj
    have hj' : j < s.data.size := hj
    simp only [World.frozen?, Lib.bytesWorld_at_new]
    have : j < (Lib.bytesCells w e s).size := by simp [Lib.bytesCells]; omega
    simp
    omega

theorem below_bytes (w : World) (e : TypeId) (s : ByteArray) : Below w.heap.size w (Lib.bytesWorld w e s) :=
  ⟨by simp [Lib.bytesWorld, World.freeze, World.alloc, World.drew, -World.alloc_eq, -World.drew_eq], by simp [Lib.bytesWorld, World.freeze, World.alloc, World.drew, -World.alloc_eq, -World.drew_eq],
   by simp [Lib.bytesWorld, World.freeze, World.alloc, World.drew, -World.alloc_eq, -World.drew_eq], by rw [Lib.bytesWorld_size]; omega, fun k hk => Lib.bytesWorld_at_old w e s k hk⟩

/-- The row's text. -/
theorem Row8.text {P : Program} {w : World} {b : Nat} {xs : List Int} (h : Row8 w b xs) (src e dst : TypeId) (n cap : Nat) (hn : xs.length = n) (hs : P.underlying src = some (.slice e)) (he : P.underlying e = some (.int .u8)) (hd : P.underlying dst = some .string) :
    (convert src dst (.slice (some ⟨b, 0, none⟩) n cap)).run P w = .ok (.string (strOfNums xs)) w :=
  run_convert_bytes_arg (P := P) w src e hs he b 0 n cap xs hn (fun i hi => by rw [Nat.zero_add]; exact h.cell i (by omega)) dst hd

/-- After k rounds of folding. -/
def foldTo (s : ByteArray) (k : Nat) : List Int := ((nums s).take k).map lowI ++ (nums s).drop k
theorem foldTo_length (s : ByteArray) (k : Nat) : (foldTo s k).length = s.size := by
  simp only [foldTo, List.length_append, List.length_map, List.length_take, List.length_drop, nums_length]; omega
theorem foldTo_zero (s : ByteArray) : foldTo s 0 = nums s := by simp [foldTo]
theorem foldTo_at (s : ByteArray) (k : Nat) (hk : k < s.size) : (foldTo s k).getD k 0 = (nums s).getD k 0 := by
  have h : ((nums s).take k).length = k := by simp [nums_length]; omega
  unfold foldTo
  rw [List.getD, List.getElem?_append_right (by simp; omega)]
  have e : k - ((nums s).take k |>.map lowI).length = 0 := by rw [List.length_map, h]; omega
  rw [e]
  simp [List.getD]
theorem foldTo_succ (s : ByteArray) (k : Nat) (hk : k < s.size) : foldTo s (k + 1) = (foldTo s k).set k (lowI ((nums s).getD k 0)) := by
  have hl : k < (nums s).length := by rw [nums_length]; exact hk
  unfold foldTo
  rw [List.take_succ_eq_append_getElem hl, List.map_append, List.append_assoc, List.set_append_right _ _ (by simp; omega)]
  have e : k - ((nums s).take k |>.map lowI).length = 0 := by simp; omega
  rw [e]
  have hd := List.drop_eq_getElem_cons hl
  rw [hd]
  simp only [List.map_cons, List.map_nil, List.cons_append, List.nil_append, List.set_cons_zero, List.getD, List.getElem?_eq_getElem hl, Option.getD_some]
theorem foldTo_all (s : ByteArray) : strOfNums (foldTo s s.size) = foldB s := by
  unfold foldTo strOfNums foldB foldL
  have hl : (nums s).length ≤ s.size := by rw [nums_length]; exact Nat.le_refl _
  rw [List.take_of_length_le hl, List.drop_eq_nil_of_le hl, List.append_nil]
  congr 2
  simp only [nums, List.map_map]
  apply List.map_congr_left
  intro b _
  show UInt8.ofNat (lowI (b.toNat : Int)).toNat = low8 b
  rw [← low8_toNat]
  simp
theorem bcell {W w1 : World} (hb : Below W.heap.size W w1) : (∀ b o, b < W.heap.size → w1.cell? ⟨b, o, none⟩ = W.cell? ⟨b, o, none⟩) ∧ (∀ b o, b < W.heap.size → w1.frozen? ⟨b, o, none⟩ = W.frozen? ⟨b, o, none⟩) :=
  ⟨fun b o h => hb.cell (p := ⟨b, o, none⟩) h, fun b o h => hb.frozen (p := ⟨b, o, none⟩) h⟩
end Go.Proofs.YtmhohponikolfaaGreatDoor
namespace Go.Proofs.YtmhohponikolfaaGreatDoor
set_option linter.unusedVariables false
set_option linter.unusedSimpArgs false
open Go.RowKit

def gapP (n : Int) : Bool := n == 32 || n == 9
def gap8 (b : UInt8) : Bool := gapP (b.toNat : Int)
def digP (n : Int) : Bool := decide (48 ≤ n) && decide (n ≤ 57)
def dig8 (b : UInt8) : Bool := digP (b.toNat : Int)
def trimL (l : List UInt8) : List UInt8 := ((l.dropWhile gap8).reverse.dropWhile gap8).reverse
def trimB (s : ByteArray) : ByteArray := ⟨(trimL s.data.toList).toArray⟩

theorem dropWhile_all {α : Type} (p : α → Bool) : ∀ (a b : List α), (∀ x ∈ a, p x = true) → (a ++ b).dropWhile p = b.dropWhile p
  | [], _, _ => rfl
  | x :: a, b, h => by
    have hx : p x = true := h x (by simp)
    rw [List.cons_append, List.dropWhile_cons_of_pos hx]
    exact dropWhile_all p a b (fun y hy => h y (by simp [hy]))
theorem dropWhile_head {α : Type} (p : α → Bool) (x : α) (l : List α) (h : p x = false) : (x :: l).dropWhile p = x :: l := by
  rw [List.dropWhile_cons_of_neg (by simp [h])]
theorem trimL_of (a m z : List UInt8) (ha : ∀ x ∈ a, gap8 x = true) (hz : ∀ x ∈ z, gap8 x = true) (hm : m = [] ∨ ∃ (x y : UInt8) (r q : List UInt8), m = x :: r ∧ m = q ++ [y] ∧ gap8 x = false ∧ gap8 y = false) : trimL (a ++ m ++ z) = m := by
  unfold trimL
  rw [List.append_assoc, dropWhile_all gap8 a (m ++ z) ha]
  rcases hm with rfl | ⟨x, y, r, q, e1, e2, hx, hy⟩
  · rw [List.nil_append]
    have := dropWhile_all gap8 z [] hz
    rw [List.append_nil] at this
    rw [this]
    rfl
  · have h1 : (m ++ z).dropWhile gap8 = m ++ z := by rw [e1, List.cons_append]; exact dropWhile_head gap8 x _ hx
    rw [h1, List.reverse_append, dropWhile_all gap8 z.reverse m.reverse (fun u hu => hz u (by simpa using hu))]
    have h2 : m.reverse = y :: q.reverse := by rw [e2]; simp
    rw [h2, dropWhile_head gap8 y _ hy, ← h2, List.reverse_reverse]

/-- The byte at a place. -/
def at8 (s : ByteArray) (k : Nat) : UInt8 := s.data.toList.getD k 0
theorem at8_eq (s : ByteArray) (k : Nat) (h : k < s.size) : s[k] = at8 s k := by
  have h' : k < s.data.toList.length := by simpa using h
  show s.data[k] = _
  simp [at8, List.getD, List.getElem?_eq_getElem h']

theorem extract_list (s : ByteArray) (k t : Nat) : (s.extract k t).data.toList = (s.data.toList.take t).drop k := by
  rw [ByteArray.data_extract, Array.toList_extract]
  simp only [List.extract]
  rw [List.drop_take]
theorem bytes_ext {a b : ByteArray} (h : a.data.toList = b.data.toList) : a = b := by
  cases a; cases b
  congr 1
  exact Array.toList_inj.1 h

theorem trim_of (s : ByteArray) (k t : Nat) (hk : ∀ j, j < k → gap8 (at8 s j) = true) (he : k = s.size ∨ gap8 (at8 s k) = false) (hkt : k ≤ t) (ht : t ≤ s.size)
    (hz : ∀ j, t ≤ j → j < s.size → gap8 (at8 s j) = true) (hf : t = k ∨ gap8 (at8 s (t - 1)) = false) : s.extract k t = trimB s := by
  apply bytes_ext
  rw [extract_list]
  show _ = trimL s.data.toList
  have hl : s.data.toList.length = s.size := by show _ = s.data.size; simp
  generalize hL : s.data.toList = l at *
  have hat : ∀ j, at8 s j = l.getD j 0 := by intro j; unfold at8; rw [hL]
  have e : l = l.take k ++ (l.take t).drop k ++ l.drop t := by
    have h1 : l.take k = (l.take t).take k := by rw [List.take_take]; congr 1; omega
    rw [h1, List.take_append_drop, List.take_append_drop]
  have hA : ∀ x ∈ l.take k, gap8 x = true := by
    intro x hx
    obtain ⟨j, hj, rfl⟩ := List.mem_iff_getElem.1 hx
    have hj' : j < k ∧ j < l.length := by simp at hj; omega
    have := hk j hj'.1
    rw [hat] at this
    simpa [List.getD, List.getElem?_eq_getElem hj'.2] using this
  have hZ : ∀ x ∈ l.drop t, gap8 x = true := by
    intro x hx
    obtain ⟨j, hj, rfl⟩ := List.mem_iff_getElem.1 hx
    have hj' : t + j < l.length := by simp at hj; omega
    have := hz (t + j) (by omega) (by omega)
    rw [hat] at this
    simpa [List.getD, List.getElem?_eq_getElem hj'] using this
  have hM : (l.take t).drop k = [] ∨ ∃ (x y : UInt8) (r q : List UInt8), (l.take t).drop k = x :: r ∧ (l.take t).drop k = q ++ [y] ∧ gap8 x = false ∧ gap8 y = false := by
    rcases Nat.lt_or_ge k t with h | h
    · right
      have h1 : k < (l.take t).length := by simp; omega
      have h2 : t - 1 < l.length := by omega
      refine ⟨(l.take t)[k], l[t - 1], (l.take t).drop (k + 1), (l.take (t - 1)).drop k, List.drop_eq_getElem_cons h1, ?_, ?_, ?_⟩
      · have e2 : l.take t = l.take (t - 1) ++ [l[t - 1]] := by
          have := List.take_succ_eq_append_getElem h2
          rw [show t - 1 + 1 = t from by omega] at this
          exact this
        rw [e2, List.drop_append_of_le_length (by simp; omega)]
      · rcases he with he | he
        · omega
        · rw [hat] at he
          have h3 : k < l.length := by omega
          simpa [List.getD, List.getElem?_eq_getElem h3, List.getElem_take] using he
      · rcases hf with hf | hf
        · omega
        · rw [hat] at hf
          simpa [List.getD, List.getElem?_eq_getElem h2] using hf
    · left
      apply List.drop_eq_nil_of_le
      simp
      omega
  conv => rhs; rw [e]
  exact (trimL_of _ _ _ hA hZ hM).symm
theorem trimB_size (s : ByteArray) : (trimB s).size ≤ s.size := by
  show (trimL s.data.toList).toArray.size ≤ s.data.size
  have h1 : ∀ (l : List UInt8), (l.dropWhile gap8).length ≤ l.length := fun l => (List.dropWhile_sublist gap8).length_le
  have := h1 s.data.toList
  have h2 := h1 (s.data.toList.dropWhile gap8).reverse
  unfold trimL
  simp at *
  omega
theorem all_succ {p : Nat → Prop} {k : Nat} (h : ∀ j, j < k → p j) (hk : p k) : ∀ j, j < k + 1 → p j := by
  intro j hj
  rcases Nat.lt_or_ge j k with h1 | h1
  · exact h j h1
  · obtain rfl : j = k := by omega
    exact hk
theorem all_pred {p : Nat → Prop} {u n : Nat} (h : ∀ j, u + 1 ≤ j → j < n → p j) (hk : p u) : ∀ j, u ≤ j → j < n → p j := by
  intro j hj hn
  rcases Nat.lt_or_ge u j with h1 | h1
  · exact h j h1 hn
  · obtain rfl : j = u := by omega
    exact hk
theorem u8_beq (a b : UInt8) : ((a.toNat : Int) == (b.toNat : Int)) = (a == b) := by
  rw [Bool.eq_iff_iff, beq_iff_eq, beq_iff_eq]
  constructor
  · intro h; exact UInt8.toNat_inj.1 (by omega)
  · intro h; rw [h]
end Go.Proofs.YtmhohponikolfaaGreatDoor
namespace Go.Proofs.YtmhohponikolfaaGreatDoor
set_option linter.unusedVariables false
set_option linter.unusedSimpArgs false
open Go.RowKit
/-- Where the first byte c stands, or -1. -/
def idxS (c : UInt8) (s : ByteArray) : Int := Lib.indexByte s.data.toList c
theorem idxS_some {c : UInt8} {s : ByteArray} {i : Nat} (h : idxS c s = (i : Int)) : i < s.size ∧ at8 s i = c ∧ ∀ j, j < i → at8 s j ≠ c := by
  obtain ⟨h1, h2⟩ := Lib.indexByte_some h
  have hi : i < s.data.toList.length := (List.getElem?_eq_some_iff.1 h1).1
  have hi' : i < s.size := by rw [len_data] at hi; exact hi
  refine ⟨hi', by unfold at8; rw [List.getD, h1]; rfl, fun j hj he => h2 j hj ?_⟩
  have hj' : j < s.data.toList.length := by rw [len_data]; omega
  unfold at8 at he
  rw [List.getD, List.getElem?_eq_getElem hj'] at he
  rw [List.getElem?_eq_getElem hj']
  simpa using he
theorem idxS_none {c : UInt8} {s : ByteArray} (h : idxS c s = -1) : ∀ j, j < s.size → at8 s j ≠ c := by
  intro j hj he
  have hj' : j < s.data.toList.length := by rw [len_data]; omega
  refine Lib.indexByte_none h j ?_
  unfold at8 at he
  rw [List.getD, List.getElem?_eq_getElem hj'] at he
  rw [List.getElem?_eq_getElem hj']
  simpa using he
theorem idxS_cases (c : UInt8) (s : ByteArray) : idxS c s = -1 ∨ ∃ i : Nat, idxS c s = (i : Int) ∧ i < s.size := by
  have h := Lib.indexByte_ge s.data.toList c
  by_cases h1 : idxS c s = -1
  · exact .inl h1
  · right
    have h2 : -1 ≤ idxS c s := h
    have h3 : idxS c s = ((idxS c s).toNat : Int) := by omega
    exact ⟨(idxS c s).toNat, h3, (idxS_some h3).1⟩
theorem idxS_of {c : UInt8} {s : ByteArray} {i : Nat} (h1 : i < s.size) (h2 : at8 s i = c) (h3 : ∀ j, j < i → at8 s j ≠ c) : idxS c s = (i : Int) := by
  rcases idxS_cases c s with h | ⟨k, hk, _⟩
  · exact absurd h2 (idxS_none h i h1)
  · obtain ⟨g1, g2, g3⟩ := idxS_some hk
    rcases Nat.lt_trichotomy k i with h | h | h
    · exact absurd g2 (h3 k h)
    · rw [hk, h]
    · exact absurd h2 (g3 i h)
theorem idxS_miss {c : UInt8} {s : ByteArray} (h : ∀ j, j < s.size → at8 s j ≠ c) : idxS c s = -1 := by
  rcases idxS_cases c s with h1 | ⟨k, hk, _⟩
  · exact h1
  · obtain ⟨g1, g2, _⟩ := idxS_some hk
    exact absurd g2 (h k g1)
theorem idxS_B (c : UInt8) (s : ByteArray) : Lib.indexB s ⟨#[c]⟩ = idxS c s := by
  show Lib.index s.data.toList [c] = _
  exact Lib.index_one _ _
/-- How many there are, and the pieces between them. -/
def cntS (c : UInt8) (s : ByteArray) : Nat := Lib.countB s ⟨#[c]⟩
def splS (c : UInt8) (s : ByteArray) : List ByteArray := Lib.splitB ⟨#[c]⟩ 0 (cntS c s) s
theorem splS_none {c : UInt8} {s : ByteArray} (h : idxS c s = -1) : cntS c s = 0 ∧ splS c s = [s] := by
  have h1 : cntS c s = 0 := Lib.countB_miss s _ (by rw [idxS_B]; exact h)
  exact ⟨h1, by unfold splS; rw [h1]; rfl⟩
theorem splS_some {c : UInt8} {s : ByteArray} {i : Nat} (h : idxS c s = (i : Int)) : cntS c s = 1 + cntS c (s.extract (i + 1) s.size) ∧ splS c s = s.extract 0 i :: splS c (s.extract (i + 1) s.size) := by
  have h0 : Lib.indexB s ⟨#[c]⟩ = (i : Int) := by rw [idxS_B]; exact h
  have h1 := Lib.countB_hit s ⟨#[c]⟩ i (Nat.le_refl _) h0
  have e : (⟨#[c]⟩ : ByteArray).size = 1 := rfl
  rw [e] at h1
  refine ⟨h1, ?_⟩
  unfold splS
  rw [show cntS c s = 1 + cntS c (s.extract (i + 1) s.size) from h1, Nat.add_comm, Lib.splitB_hit _ _ _ _ i h0, e, Nat.add_zero]
theorem splS_len (c : UInt8) (s : ByteArray) : (splS c s).length = cntS c s + 1 := Lib.splitB_all _ (Nat.le_refl _) 0 _ s rfl
theorem splS_cnt (c : UInt8) (s : ByteArray) : cntS c s ≤ s.size := Lib.countB_le ⟨#[c]⟩ (Nat.le_refl _) s.size s (Nat.le_refl _)
theorem splS_ne (c : UInt8) (s : ByteArray) : splS c s ≠ [] := by
  intro h
  have := splS_len c s
  rw [h] at this
  simp at this
theorem at8_extS {s : ByteArray} {a b j : Nat} (hb : b ≤ s.size) (hj : a + j < b) : at8 (s.extract a b) j = at8 s (a + j) := by
  unfold at8
  rw [Lib.extract_data]
  simp only [List.getD]
  rw [List.getElem?_take_of_lt (by omega), List.getElem?_drop]
/-- The pieces and what parts them make no more than the text. -/
def sumS (l : List ByteArray) : Nat := (l.map ByteArray.size).sum
theorem splS_sum (c : UInt8) : ∀ (n : Nat) (s : ByteArray), s.size ≤ n → sumS (splS c s) + cntS c s = s.size
  | n, s, hn => by
    rcases idxS_cases c s with h | ⟨i, h, hi⟩
    · obtain ⟨h1, h2⟩ := splS_none h
      rw [h1, h2]; simp [sumS]
    · obtain ⟨h1, h2⟩ := splS_some h
      cases n with
      | zero => omega
      | succ n =>
        have e : (s.extract (i + 1) s.size).size = s.size - (i + 1) := by rw [ByteArray.size_extract]; omega
        have e0 : (s.extract 0 i).size = i := by rw [ByteArray.size_extract]; omega
        have ih := splS_sum c n (s.extract (i + 1) s.size) (by omega)
        rw [h1, h2]
        have : sumS (s.extract 0 i :: splS c (s.extract (i + 1) s.size)) = i + sumS (splS c (s.extract (i + 1) s.size)) := by simp [sumS, e0]
        omega
theorem sumS_mem {l : List ByteArray} {x : ByteArray} (h : x ∈ l) : x.size ≤ sumS l := by
  induction l with
  | nil => cases h
  | cons y r ih =>
    have e : sumS (y :: r) = y.size + sumS r := by simp [sumS]
    rcases List.mem_cons.1 h with rfl | h
    · omega
    · have := ih h; omega
theorem splS_mem {c : UInt8} {s x : ByteArray} (h : x ∈ splS c s) : x.size ≤ s.size := by
  have h1 := sumS_mem h
  have h2 := splS_sum c s.size s (Nat.le_refl _)
  omega
/-- Cut by one loop that goes on byte by byte. -/
theorem splS_step {c : UInt8} {s : ByteArray} {f i : Nat} (hf : f ≤ i) (hi : i < s.size) (h : at8 s i = c) (h0 : ∀ j, f ≤ j → j < i → at8 s j ≠ c) : splS c (s.extract f s.size) = s.extract f i :: splS c (s.extract (i + 1) s.size) := by
  have e : (s.extract f s.size).size = s.size - f := by rw [ByteArray.size_extract]; omega
  have hx : idxS c (s.extract f s.size) = ((i - f : Nat) : Int) := by
    refine idxS_of (by omega) ?_ ?_
    · rw [at8_extS (Nat.le_refl _) (by omega), show f + (i - f) = i by omega]; exact h
    · intro j hj
      rw [at8_extS (Nat.le_refl _) (by omega)]
      exact h0 _ (by omega) (by omega)
  rw [(splS_some hx).2, e, ByteArray.extract_extract, ByteArray.extract_extract]
  congr 2
  · congr 1 <;> omega
  · congr 1 <;> omega
theorem splS_end {c : UInt8} {s : ByteArray} {f : Nat} (h0 : ∀ j, f ≤ j → j < s.size → at8 s j ≠ c) : splS c (s.extract f s.size) = [s.extract f s.size] := by
  refine (splS_none (idxS_miss ?_)).2
  intro j hj
  have e : (s.extract f s.size).size = s.size - f := by rw [ByteArray.size_extract]; omega
  rw [at8_extS (Nat.le_refl _) (by omega)]
  exact h0 _ (by omega) (by omega)
/-- The texts with a byte ahead of each. -/
def tailS (c : UInt8) (l : List ByteArray) : List UInt8 := Lib.joinTail [c] (l.map (·.data.toList))
def joinS (c : UInt8) (l : List ByteArray) : ByteArray := ⟨(Lib.join (l.map (·.data.toList)) [c]).toArray⟩
theorem tailS_nil (c : UInt8) : tailS c [] = [] := rfl
theorem tailS_cons (c : UInt8) (x : ByteArray) (r : List ByteArray) : tailS c (x :: r) = c :: (x.data.toList ++ tailS c r) := by simp [tailS, Lib.joinTail]
theorem tailS_snoc (c : UInt8) (x : ByteArray) (l : List ByteArray) : tailS c (l ++ [x]) = tailS c l ++ c :: x.data.toList := by simp [tailS, Lib.joinTail]
theorem joinS_tail (c : UInt8) (x : ByteArray) (r : List ByteArray) : c :: (joinS c (x :: r)).data.toList = tailS c (x :: r) := by
  rw [tailS_cons]
  show c :: Lib.join ((x :: r).map (·.data.toList)) [c] = _
  rw [List.map_cons, Lib.join_cons]
  rfl
theorem tailS_len (c : UInt8) (l : List ByteArray) : (tailS c l).length = l.length + sumS l := by
  induction l with
  | nil => rfl
  | cons x r ih =>
    have e : sumS (x :: r) = x.size + sumS r := by simp [sumS]
    rw [tailS_cons, List.length_cons, List.length_append, ih, len_data, List.length_cons, e]; omega
end Go.Proofs.YtmhohponikolfaaGreatDoor
namespace Go.Proofs.YtmhohponikolfaaGreatDoor
set_option linter.unusedVariables false
set_option linter.unusedSimpArgs false
open Go.RowKit

def inL (l : List UInt8) (n : Int) : Bool := l.any fun b => (b.toNat : Int) == n
def letP (n : Int) : Bool := decide (97 ≤ lowI n) && decide (lowI n ≤ 122)
def tokSigns : List UInt8 := [33, 35, 36, 37, 38, 39, 42, 43, 45, 46, 94, 95, 124, 126, 96]
def tokSigns14 : List UInt8 := [33, 35, 36, 37, 38, 39, 42, 43, 45, 46, 94, 95, 124, 126]
def tokP (n : Int) : Bool := letP n || digP n || inL tokSigns n
def tok8 (b : UInt8) : Bool := tokP (b.toNat : Int)
def tokB (s : ByteArray) : Bool := decide (0 < s.size) && decide (s.size ≤ 4000) && s.data.toList.all tok8

theorem tokP_let {n : Int} (h : letP n = true) : tokP n = true := by simp [tokP, h]
theorem tokP_dig {n : Int} (h : digP n = true) : tokP n = true := by simp [tokP, h]
theorem tokP_sig {n : Int} (h1 : letP n = false) (h2 : digP n = false) : tokP n = inL tokSigns n := by simp [tokP, h1, h2]
theorem tokP_96 {n : Int} (h1 : letP n = false) (h2 : digP n = false) (h3 : (n == 96) = true) : tokP n = true := by
  rw [tokP_sig h1 h2]
  rw [beq_iff_eq] at h3
  subst h3
  decide
theorem tokP_14 {n : Int} (h1 : letP n = false) (h2 : digP n = false) (h3 : (n == 96) = false) : tokP n = inL tokSigns14 n := by
  rw [tokP_sig h1 h2]
  have h4 : ((96 : Int) == n) = false := by rw [Bool.eq_false_iff, ne_eq, beq_iff_eq] at h3 ⊢; omega
  show (tokSigns14 ++ [96]).any _ = tokSigns14.any _
  rw [List.any_append]
  have h5 : ([96] : List UInt8).any (fun b => (b.toNat : Int) == n) = false := by
    show ((96 : Int) == n || false) = false
    rw [h4]; rfl
  rw [h5, Bool.or_false]
theorem inL_hit {l : List UInt8} {n : Int} {k : Nat} (hk : k < l.length) (h : (l[k].toNat : Int) = n) : inL l n = true := by
  unfold inL
  rw [List.any_eq_true]
  exact ⟨l[k], List.getElem_mem hk, by simp [h]⟩
theorem inL_miss {l : List UInt8} {n : Int} (h : ∀ j, j < l.length → ((l.getD j 0).toNat : Int) ≠ n) : inL l n = false := by
  unfold inL
  rw [List.any_eq_false]
  intro x hx
  obtain ⟨j, hj, rfl⟩ := List.mem_iff_getElem.1 hx
  have := h j hj
  rw [List.getD, List.getElem?_eq_getElem hj] at this
  simpa using this
theorem tokB_no {s : ByteArray} {k : Nat} (hk : k < s.size) (h : tok8 (at8 s k) = false) : tokB s = false := by
  unfold tokB
  have hl : k < s.data.toList.length := by simpa using hk
  have : s.data.toList.all tok8 = false := by
    rw [List.all_eq_false]
    refine ⟨s.data.toList[k], List.getElem_mem hl, ?_⟩
    simp [at8, List.getD, List.getElem?_eq_getElem hl] at h
    simp [h]
  simp [this]
theorem tokB_yes {s : ByteArray} (h0 : 0 < s.size) (h1 : s.size ≤ 4000) (h : ∀ j, j < s.size → tok8 (at8 s j) = true) : tokB s = true := by
  unfold tokB
  have : s.data.toList.all tok8 = true := by
    rw [List.all_eq_true]
    intro x hx
    obtain ⟨j, hj, rfl⟩ := List.mem_iff_getElem.1 hx
    have := h j (by simpa using hj)
    simpa [at8, List.getD, List.getElem?_eq_getElem hj] using this
  simp [this, h0, h1]
theorem tokB_size {s : ByteArray} (h : s.size = 0 ∨ 4000 < s.size) : tokB s = false := by
  unfold tokB
  rcases h with h | h
  · simp [h]
  · simp [show ¬ s.size ≤ 4000 by omega]
end Go.Proofs.YtmhohponikolfaaGreatDoor
namespace Go.Proofs.YtmhohponikolfaaGreatDoor
set_option linter.unusedVariables false
set_option linter.unusedSimpArgs false
open Go.RowKit

def decB (u : Nat) : ByteArray := ⟨(Lib.decDigits u).toArray⟩
theorem decB_list (u : Nat) : (decB u).data.toList = Lib.decDigits u := rfl
def valL (l : List UInt8) : Nat := l.foldl (fun n b => n * 10 + (b.toNat - 48)) 0
theorem valL_snoc (l : List UInt8) (b : UInt8) : valL (l ++ [b]) = valL l * 10 + (b.toNat - 48) := by simp [valL]
def allDig (l : List UInt8) : Bool := l.all dig8
theorem dig8_iff (b : UInt8) : dig8 b = true ↔ 48 ≤ b.toNat ∧ b.toNat ≤ 57 := by
  unfold dig8 digP
  simp
  omega
theorem dig8_no (b : UInt8) (h : dig8 b = false) : b.toNat < 48 ∨ 57 < b.toNat := by
  have : ¬ (48 ≤ b.toNat ∧ b.toNat ≤ 57) := fun hh => by rw [(dig8_iff b).2 hh] at h; cases h
  omega
def rdec (s : ByteArray) : Option Nat := if 0 < s.size ∧ s.size ≤ 15 ∧ allDig s.data.toList = true ∧ Lib.decDigits (valL s.data.toList) = s.data.toList then some (valL s.data.toList) else none

theorem snoc_ind {α : Type} {p : List α → Prop} (h0 : p []) (h1 : ∀ l a, p l → p (l ++ [a])) : ∀ l, p l := by
  intro l
  have : ∀ r : List α, p r.reverse := by
    intro r
    induction r with
    | nil => exact h0
    | cons a r ih => rw [List.reverse_cons]; exact h1 _ _ ih
  simpa using this l.reverse

theorem valL_lt (l : List UInt8) (h : allDig l = true) : valL l < 10 ^ l.length := by
  revert h
  refine snoc_ind (p := fun l => allDig l = true → valL l < 10 ^ l.length) ?_ ?_ l
  · intro _; simp [valL]
  · intro q b ih h
    have hq : allDig q = true := by unfold allDig at h ⊢; rw [List.all_append] at h; simp at h; simpa using h.1
    have hb : dig8 b = true := by unfold allDig at h; rw [List.all_append] at h; simp at h; exact h.2
    have := ih hq
    have hb' := (dig8_iff b).1 hb
    rw [valL_snoc, List.length_append, List.length_singleton, Nat.pow_succ]
    omega
theorem valL_ge (l : List UInt8) (h : allDig l = true) (hl : l ≠ []) (hz : l.head? ≠ some 48) : 10 ^ (l.length - 1) ≤ valL l := by
  revert h hl hz
  refine snoc_ind (p := fun l => allDig l = true → l ≠ [] → l.head? ≠ some 48 → 10 ^ (l.length - 1) ≤ valL l) ?_ ?_ l
  · intro _ h; exact absurd rfl h
  · intro q b ih h _ hz
    have hq : allDig q = true := by unfold allDig at h ⊢; rw [List.all_append] at h; simp at h; simpa using h.1
    have hb : dig8 b = true := by unfold allDig at h; rw [List.all_append] at h; simp at h; exact h.2
    have hb' := (dig8_iff b).1 hb
    rw [valL_snoc, List.length_append, List.length_singleton]
    by_cases e : q = []
    · subst e
      have hne : b.toNat ≠ 48 := by
        intro hh
        apply hz
        have : b = 48 := UInt8.toNat_inj.1 hh
        rw [this]; rfl
      simp [valL]
      omega
    · have hz' : q.head? ≠ some 48 := by
        intro hh; apply hz; rw [List.head?_append, hh]; rfl
      have := ih hq e hz'
      have hlen : q.length + 1 - 1 = (q.length - 1) + 1 := by have := List.length_pos_iff.2 e; omega
      rw [hlen, Nat.pow_succ]
      omega
theorem decDigits_step (u : Nat) (h : ¬ u < 10) : Lib.decDigits u = Lib.decDigits (u / 10) ++ [UInt8.ofNat (48 + u % 10)] := by
  rw [Lib.decDigits, dif_neg h]
theorem ofNat_dig (b : UInt8) (h : 48 ≤ b.toNat) : UInt8.ofNat (48 + (b.toNat - 48)) = b := by
  rw [show 48 + (b.toNat - 48) = b.toNat from by omega]; simp
theorem decDigits_val (l : List UInt8) (h : allDig l = true) (hl : l ≠ []) (hz : l.head? ≠ some 48) : Lib.decDigits (valL l) = l := by
  revert h hl hz
  refine snoc_ind (p := fun l => allDig l = true → l ≠ [] → l.head? ≠ some 48 → Lib.decDigits (valL l) = l) ?_ ?_ l
  · intro _ h; exact absurd rfl h
  · intro q b ih h _ hz
    have hq : allDig q = true := by unfold allDig at h ⊢; rw [List.all_append] at h; simp at h; simpa using h.1
    have hb : dig8 b = true := by unfold allDig at h; rw [List.all_append] at h; simp at h; exact h.2
    have hb' := (dig8_iff b).1 hb
    rw [valL_snoc]
    by_cases e : q = []
    · subst e
      have : valL [] * 10 + (b.toNat - 48) = b.toNat - 48 := by simp [valL]
      rw [this, Lib.decDigits, dif_pos (by omega), ofNat_dig b hb'.1]; rfl
    · have hz' : q.head? ≠ some 48 := by
        intro hh; apply hz; rw [List.head?_append, hh]; rfl
      have h1 := valL_ge q hq e hz'
      have h2 : 1 ≤ 10 ^ (q.length - 1) := Nat.one_le_pow _ _ (by decide)
      rw [decDigits_step _ (by omega)]
      have e1 : (valL q * 10 + (b.toNat - 48)) / 10 = valL q := by omega
      have e2 : (valL q * 10 + (b.toNat - 48)) % 10 = b.toNat - 48 := by omega
      rw [e1, e2, ih hq e hz', ofNat_dig b hb'.1]
theorem decDigits_ne_nil (u : Nat) : Lib.decDigits u ≠ [] := by
  by_cases h : u < 10
  · rw [Lib.decDigits, dif_pos h]; simp
  · rw [decDigits_step u h]; simp
theorem decDigits_head (u : Nat) (h : (Lib.decDigits u).head? = some 48) : u = 0 := by
  induction u using Nat.strongRecOn with
  | _ u ih =>
    by_cases hu : u < 10
    · rw [Lib.decDigits, dif_pos hu] at h
      have h' : UInt8.ofNat (48 + u) = 48 := Option.some.inj h
      have : (UInt8.ofNat (48 + u)).toNat = (48 : UInt8).toNat := by rw [h']
      rw [UInt8.toNat_ofNat'] at this
      have e : (48 : UInt8).toNat = 48 := rfl
      omega
    · rw [decDigits_step u hu, List.head?_append] at h
      have hne := decDigits_ne_nil (u / 10)
      have : (Lib.decDigits (u / 10)).head? = some 48 := by
        cases hq : Lib.decDigits (u / 10) with
        | nil => exact absurd hq hne
        | cons a r => rw [hq] at h; simpa using h
      have := ih (u / 10) (by omega) this
      omega
theorem allDig_dec (u : Nat) : allDig (Lib.decDigits u) = true := by
  induction u using Nat.strongRecOn with
  | _ u ih =>
    have one : ∀ d, d < 10 → dig8 (UInt8.ofNat (48 + d)) = true := by
      intro d hd
      rw [dig8_iff]
      simp
      omega
    by_cases hu : u < 10
    · rw [Lib.decDigits, dif_pos hu]
      show (dig8 (UInt8.ofNat (48 + u)) && true) = true
      rw [one u hu]; rfl
    · rw [decDigits_step u hu]
      unfold allDig
      rw [List.all_append]
      have := ih (u / 10) (by omega)
      unfold allDig at this
      rw [this]
      show (true && (dig8 (UInt8.ofNat (48 + u % 10)) && true)) = true
      rw [one (u % 10) (by omega)]; rfl
theorem valL_dec (u : Nat) : valL (Lib.decDigits u) = u := by
  induction u using Nat.strongRecOn with
  | _ u ih =>
    have one : ∀ d, d < 10 → (UInt8.ofNat (48 + d)).toNat - 48 = d := by
      intro d hd; simp; omega
    by_cases hu : u < 10
    · rw [Lib.decDigits, dif_pos hu]
      have := one u hu
      simp [valL] at this ⊢
      omega
    · rw [decDigits_step u hu, valL_snoc, ih (u / 10) (by omega), one (u % 10) (by omega)]
      omega
theorem decDigits_len (u : Nat) (h : u ≤ 999999999999999) : (Lib.decDigits u).length ≤ 15 := by
  rw [Lib.decDigits_length]
  rcases Nat.lt_or_ge 15 (Lib.nDigits u) with h1 | h1
  · exfalso
    have hl := valL_ge (Lib.decDigits u) (allDig_dec u) (decDigits_ne_nil u) (by
      intro hh
      have := decDigits_head u hh
      subst this
      rw [Lib.nDigits_small (by omega)] at h1
      omega)
    rw [valL_dec, Lib.decDigits_length] at hl
    have h2 : 10 ^ 15 ≤ 10 ^ (Lib.nDigits u - 1) := Nat.pow_le_pow_right (by decide) (by omega)
    have h3 : (10 : Nat) ^ 15 = 1000000000000000 := by decide
    omega
  · exact h1

/-! What the loops of ReadDec come to. -/
theorem allDig_take_succ (s : ByteArray) (k : Nat) (hk : k < s.size) : s.data.toList.take (k + 1) = s.data.toList.take k ++ [at8 s k] := by
  have hl : k < s.data.toList.length := by rw [len_data]; exact hk
  rw [List.take_succ_eq_append_getElem hl]
  simp [at8, List.getD, List.getElem?_eq_getElem hl]
theorem allDig_snoc (l : List UInt8) (b : UInt8) (h : allDig l = true) (hb : dig8 b = true) : allDig (l ++ [b]) = true := by
  unfold allDig at *
  rw [List.all_append, h]
  simp [hb]
theorem allDig_no (s : ByteArray) (k : Nat) (hk : k < s.size) (h : dig8 (at8 s k) = false) : allDig s.data.toList = false := by
  have hl : k < s.data.toList.length := by rw [len_data]; exact hk
  unfold allDig
  rw [List.all_eq_false]
  refine ⟨s.data.toList[k], List.getElem_mem hl, ?_⟩
  simp [at8, List.getD, List.getElem?_eq_getElem hl] at h
  simp [h]
theorem rdec_nodig (s : ByteArray) (k : Nat) (hk : k < s.size) (h : dig8 (at8 s k) = false) : rdec s = none := by
  unfold rdec
  rw [if_neg]
  rintro ⟨_, _, h3, _⟩
  rw [allDig_no s k hk h] at h3
  cases h3
theorem rdec_size (s : ByteArray) (h : s.size = 0 ∨ 15 < s.size) : rdec s = none := by
  unfold rdec
  rw [if_neg]
  rintro ⟨h1, h2, _⟩
  omega
theorem rdec_ne (s : ByteArray) (h : Lib.decDigits (valL s.data.toList) ≠ s.data.toList) : rdec s = none := by
  unfold rdec
  rw [if_neg]
  rintro ⟨_, _, _, h4⟩
  exact h h4
theorem rdec_yes (s : ByteArray) (h0 : 0 < s.size) (h1 : s.size ≤ 15) (h2 : allDig s.data.toList = true) (h3 : Lib.decDigits (valL s.data.toList) = s.data.toList) : rdec s = some (valL s.data.toList) := by
  unfold rdec
  rw [if_pos ⟨h0, h1, h2, h3⟩]
theorem head_at8 (s : ByteArray) (h : 0 < s.size) : s.data.toList.head? = some (at8 s 0) := by
  have hl : 0 < s.data.toList.length := by rw [len_data]; exact h
  rw [List.head?_eq_getElem?]
  simp [at8, List.getD, List.getElem?_eq_getElem hl]
/-- A 0 ahead of other digits. -/
theorem rdec_zero (s : ByteArray) (h : 0 < s.size) (h0 : (at8 s 0).toNat = 48) (hne : s.data.toList ≠ [48]) : rdec s = none := by
  apply rdec_ne
  intro hh
  have h1 := head_at8 s h
  have : at8 s 0 = 48 := UInt8.toNat_inj.1 h0
  rw [this, ← hh] at h1
  have hz := decDigits_head _ h1
  rw [hz] at hh
  apply hne
  rw [← hh, Lib.decDigits, dif_pos (by omega)]
  rfl
/-- Behind the last round. -/
theorem rdec_end (s : ByteArray) (h : 0 < s.size) (hd : allDig s.data.toList = true) (hz : (at8 s 0).toNat ≠ 48 ∨ s.data.toList = [48]) (hm : valL s.data.toList ≤ 999999999999999) : rdec s = some (valL s.data.toList) := by
  have hne : s.data.toList ≠ [] := by
    intro hh; have := len_data s; rw [hh] at this; simp at this; omega
  rcases hz with hz | hz
  · have hh : s.data.toList.head? ≠ some 48 := by
      rw [head_at8 s h]; intro e; apply hz; injection e with e; rw [e]; rfl
    have h1 := valL_ge _ hd hne hh
    refine rdec_yes s h ?_ hd (decDigits_val _ hd hne hh)
    rcases Nat.lt_or_ge 15 s.size with h2 | h2
    · exfalso
      have h3 : 10 ^ 15 ≤ 10 ^ (s.data.toList.length - 1) := Nat.pow_le_pow_right (by decide) (by rw [len_data]; omega)
      have h4 : (10 : Nat) ^ 15 = 1000000000000000 := by decide
      omega
    · exact h2
  · have hs : s.size = 1 := by rw [← len_data, hz]; rfl
    refine rdec_yes s h (by omega) hd ?_
    rw [hz]
    have : valL [48] = 0 := by decide
    rw [this, Lib.decDigits, dif_pos (by omega)]
    rfl
theorem allDig_take (l : List UInt8) (k : Nat) (h : allDig l = true) : allDig (l.take k) = true := by
  unfold allDig at *
  rw [List.all_eq_true] at *
  intro x hx
  exact h x (List.mem_of_mem_take hx)
/-- A value that has passed the bound. -/
theorem rdec_big (s : ByteArray) (k : Nat) (hk : k ≤ s.size) (hd : allDig (s.data.toList.take k) = true) (hm : 999999999999999 < valL (s.data.toList.take k)) : rdec s = none := by
  apply rdec_size
  right
  rcases Nat.lt_or_ge 15 s.size with h2 | h2
  · exact h2
  · exfalso
    have h1 := valL_lt _ hd
    have h3 : 10 ^ (s.data.toList.take k).length ≤ 10 ^ 15 := Nat.pow_le_pow_right (by decide) (by simp; omega)
    have h4 : (10 : Nat) ^ 15 = 1000000000000000 := by decide
    omega
end Go.Proofs.YtmhohponikolfaaGreatDoor
namespace Go.Proofs.YtmhohponikolfaaGreatDoor
set_option linter.unusedVariables false
set_option linter.unusedSimpArgs false
open Go.RowKit

/-- The value of a digit of sixteen, -1 for any other byte. -/
def hexV (n : Int) : Int := if digP n = true then n - 48 else if 97 ≤ lowI n ∧ lowI n ≤ 102 then lowI n - 87 else -1
def hex8 (b : UInt8) : Int := hexV (b.toNat : Int)
def hval (l : List UInt8) : Int := l.foldl (fun n b => n * 16 + hex8 b) 0
def allHex (l : List UInt8) : Bool := l.all fun b => decide (0 ≤ hex8 b)
def rhexOk (s : ByteArray) : Bool := decide (0 < s.size) && decide (s.size ≤ 7) && allHex s.data.toList
def rhexN (s : ByteArray) : Int := if rhexOk s = true then hval s.data.toList else 0

theorem digP_iff {n : Int} : digP n = true ↔ 48 ≤ n ∧ n ≤ 57 := by unfold digP; simp
theorem hexV_dig {n : Int} (h : digP n = true) : hexV n = n - 48 := by unfold hexV; rw [if_pos h]
theorem hexV_let {n : Int} (h : digP n = false) (h1 : 97 ≤ lowI n) (h2 : lowI n ≤ 102) : hexV n = lowI n - 87 := by
  unfold hexV; rw [if_neg (by simp [h]), if_pos ⟨h1, h2⟩]
theorem hexV_no {n : Int} (h : digP n = false) (h1 : lowI n < 97 ∨ 102 < lowI n) : hexV n = -1 := by
  unfold hexV; rw [if_neg (by simp [h]), if_neg (by omega)]
theorem hexV_bd (n : Int) : -1 ≤ hexV n ∧ hexV n ≤ 15 := by
  unfold hexV
  split
  · rename_i h; rw [digP_iff] at h; omega
  · split <;> omega
theorem digP_low (n : Int) (h0 : 0 ≤ n) : digP (lowI n) = digP n := by
  unfold digP lowI
  by_cases h : 65 ≤ n ∧ n ≤ 90
  · rw [if_pos h]
    have h1 : ¬ n ≤ 57 := by omega
    have h2 : ¬ n + 32 ≤ 57 := by omega
    simp [h1, h2]
  · rw [if_neg h]
theorem lowI_dig {n : Int} (h : digP n = true) : lowI n = n := by
  rw [digP_iff] at h; unfold lowI; rw [if_neg (by omega)]
theorem hval_snoc (l : List UInt8) (b : UInt8) : hval (l ++ [b]) = hval l * 16 + hex8 b := by simp [hval]
theorem hval_bd (l : List UInt8) (h : allHex l = true) : 0 ≤ hval l ∧ hval l < 16 ^ l.length := by
  revert h
  refine snoc_ind (p := fun l => allHex l = true → 0 ≤ hval l ∧ hval l < 16 ^ l.length) ?_ ?_ l
  · intro _; simp [hval]
  · intro q b ih h
    have hq : allHex q = true := by unfold allHex at h ⊢; rw [List.all_append] at h; simp at h; simpa using h.1
    have hb : 0 ≤ hex8 b := by unfold allHex at h; rw [List.all_append] at h; simp at h; exact h.2
    have hb2 := (hexV_bd (b.toNat : Int)).2
    have := ih hq
    have hb3 : hex8 b ≤ 15 := hb2
    rw [hval_snoc, List.length_append, List.length_singleton, Int.pow_succ]
    omega
theorem allHex_snoc (l : List UInt8) (b : UInt8) (h : allHex l = true) (hb : 0 ≤ hex8 b) : allHex (l ++ [b]) = true := by
  unfold allHex at *
  rw [List.all_append, h]
  simp [hb]
theorem allHex_no (s : ByteArray) (k : Nat) (hk : k < s.size) (h : hex8 (at8 s k) < 0) : allHex s.data.toList = false := by
  have hl : k < s.data.toList.length := by rw [len_data]; exact hk
  unfold allHex
  rw [List.all_eq_false]
  refine ⟨s.data.toList[k], List.getElem_mem hl, ?_⟩
  simp [at8, List.getD, List.getElem?_eq_getElem hl] at h
  simpa using h
theorem rhex_size {s : ByteArray} (h : s.size = 0 ∨ 7 < s.size) : rhexN s = 0 ∧ rhexOk s = false := by
  have : rhexOk s = false := by
    unfold rhexOk
    rcases h with h | h
    · simp [h]
    · simp [show ¬ s.size ≤ 7 by omega]
  exact ⟨by simp [rhexN, this], this⟩
theorem rhex_no {s : ByteArray} {k : Nat} (hk : k < s.size) (h : hex8 (at8 s k) < 0) : rhexN s = 0 ∧ rhexOk s = false := by
  have : rhexOk s = false := by unfold rhexOk; simp [allHex_no s k hk h]
  exact ⟨by simp [rhexN, this], this⟩
theorem rhex_yes {s : ByteArray} (h0 : 0 < s.size) (h1 : s.size ≤ 7) (h : allHex s.data.toList = true) : rhexN s = hval s.data.toList ∧ rhexOk s = true := by
  have : rhexOk s = true := by unfold rhexOk; simp [h0, h1, h]
  exact ⟨by simp [rhexN, this], this⟩
theorem hval_small (s : ByteArray) (k : Nat) (hk : k ≤ 7) (h : allHex (s.data.toList.take k) = true) : 0 ≤ hval (s.data.toList.take k) ∧ hval (s.data.toList.take k) < 268435456 := by
  have h1 := hval_bd _ h
  have h2 : (s.data.toList.take k).length ≤ 7 := by simp; omega
  have h3' : (16 : Nat) ^ (s.data.toList.take k).length ≤ 16 ^ 7 := Nat.pow_le_pow_right (by decide) h2
  have h3 : (16 : Int) ^ (s.data.toList.take k).length ≤ 16 ^ 7 := by exact_mod_cast h3'
  have h4 : (16 : Int) ^ 7 = 268435456 := by decide
  omega
end Go.Proofs.YtmhohponikolfaaGreatDoor
namespace Go.Proofs.YtmhohponikolfaaGreatDoor
set_option linter.unusedVariables false
set_option linter.unusedSimpArgs false
open Go.RowKit
/-- All bytes are of a kind. -/
def allB (p : UInt8 → Bool) (s : ByteArray) : Bool := s.data.toList.all p
theorem allB_no {p : UInt8 → Bool} {s : ByteArray} {k : Nat} (hk : k < s.size) (h : p (at8 s k) = false) : allB p s = false := by
  unfold allB
  have hl : k < s.data.toList.length := by simpa using hk
  rw [List.all_eq_false]
  refine ⟨s.data.toList[k], List.getElem_mem hl, ?_⟩
  simp [at8, List.getD, List.getElem?_eq_getElem hl] at h
  simp [h]
theorem allB_yes {p : UInt8 → Bool} {s : ByteArray} (h : ∀ j, j < s.size → p (at8 s j) = true) : allB p s = true := by
  unfold allB
  rw [List.all_eq_true]
  intro x hx
  obtain ⟨j, hj, rfl⟩ := List.mem_iff_getElem.1 hx
  have := h j (by simpa using hj)
  simpa [at8, List.getD, List.getElem?_eq_getElem hj] using this
/-- A byte that may stand in a target. -/
def visP (n : Int) : Bool := decide (33 ≤ n) && decide (n ≤ 126)
def vis8 (b : UInt8) : Bool := visP (b.toNat : Int)
def targQ (s : ByteArray) : Bool := decide (1 ≤ (s.size : Int)) && decide ((s.size : Int) ≤ 200) && allB vis8 s
theorem targQ_iff {s : ByteArray} : targQ s = true ↔ 1 ≤ s.size ∧ s.size ≤ 200 ∧ allB vis8 s = true := by
  unfold targQ; rw [Bool.and_eq_true, Bool.and_eq_true, decide_eq_true_eq, decide_eq_true_eq, and_assoc]
  constructor
  · rintro ⟨a, b, c⟩; exact ⟨by omega, by omega, c⟩
  · rintro ⟨a, b, c⟩; exact ⟨by omega, by omega, c⟩
end Go.Proofs.YtmhohponikolfaaGreatDoor
namespace Go.Proofs.YtmhohponikolfaaGreatDoor
set_option linter.unusedVariables false
set_option linter.unusedSimpArgs false
open Go.RowKit
def opnL : List UInt8 := [45, 46, 95, 126]
/-- A byte that stands for itself everywhere. -/
def opnP (n : Int) : Bool := letP n || digP n || inL opnL n
def opn8 (b : UInt8) : Bool := opnP (b.toNat : Int)
def hexP (b : UInt8) : Bool := decide (0 ≤ hex8 b)
/-- The byte that two digits name. -/
def nam8 (b c : UInt8) : UInt8 := UInt8.ofNat (hex8 b * 16 + hex8 c).toNat
def up8 (b : UInt8) : UInt8 := if 97 ≤ b.toNat ∧ b.toNat ≤ 122 then b - 32 else b
def pctP (b c : UInt8) : List UInt8 := if opn8 (nam8 b c) = true then [nam8 b c] else [37, up8 b, up8 c]
/-- What % stands for, where it may. -/
def evL : List UInt8 → List UInt8
  | [] => []
  | [a] => [a]
  | [a, b] => [a, b]
  | a :: b :: c :: r => if a = 37 ∧ hexP b = true ∧ hexP c = true then pctP b c ++ evL r else a :: evL (b :: c :: r)
theorem evL_hit {b c : UInt8} {r : List UInt8} (hb : hexP b = true) (hc : hexP c = true) : evL (37 :: b :: c :: r) = pctP b c ++ evL r := by
  rw [evL, if_pos ⟨rfl, hb, hc⟩]
theorem evL_miss {a : UInt8} {r : List UInt8} (h : ¬ (a = 37 ∧ ∃ b c q, r = b :: c :: q ∧ hexP b = true ∧ hexP c = true)) : evL (a :: r) = a :: evL r := by
  match r with
  | [] => rfl
  | [b] => rfl
  | b :: c :: q => rw [evL, if_neg (fun hh => h ⟨hh.1, b, c, q, rfl, hh.2.1, hh.2.2⟩)]
theorem pctP_len (b c : UInt8) : (pctP b c).length ≤ 3 := by unfold pctP; split <;> simp
theorem evL_len : ∀ (n : Nat) (l : List UInt8), l.length ≤ n → (evL l).length ≤ l.length
  | _, [], _ => Nat.le_refl _
  | _, [_], _ => Nat.le_refl _
  | _, [_, _], _ => Nat.le_refl _
  | 0, _ :: _ :: _ :: _, h => by simp at h
  | n + 1, a :: b :: c :: r, h => by
    rw [evL]
    split
    · have h1 := pctP_len b c
      have h2 := evL_len n r (by simp at h; omega)
      rw [List.length_append]; simp; omega
    · have h2 := evL_len n (b :: c :: r) (by simp at h ⊢; omega)
      rw [List.length_cons, List.length_cons (a := a)]; omega
/-- Do the bytes from i on begin with a % and two digits? -/
def hexAt (s : ByteArray) (i : Nat) : Bool := decide (i + 3 ≤ s.size) && (at8 s i == 37) && hexP (at8 s (i + 1)) && hexP (at8 s (i + 2))
theorem drop_at8 {s : ByteArray} {i : Nat} (h : i < s.size) : s.data.toList.drop i = at8 s i :: s.data.toList.drop (i + 1) := by
  have hl : i < s.data.toList.length := by rw [len_data]; exact h
  rw [List.drop_eq_getElem_cons hl]
  congr 1
  unfold at8
  rw [List.getD, List.getElem?_eq_getElem hl]; rfl
theorem hexAt_iff {s : ByteArray} {i : Nat} : hexAt s i = true ↔ i + 3 ≤ s.size ∧ at8 s i = 37 ∧ hexP (at8 s (i + 1)) = true ∧ hexP (at8 s (i + 2)) = true := by
  unfold hexAt
  simp [and_assoc]
theorem evL_at {s : ByteArray} {i : Nat} (h : hexAt s i = true) : evL (s.data.toList.drop i) = pctP (at8 s (i + 1)) (at8 s (i + 2)) ++ evL (s.data.toList.drop (i + 3)) := by
  obtain ⟨h1, h2, h3, h4⟩ := hexAt_iff.1 h
  rw [drop_at8 (i := i) (by omega), drop_at8 (i := i + 1) (by omega), drop_at8 (i := i + 1 + 1) (by omega), h2]
  exact evL_hit h3 h4
theorem evL_on {s : ByteArray} {i : Nat} (hi : i < s.size) (h : hexAt s i = false) : evL (s.data.toList.drop i) = at8 s i :: evL (s.data.toList.drop (i + 1)) := by
  rw [drop_at8 hi]
  refine evL_miss ?_
  rintro ⟨h1, b, c, q, hq, hb, hc⟩
  have hlen := congrArg List.length hq
  simp at hlen
  have hsz : i + 3 ≤ s.size := by have := len_data s; simp at this; omega
  rw [drop_at8 (i := i + 1) (by omega), drop_at8 (i := i + 1 + 1) (by omega)] at hq
  injection hq with e1 e2
  injection e2 with e2 _
  rw [← e1] at hb
  rw [← e2] at hc
  rw [hexAt_iff.2 ⟨hsz, h1, hb, hc⟩] at h
  cases h
/-- What the first bytes of s become, and how many they are. -/
def evP (s : ByteArray) : ByteArray := if hexAt s 0 = true then ⟨(pctP (at8 s 1) (at8 s 2)).toArray⟩ else s.extract 0 1
def evN (s : ByteArray) : Nat := if hexAt s 0 = true then 3 else 1
def evB (s : ByteArray) : ByteArray := ⟨(evL s.data.toList).toArray⟩
theorem evB_size (s : ByteArray) : (evB s).size ≤ s.size := by
  have h := evL_len s.data.toList.length s.data.toList (Nat.le_refl _)
  rw [len_data] at h
  show (evL s.data.toList).toArray.size ≤ _
  simpa using h
theorem evN_le {s : ByteArray} (h : 0 < s.size) : evN s ≤ s.size := by
  unfold evN
  split
  · rename_i h1; have := (hexAt_iff.1 h1).1; omega
  · omega
theorem evN_pos (s : ByteArray) : 1 ≤ evN s := by unfold evN; split <;> omega
theorem evP_size (s : ByteArray) : (evP s).size ≤ 3 := by
  unfold evP
  split
  · show (pctP _ _).toArray.size ≤ 3
    simpa using pctP_len _ _
  · rw [ByteArray.size_extract]; omega
theorem evB_step {s : ByteArray} (h : 0 < s.size) : evB s = evP s ++ evB (s.extract (evN s) s.size) := by
  apply bytes_ext
  rw [Go.Joins.data_append]
  show evL s.data.toList = _ ++ evL (s.extract (evN s) s.size).data.toList
  have e : (s.extract (evN s) s.size).data.toList = s.data.toList.drop (evN s) := by
    rw [Lib.extract_data]
    exact List.take_of_length_le (by rw [List.length_drop, len_data]; omega)
  rw [e]
  unfold evP evN
  split
  · rename_i h1
    have := evL_at h1
    rw [List.drop_zero] at this
    exact this
  · rename_i h1
    have h2 := evL_on h (by simpa using h1)
    rw [List.drop_zero] at h2
    rw [h2, Lib.extract_data]
    have := drop_at8 h
    rw [List.drop_zero] at this
    rw [List.drop_zero, this]
    rfl
/-- The pieces that stay. -/
def dd : ByteArray := ⟨#[46, 46]⟩
def d1 : ByteArray := ⟨#[46]⟩
def dotQ (x : ByteArray) : Bool := eqB x d1 || eqB x dd
def keepS (k : List ByteArray) (x : ByteArray) : List ByteArray := if eqB x dd = true then k.dropLast else if eqB x d1 = true then k else k ++ [x]
def keepL (l : List ByteArray) : List ByteArray := l.foldl keepS []
def lastDot (l : List ByteArray) : Bool := match l.getLast? with | some x => dotQ x | none => false
def keptL (l : List ByteArray) : List ByteArray := if lastDot l = true then keepL l ++ [⟨#[]⟩] else keepL l
theorem keepL_snoc (l : List ByteArray) (x : ByteArray) : keepL (l ++ [x]) = keepS (keepL l) x := by simp [keepL]
theorem keepL_take {l : List ByteArray} {k : Nat} (h : k < l.length) : keepL (l.take (k + 1)) = keepS (keepL (l.take k)) l[k] := by
  rw [List.take_succ_eq_append_getElem h, keepL_snoc]
theorem lastDot_take {l : List ByteArray} {k : Nat} (h : k < l.length) : lastDot (l.take (k + 1)) = dotQ l[k] := by
  rw [List.take_succ_eq_append_getElem h]
  unfold lastDot
  rw [List.getLast?_append]
  rfl
theorem keepS_le (k : List ByteArray) (x : ByteArray) : (keepS k x).length ≤ k.length + 1 ∧ sumS (keepS k x) ≤ sumS k + x.size := by
  have hd : sumS k.dropLast ≤ sumS k := by
    rcases List.eq_nil_or_concat k with rfl | ⟨q, y, rfl⟩
    · exact Nat.le_refl _
    · simp [sumS]
  unfold keepS
  split
  · rw [List.length_dropLast]; omega
  · split
    · omega
    · simp [sumS]
theorem keepL_le (l : List ByteArray) : (keepL l).length ≤ l.length ∧ sumS (keepL l) ≤ sumS l := by
  refine snoc_ind (p := fun l => (keepL l).length ≤ l.length ∧ sumS (keepL l) ≤ sumS l) ?_ ?_ l
  · exact ⟨Nat.le_refl _, Nat.le_refl _⟩
  · intro q x ih
    rw [keepL_snoc]
    have h := keepS_le (keepL q) x
    have e : sumS (q ++ [x]) = sumS q + x.size := by simp [sumS]
    rw [List.length_append, List.length_singleton, e]
    omega
/-- A path in its one form. -/
def clnL (l : List ByteArray) : ByteArray := if l = [] then ⟨#[47]⟩ else ⟨(tailS 47 l).toArray⟩
def nof8 (b : UInt8) : Bool := b != 35 && b != 63
def pthQ (p : ByteArray) : Bool := targQ p && (at8 p 0 == 47) && allB nof8 p
def clnB (p : ByteArray) : ByteArray := if pthQ p = true then clnL (keptL (splS 47 (evB (p.extract 1 p.size)))) else ⟨#[]⟩
end Go.Proofs.YtmhohponikolfaaGreatDoor
namespace Go.Proofs.YtmhohponikolfaaGreatDoor
set_option linter.unusedVariables false
set_option linter.unusedSimpArgs false
open Go.RowKit

set_option maxHeartbeats 400000 in
theorem smallByte_any (n : Int) (w : World) (h0 : 0 ≤ n) (h1 : n ≤ 255) :
    Calls Tryz.prog 89 #[.int .u8 n] w fun e w' => e = .returned (.int .u8 (lowI n)) ∧ w' = w := by
  unfold lowI
  by_cases ha : 65 ≤ n
  · by_cases hb : n ≤ 90
    · rw [if_pos ⟨ha, hb⟩]
      go_enter Tryz.func89, Tryz.ntmps89
      go_wp2
      go_ret
      exact ⟨rfl, rfl⟩
    · rw [if_neg (by omega)]
      go_enter Tryz.func89, Tryz.ntmps89
      go_wp2
      go_ret
      exact ⟨rfl, rfl⟩
  · rw [if_neg (by omega)]
    go_enter Tryz.func89, Tryz.ntmps89
    go_wp2
    go_ret
    exact ⟨rfl, rfl⟩
set_option maxHeartbeats 400000 in
theorem l1lower_any (n : Int) (w : World) (h0 : 0 ≤ n) (h1 : n ≤ 255) :
    Calls Tryz.prog 76 #[.int .u8 n] w fun e w' => e = .returned (.int .u8 (lowI n)) ∧ w' = w := by
  unfold lowI
  by_cases ha : 65 ≤ n
  · by_cases hb : n ≤ 90
    · rw [if_pos ⟨ha, hb⟩]
      go_enter Tryz.func76, Tryz.ntmps76
      go_wp2
      go_ret
      exact ⟨rfl, rfl⟩
    · rw [if_neg (by omega)]
      go_enter Tryz.func76, Tryz.ntmps76
      go_wp2
      go_ret
      exact ⟨rfl, rfl⟩
  · rw [if_neg (by omega)]
    go_enter Tryz.func76, Tryz.ntmps76
    go_wp2
    go_ret
    exact ⟨rfl, rfl⟩
end Go.Proofs.YtmhohponikolfaaGreatDoor
namespace Go.Proofs.YtmhohponikolfaaGreatDoor
set_option linter.unusedVariables false
set_option linter.unusedSimpArgs false
open Go.RowKit

theorem gapP_yes1 {n : Int} (h : (n == 32) = true) : gapP n = true := by simp [gapP, h]
theorem gapP_no1 {n : Int} (h : (n == 32) = false) : gapP n = (n == 9) := by simp [gapP, h]
theorem digP_no1 {n : Int} (h : ¬ 48 ≤ n) : digP n = false := by simp [digP, h]
theorem digP_yes1 {n : Int} (h : 48 ≤ n) : digP n = decide (n ≤ 57) := by simp [digP, h]

set_option maxHeartbeats 400000 in
theorem gapByte_any (n : Int) (w : World) :
    Calls Tryz.prog 119 #[.int .u8 n] w fun e w' => e = .returned (.bool (gapP n)) ∧ w' = w := by
  cases h : (n == 32)
  · rw [gapP_no1 h]
    go_enter Tryz.func119, Tryz.ntmps119
    go_wp2
    go_ret
    exact ⟨rfl, rfl⟩
  · rw [gapP_yes1 h]
    go_enter Tryz.func119, Tryz.ntmps119
    go_wp2
    go_ret
    exact ⟨rfl, rfl⟩
set_option maxHeartbeats 400000 in
theorem l1white_any (n : Int) (w : World) :
    Calls Tryz.prog 148 #[.int .u8 n] w fun e w' => e = .returned (.bool (gapP n)) ∧ w' = w := by
  cases h : (n == 32)
  · rw [gapP_no1 h]
    go_enter Tryz.func148, Tryz.ntmps148
    go_wp2
    go_ret
    exact ⟨rfl, rfl⟩
  · rw [gapP_yes1 h]
    go_enter Tryz.func148, Tryz.ntmps148
    go_wp2
    go_ret
    exact ⟨rfl, rfl⟩
set_option maxHeartbeats 400000 in
theorem digitByte_any (n : Int) (w : World) :
    Calls Tryz.prog 126 #[.int .u8 n] w fun e w' => e = .returned (.bool (digP n)) ∧ w' = w := by
  by_cases h : 48 ≤ n
  · rw [digP_yes1 h]
    go_enter Tryz.func126, Tryz.ntmps126
    go_wp2
    go_ret
    exact ⟨rfl, rfl⟩
  · rw [digP_no1 h]
    go_enter Tryz.func126, Tryz.ntmps126
    go_wp2
    go_ret
    exact ⟨rfl, rfl⟩
set_option maxHeartbeats 400000 in
theorem l1digit_any (n : Int) (w : World) :
    Calls Tryz.prog 103 #[.int .u8 n] w fun e w' => e = .returned (.bool (digP n)) ∧ w' = w := by
  by_cases h : 48 ≤ n
  · rw [digP_yes1 h]
    go_enter Tryz.func103, Tryz.ntmps103
    go_wp2
    go_ret
    exact ⟨rfl, rfl⟩
  · rw [digP_no1 h]
    go_enter Tryz.func103, Tryz.ntmps103
    go_wp2
    go_ret
    exact ⟨rfl, rfl⟩
set_option maxHeartbeats 1000000 in
theorem Trim_any (s : ByteArray) (w : World) (hs : s.size ≤ maxLen) :
    Calls Tryz.prog 78 #[.string s] w fun e w' => e = .returned (.string (trimB s)) ∧ w' = w := by
  unfold maxLen at hs
  go_enter Tryz.func78, Tryz.ntmps78
  go_wp2
  go_loop [3] (fun i => ∃ k : Nat, k ≤ s.size ∧ i = .int .i64 k ∧ ∀ j, j < k → gap8 (at8 s j) = true) (fun i => s.size - (intOf i).toNat)
  case atStart => exact ⟨0, Nat.zero_le _, rfl, fun j hj => by omega⟩
  case round =>
    obtain ⟨k, hk, rfl, hall⟩ := hrel
    have Hall : Hid (∀ j, j < k → gap8 (at8 s j) = true) := hall
    clear hall
    by_cases hc : k < s.size ∧ gap8 (at8 s k) = true
    · obtain ⟨hlt, hg0⟩ := hc
      have hg : gapP (s[k].toNat : Int) = true := by rw [at8_eq s k hlt]; exact hg0
      have Hg : Hid (gap8 (at8 s k) = true) := hg0
      clear hg0
      go_wp2_with (go_at_call 119; refine (gapByte_any _ _).mono ?_; rintro e w' ⟨rfl, rfl⟩)
      go_round
      case rel => exact ⟨k + 1, by omega, by go_num, all_succ Hall.out Hg.out⟩
      case measure => simp [intOf]; omega
    · have HE : Hid (k = s.size ∨ gap8 (at8 s k) = false) := by
        rcases Nat.lt_or_ge k s.size with h | h
        · right; exact Bool.eq_false_iff.2 (fun hh => hc ⟨h, hh⟩)
        · left; omega
      have hway : (∃ h : k < s.size, gapP (s[k].toNat : Int) = false) ∨ ¬ k < s.size := by
        rcases Nat.lt_or_ge k s.size with h | h
        · left; refine ⟨h, ?_⟩; rw [at8_eq s k h]; exact Bool.eq_false_iff.2 (fun hh => hc ⟨h, hh⟩)
        · right; omega
      clear hc
      rcases hway with ⟨hlt, hg⟩ | hlt
      all_goals
        go_wp2_with (go_at_call 119; refine (gapByte_any _ _).mono ?_; rintro e w' ⟨rfl, rfl⟩)
        try clear hg
        try clear hlt
        go_loop [4] (fun i => ∃ t : Nat, k ≤ t ∧ t ≤ s.size ∧ i = .int .i64 t ∧ ∀ j, t ≤ j → j < s.size → gap8 (at8 s j) = true) (fun i => (intOf i).toNat)
        case atStart => exact ⟨s.size, hk, Nat.le_refl _, rfl, fun j h1 h2 => by omega⟩
        case round =>
          obtain ⟨t, hkt, ht, rfl, hz⟩ := hrel
          have Hz : Hid (∀ j, t ≤ j → j < s.size → gap8 (at8 s j) = true) := hz
          clear hz
          by_cases hc : k < t ∧ gap8 (at8 s (t - 1)) = true
          · obtain ⟨hlt2, hg0⟩ := hc
            obtain ⟨u, rfl⟩ : ∃ u, t = u + 1 := ⟨t - 1, by omega⟩
            have hu : u < s.size := by omega
            have hg2 : gapP (s[u].toNat : Int) = true := by rw [at8_eq s u hu]; exact hg0
            have Hg : Hid (gap8 (at8 s u) = true) := hg0
            clear hg0
            go_wp2_with (go_at_call 119; refine (gapByte_any _ _).mono ?_; rintro e w' ⟨rfl, rfl⟩)
            go_round
            case rel => exact ⟨u, by omega, by omega, by go_num, all_pred Hz.out Hg.out⟩
            case measure => simp [intOf] <;> omega
          · have HF : Hid (t = k ∨ gap8 (at8 s (t - 1)) = false) := by
              rcases Nat.lt_or_ge k t with h | h
              · right; exact Bool.eq_false_iff.2 (fun hh => hc ⟨h, hh⟩)
              · left; omega
            have hfin : Hid (s.extract k t = trimB s) := trim_of s k t Hall.out HE.out hkt ht Hz.out HF.out
            by_cases hlt2 : k < t
            · obtain ⟨u, rfl⟩ : ∃ u, t = u + 1 := ⟨t - 1, by omega⟩
              have hu : u < s.size := by omega
              have hg2 : gapP (s[u].toNat : Int) = false := by
                rw [at8_eq s u hu]; exact Bool.eq_false_iff.2 (fun hh => hc ⟨hlt2, hh⟩)
              clear hc
              go_wp2_with (go_at_call 119; refine (gapByte_any _ _).mono ?_; rintro e w' ⟨rfl, rfl⟩)
              go_ret
              exact ⟨by rw [← hfin.out]; first | rfl | simp, rfl⟩
            · clear hc
              go_wp2_with (go_at_call 119; refine (gapByte_any _ _).mono ?_; rintro e w' ⟨rfl, rfl⟩)
              go_ret
              exact ⟨by rw [← hfin.out]; first | rfl | simp, rfl⟩
set_option maxHeartbeats 1000000 in
theorem sTrim_any (s : ByteArray) (w : World) (hs : s.size ≤ maxLen) :
    Calls Tryz.prog 115 #[.string s] w fun e w' => e = .returned (.string (trimB s)) ∧ w' = w := by
  unfold maxLen at hs
  go_enter Tryz.func115, Tryz.ntmps115
  go_wp2
  go_loop [3] (fun i => ∃ k : Nat, k ≤ s.size ∧ i = .int .i64 k ∧ ∀ j, j < k → gap8 (at8 s j) = true) (fun i => s.size - (intOf i).toNat)
  case atStart => exact ⟨0, Nat.zero_le _, rfl, fun j hj => by omega⟩
  case round =>
    obtain ⟨k, hk, rfl, hall⟩ := hrel
    have Hall : Hid (∀ j, j < k → gap8 (at8 s j) = true) := hall
    clear hall
    by_cases hc : k < s.size ∧ gap8 (at8 s k) = true
    · obtain ⟨hlt, hg0⟩ := hc
      have hg : gapP (s[k].toNat : Int) = true := by rw [at8_eq s k hlt]; exact hg0
      have Hg : Hid (gap8 (at8 s k) = true) := hg0
      clear hg0
      go_wp2_with (go_at_call 148; refine (l1white_any _ _).mono ?_; rintro e w' ⟨rfl, rfl⟩)
      go_round
      case rel => exact ⟨k + 1, by omega, by go_num, all_succ Hall.out Hg.out⟩
      case measure => simp [intOf]; omega
    · have HE : Hid (k = s.size ∨ gap8 (at8 s k) = false) := by
        rcases Nat.lt_or_ge k s.size with h | h
        · right; exact Bool.eq_false_iff.2 (fun hh => hc ⟨h, hh⟩)
        · left; omega
      have hway : (∃ h : k < s.size, gapP (s[k].toNat : Int) = false) ∨ ¬ k < s.size := by
        rcases Nat.lt_or_ge k s.size with h | h
        · left; refine ⟨h, ?_⟩; rw [at8_eq s k h]; exact Bool.eq_false_iff.2 (fun hh => hc ⟨h, hh⟩)
        · right; omega
      clear hc
      rcases hway with ⟨hlt, hg⟩ | hlt
      all_goals
        go_wp2_with (go_at_call 148; refine (l1white_any _ _).mono ?_; rintro e w' ⟨rfl, rfl⟩)
        try clear hg
        try clear hlt
        go_loop [4] (fun i => ∃ t : Nat, k ≤ t ∧ t ≤ s.size ∧ i = .int .i64 t ∧ ∀ j, t ≤ j → j < s.size → gap8 (at8 s j) = true) (fun i => (intOf i).toNat)
        case atStart => exact ⟨s.size, hk, Nat.le_refl _, rfl, fun j h1 h2 => by omega⟩
        case round =>
          obtain ⟨t, hkt, ht, rfl, hz⟩ := hrel
          have Hz : Hid (∀ j, t ≤ j → j < s.size → gap8 (at8 s j) = true) := hz
          clear hz
          by_cases hc : k < t ∧ gap8 (at8 s (t - 1)) = true
          · obtain ⟨hlt2, hg0⟩ := hc
            obtain ⟨u, rfl⟩ : ∃ u, t = u + 1 := ⟨t - 1, by omega⟩
            have hu : u < s.size := by omega
            have hg2 : gapP (s[u].toNat : Int) = true := by rw [at8_eq s u hu]; exact hg0
            have Hg : Hid (gap8 (at8 s u) = true) := hg0
            clear hg0
            go_wp2_with (go_at_call 148; refine (l1white_any _ _).mono ?_; rintro e w' ⟨rfl, rfl⟩)
            go_round
            case rel => exact ⟨u, by omega, by omega, by go_num, all_pred Hz.out Hg.out⟩
            case measure => simp [intOf] <;> omega
          · have HF : Hid (t = k ∨ gap8 (at8 s (t - 1)) = false) := by
              rcases Nat.lt_or_ge k t with h | h
              · right; exact Bool.eq_false_iff.2 (fun hh => hc ⟨h, hh⟩)
              · left; omega
            have hfin : Hid (s.extract k t = trimB s) := trim_of s k t Hall.out HE.out hkt ht Hz.out HF.out
            by_cases hlt2 : k < t
            · obtain ⟨u, rfl⟩ : ∃ u, t = u + 1 := ⟨t - 1, by omega⟩
              have hu : u < s.size := by omega
              have hg2 : gapP (s[u].toNat : Int) = false := by
                rw [at8_eq s u hu]; exact Bool.eq_false_iff.2 (fun hh => hc ⟨hlt2, hh⟩)
              clear hc
              go_wp2_with (go_at_call 148; refine (l1white_any _ _).mono ?_; rintro e w' ⟨rfl, rfl⟩)
              go_ret
              exact ⟨by rw [← hfin.out]; first | rfl | simp, rfl⟩
            · clear hc
              go_wp2_with (go_at_call 148; refine (l1white_any _ _).mono ?_; rintro e w' ⟨rfl, rfl⟩)
              go_ret
              exact ⟨by rw [← hfin.out]; first | rfl | simp, rfl⟩
end Go.Proofs.YtmhohponikolfaaGreatDoor
namespace Go.Proofs.YtmhohponikolfaaGreatDoor
set_option linter.unusedVariables false
set_option linter.unusedSimpArgs false
open Go.RowKit

theorem below_call_alloc {w w1 : World} {o : Obj} (hb : Below w.drew.heap.size w.drew w1) : Below w.heap.size w (w1.alloc o) := by
  have h : Below w.heap.size w w1 := (Below.drew (Below.refl _ w)).trans (hb.mono (by simp))
  exact h.alloc h.size _
theorem below_alloc_call {w w1 : World} {o : Obj} (hb : Below (w.alloc o).drew.heap.size (w.alloc o).drew w1) : Below w.heap.size w w1 :=
  (((Below.refl _ w).alloc (Nat.le_refl _) o).drew).trans (hb.mono (by simp))
/-- One byte's text. -/
theorem conv_one {P : Program} (src e dst : TypeId) (hs : P.underlying src = some (.slice e)) (he : P.underlying e = some (.int .u8)) (hd : P.underlying dst = some .string) (w : World) (b cap : Nat) (x : Int) (hc : w.cell? ⟨b, 0, none⟩ = some (.int .u8 x)) :
    (convert src dst (.slice (some ⟨b, 0, none⟩) 1 cap)).run P w = .ok (.string ⟨#[UInt8.ofNat x.toNat]⟩) w :=
  run_convert_bytes_arg (P := P) w src e hs he b 0 1 cap [x] rfl (fun i hi => by obtain rfl : i = 0 := by omega
                                                                                 exact hc) dst hd
set_option maxHeartbeats 1000000 in
theorem sDecText_nat (u : Nat) (w : World) (hu : u ≤ 999999999999999) :
    Calls Tryz.prog 104 #[.int .i64 (u : Int)] w fun e w' => e = .returned (.string (decB u)) ∧ Below w.heap.size w w' := by
  induction u using Nat.strongRecOn generalizing w with
  | _ u ih =>
    have h1 : ¬ (u : Int) < 0 := by omega
    have h2 : ¬ (999999999999999 : Int) < (u : Int) := by omega
    by_cases h10 : (u : Int) < 10
    · have hfin : Hid (decB u = ⟨#[UInt8.ofNat (48 + u)]⟩) := by
        show decB u = _
        unfold decB
        rw [Lib.decDigits, dif_pos (by omega)]
      have kb := fun (w : World) (b cap : Nat) (x : Int) => conv_one (P := Tryz.prog) 22 5 9 Tryz.underlying22 Tryz.underlying5 Tryz.underlying9 w b cap x
      clear ih
      go_enter Tryz.func104, Tryz.ntmps104
      go_wp2
      go_ret
      exact ⟨ret_str (by rw [hfin.out]; simp), (Below.refl _ _).alloc (Nat.le_refl _) _⟩
    · have kb := fun (w : World) (b cap : Nat) (x : Int) => conv_one (P := Tryz.prog) 22 5 9 Tryz.underlying22 Tryz.underlying5 Tryz.underlying9 w b cap x
      obtain ⟨q, r, hqr, hr, hq⟩ : ∃ q r : Nat, u = 10 * q + r ∧ r < 10 ∧ 1 ≤ q := ⟨u / 10, u % 10, by omega, by omega, by omega⟩
      have Hih : Hid (∀ (w : World), Calls Tryz.prog 104 #[.int .i64 (q : Int)] w fun e w' => e = .returned (.string (decB q)) ∧ Below w.heap.size w w') := fun w => ih q (by omega) w (by omega)
      have e1 : IntKind.i64.wrap ((u : Int) / 10) = (q : Int) := by rw [IntKind.wrap_i64]; omega
      have e2 : ((u : Int)).tmod 10 = (r : Int) := by rw [Int.tmod_eq_emod_of_nonneg (by omega)]; omega
      have e3 : IntKind.i64.wrap (48 + (r : Int)) = 48 + (r : Int) := by rw [IntKind.wrap_i64]; omega
      have e4 : IntKind.u8.wrap (48 + (r : Int)) = 48 + (r : Int) := by rw [IntKind.wrap_u8]; omega
      have HQ : Hid (u = 10 * q + r) := hqr
      have hfin : Hid (decB u = decB q ++ ⟨#[UInt8.ofNat (48 + r)]⟩) := by
        apply bytes_ext
        rw [decB_list, decDigits_step u (by omega), show u / 10 = q from by omega, show u % 10 = r from by omega]
        simp [decB, ByteArray.data_append]
      have hsz : (decB q).size ≤ 15 := decDigits_len q (by omega)
      clear ih hqr
      go_enter Tryz.func104, Tryz.ntmps104
      go_wp2
      go_region_with (go_at_call 104; refine (Hih.out _).mono ?_; rintro e w1 ⟨rfl, hb⟩; obtain ⟨hcc, hff⟩ := bcell hb)
      all_goals (go_wp2; go_ret)
      all_goals refine ⟨ret_str (by rw [hfin.out]; simp), ?_⟩
      · exact below_call_alloc hb
      · exact below_alloc_call hb
      · exact below_alloc_call hb
end Go.Proofs.YtmhohponikolfaaGreatDoor
namespace Go.Proofs
open Go.Shelf
shelf_lay LaysM.n171 Nm 171 at Tryz as Tryz.laysItoa
end Go.Proofs
namespace Go.Proofs.YtmhohponikolfaaGreatDoor
set_option linter.unusedVariables false
set_option linter.unusedSimpArgs false
open Go.RowKit
def decT (n : Int) : ByteArray := if 0 ≤ n ∧ n ≤ 999999999999999 then decB n.toNat else ⟨#[]⟩
theorem below_grow (w : World) (q : Nat) (os : Array Obj) : Below w.heap.size w (Sort.grow (w.drewN q) os) :=
  ⟨rfl, rfl, rfl, by simp [Sort.grow], fun k hk => by simp [Sort.grow, Array.getElem?_append_left, hk]⟩
set_option maxHeartbeats 1000000 in
theorem sDecText_all (n : Int) (w : World) :
    Calls Tryz.prog 104 #[.int .i64 n] w fun e w' => e = .returned (.string (decT n)) ∧ Below w.heap.size w w' := by
  by_cases h : 0 ≤ n ∧ n ≤ 999999999999999
  · obtain ⟨u, rfl⟩ := Int.eq_ofNat_of_zero_le h.1
    have := sDecText_nat u w (by omega)
    unfold decT
    rw [if_pos h]
    exact this
  · have hf : Hid (decT n = ⟨#[]⟩) := by show decT n = _; unfold decT; rw [if_neg h]
    by_cases h0 : n < 0
    · clear h
      go_enter Tryz.func104, Tryz.ntmps104
      go_wp2
      go_ret
      exact ⟨ret_str hf.out, Below.refl _ _⟩
    · have h1 : (999999999999999 : Int) < n := by omega
      clear h
      go_enter Tryz.func104, Tryz.ntmps104
      go_wp2
      go_ret
      exact ⟨ret_str hf.out, Below.refl _ _⟩
set_option maxHeartbeats 1000000 in
theorem DecText_all (n : Int) (w : World) (htab : Lib.TabIs Tryz.prog w "internal/strconv.uint64pow10" .u64 Lib.pow10Tab) :
    Calls Tryz.prog 124 #[.int .i64 n] w fun e w' => e = .returned (.string (decT n)) ∧ Below w.heap.size w w' := by
  by_cases h : 0 ≤ n ∧ n ≤ 999999999999999
  · have hf : Hid (decT n = ⟨(Lib.itoa n).toArray⟩) := by
      show decT n = _
      unfold decT decB Lib.itoa
      rw [if_pos h, if_neg (by omega)]
    have h0 : ¬ n < 0 := by omega
    have h1 : ¬ (999999999999999 : Int) < n := by omega
    have hit := Any.strconv_Itoa Tryz.laysItoa n (by omega) (by omega) w htab
    clear h htab
    go_enter Tryz.func124, Tryz.ntmps124
    go_wp2_with fail
    refine hit.mono ?_
    rintro e w1 ⟨rfl, q, os, rfl⟩
    go_wp2
    go_ret
    exact ⟨ret_str hf.out, below_grow _ _ _⟩
  · have hf : Hid (decT n = ⟨#[]⟩) := by show decT n = _; unfold decT; rw [if_neg h]
    by_cases h0 : n < 0
    · clear h htab
      go_enter Tryz.func124, Tryz.ntmps124
      go_wp2
      go_ret
      exact ⟨ret_str hf.out, Below.refl _ _⟩
    · have h1 : (999999999999999 : Int) < n := by omega
      clear h htab
      go_enter Tryz.func124, Tryz.ntmps124
      go_wp2
      go_ret
      exact ⟨ret_str hf.out, Below.refl _ _⟩
end Go.Proofs.YtmhohponikolfaaGreatDoor
namespace Go.Proofs.YtmhohponikolfaaGreatDoor
set_option linter.unusedVariables false
set_option linter.unusedSimpArgs false
open Go.RowKit
abbrev Tab10 (w : World) : Prop := Lib.TabIs Tryz.prog w "internal/strconv.uint64pow10" .u64 Lib.pow10Tab
theorem decT_size (n : Int) : (decT n).size ≤ 15 := by
  unfold decT
  split
  · rename_i h
    have := decDigits_len n.toNat (by omega)
    show (Lib.decDigits n.toNat).toArray.size ≤ 15
    simpa using this
  · show (0 : Nat) ≤ 15; omega
theorem tab_later {w w' : World} (h : Tab10 w) (hb : Below w.heap.size w w') : Tab10 w' := by
  unfold Tab10 Lib.TabIs World.var? at *
  cases hg : Tryz.prog.globalNamed "internal/strconv.uint64pow10" with
  | none => rw [hg] at h; cases h
  | some g =>
    rw [hg] at h
    simp only [Option.bind_some] at h ⊢
    have hlt : g < w.heap.size := by
      rcases Nat.lt_or_ge g w.heap.size with h1 | h1
      · exact h1
      · rw [Array.getElem?_eq_none h1] at h; cases h
    rw [hb.block g hlt]; exact h
end Go.Proofs.YtmhohponikolfaaGreatDoor
namespace Go.Proofs.YtmhohponikolfaaGreatDoor
set_option linter.unusedVariables false
set_option linter.unusedSimpArgs false
open Go.RowKit

/-- A word turned left by n bits. -/
def rotl (x n : Nat) : Nat := (x * 2 ^ n % 4294967296) ||| (x / 2 ^ (32 - n))
theorem rotl_lt (x n : Nat) (hx : x < 4294967296) : rotl x n < 4294967296 := by
  have h1 : x * 2 ^ n % 4294967296 < 2 ^ 32 := Nat.mod_lt _ (by decide)
  have h2 : x / 2 ^ (32 - n) < 2 ^ 32 := Nat.lt_of_le_of_lt (Nat.div_le_self _ _) (by omega)
  exact Nat.or_lt_two_pow h1 h2
theorem and_lt32 {a b : Nat} (h : b < 4294967296) : a &&& b < 4294967296 := Nat.and_lt_two_pow (n := 32) _ (by omega)
theorem or_lt32 {a b : Nat} (ha : a < 4294967296) (hb : b < 4294967296) : a ||| b < 4294967296 := Nat.or_lt_two_pow (n := 32) (by omega) (by omega)
theorem xor_lt32 {a b : Nat} (ha : a < 4294967296) (hb : b < 4294967296) : a ^^^ b < 4294967296 := Nat.xor_lt_two_pow (n := 32) (by omega) (by omega)

theorem wrap_i64_nat (n : Nat) (h : n < 9223372036854775808) : IntKind.i64.wrap (n : Int) = n := by rw [IntKind.wrap_i64]; omega
theorem ofInt_64 (a : Nat) (ha : a < 9223372036854775808) : (BitVec.ofInt 64 (a : Int)).toNat = a := by
  rw [BitVec.ofInt_natCast, BitVec.toNat_ofNat]; exact Nat.mod_eq_of_lt (by omega)
theorem i64_and_nat (a b : Nat) (ha : a < 9223372036854775808) (hb : b < 9223372036854775808) : bits .and .i64 (a : Int) (b : Int) = ((a &&& b : Nat) : Int) := by
  have hx : a &&& b < 2 ^ 63 := Nat.and_lt_two_pow _ (by omega)
  show IntKind.i64.wrap ((BitVec.ofInt 64 (a : Int) &&& BitVec.ofInt 64 (b : Int)).toNat : Int) = _
  rw [BitVec.toNat_and, ofInt_64 a ha, ofInt_64 b hb, wrap_i64_nat _ (by omega)]
theorem i64_or_nat (a b : Nat) (ha : a < 9223372036854775808) (hb : b < 9223372036854775808) : bits .or .i64 (a : Int) (b : Int) = ((a ||| b : Nat) : Int) := by
  have hx : a ||| b < 2 ^ 63 := Nat.or_lt_two_pow (by omega) (by omega)
  show IntKind.i64.wrap ((BitVec.ofInt 64 (a : Int) ||| BitVec.ofInt 64 (b : Int)).toNat : Int) = _
  rw [BitVec.toNat_or, ofInt_64 a ha, ofInt_64 b hb, wrap_i64_nat _ (by omega)]
theorem i64_xor_nat (a b : Nat) (ha : a < 9223372036854775808) (hb : b < 9223372036854775808) : bits .xor .i64 (a : Int) (b : Int) = ((a ^^^ b : Nat) : Int) := by
  have hx : a ^^^ b < 2 ^ 63 := Nat.xor_lt_two_pow (by omega) (by omega)
  show IntKind.i64.wrap ((BitVec.ofInt 64 (a : Int) ^^^ BitVec.ofInt 64 (b : Int)).toNat : Int) = _
  rw [BitVec.toNat_xor, ofInt_64 a ha, ofInt_64 b hb, wrap_i64_nat _ (by omega)]

theorem mask32 (x : Nat) : x &&& 4294967295 = x % 4294967296 := Nat.and_two_pow_sub_one_eq_mod x 32
theorem mask32_i64 (x : Nat) (hx : x < 9223372036854775808) : bits .and .i64 (x : Int) 4294967295 = ((x % 4294967296 : Nat) : Int) := by
  have := i64_and_nat x 4294967295 hx (by decide)
  rw [mask32] at this
  exact this
theorem pow31 {n : Nat} (h : n ≤ 31) : 2 ^ n ≤ 2147483648 := Nat.pow_le_pow_right (n := 2) (by decide) h
theorem mul_pow_lt {x n : Nat} (hx : x < 4294967296) (h : n ≤ 31) : x * 2 ^ n < 9223372036854775808 := by
  have h1 := pow31 h
  have h2 : x * 2 ^ n ≤ 4294967295 * 2147483648 := Nat.mul_le_mul (by omega) h1
  omega
/-- The turn as it is made on ints of 64 bits. -/
theorem turn_i64 (x n : Nat) (hx : x < 4294967296) (hn : n ≤ 31) :
    bits .and .i64 (bits .or .i64 ((x : Int) * 2 ^ n) ((x : Int) / 2 ^ (32 - n))) 4294967295 = ((rotl x n : Nat) : Int) := by
  have h1 := mul_pow_lt hx hn
  have h2 : x / 2 ^ (32 - n) < 4294967296 := Nat.lt_of_le_of_lt (Nat.div_le_self _ _) hx
  have e1 : (x : Int) * 2 ^ n = ((x * 2 ^ n : Nat) : Int) := by simp
  have e2 : (x : Int) / 2 ^ (32 - n) = ((x / 2 ^ (32 - n) : Nat) : Int) := by simp
  have h3 : x * 2 ^ n ||| x / 2 ^ (32 - n) < 2 ^ 63 := Nat.or_lt_two_pow (by omega) (by omega)
  rw [e1, e2, i64_or_nat _ _ h1 (by omega), mask32_i64 _ (by omega)]
  unfold rotl
  have e3 : (x * 2 ^ n ||| x / 2 ^ (32 - n)) % 2 ^ 32 = (x * 2 ^ n) % 2 ^ 32 ||| (x / 2 ^ (32 - n)) % 2 ^ 32 := Nat.or_mod_two_pow
  rw [show (4294967296 : Nat) = 2 ^ 32 by decide, e3, Nat.mod_eq_of_lt (show x / 2 ^ (32 - n) < 2 ^ 32 by omega)]
/-- The turn as it is made on words. -/
theorem turn_u32 (x n : Nat) (hx : x < 4294967296) :
    bits .or .u32 (((x : Int) * 2 ^ n) % 4294967296) ((x : Int) / 2 ^ (32 - n)) = ((rotl x n : Nat) : Int) := by
  have h2 : x / 2 ^ (32 - n) < 4294967296 := Nat.lt_of_le_of_lt (Nat.div_le_self _ _) hx
  have e1 : ((x : Int) * 2 ^ n) % 4294967296 = ((x * 2 ^ n % 4294967296 : Nat) : Int) := by simp
  have e2 : (x : Int) / 2 ^ (32 - n) = ((x / 2 ^ (32 - n) : Nat) : Int) := by simp
  rw [e1, e2, u32_or_nat _ _ (Nat.mod_lt _ (by decide)) h2]
  rfl
theorem rotl_sum (x n : Nat) (hx : x < 4294967296) (hn : n ≤ 31) : rotl x n = x * 2 ^ n % 4294967296 + x / 2 ^ (32 - n) := by
  unfold rotl
  have hp : 2 ^ n * 2 ^ (32 - n) = 4294967296 := by rw [← Nat.pow_add, show n + (32 - n) = 32 by omega]
  have h1 : x * 2 ^ n % 4294967296 % 2 ^ n = 0 := by
    rw [← hp, Nat.mul_comm x, Nat.mul_mod_mul_left, Nat.mul_mod_right]
  have h2 : x / 2 ^ (32 - n) < 2 ^ n := by
    rw [Nat.div_lt_iff_lt_mul (Nat.two_pow_pos _), hp]; exact hx
  exact nat_join n _ _ h1 h2
/-- What is turned left, and then by what lacks to 32, is as it was. -/
theorem rotl_back (x n : Nat) (hx : x < 4294967296) (hn : n ≤ 31) : rotl (rotl x n) ((32 - n) % 32) = x := by
  by_cases h0 : n = 0
  · subst h0
    have e : ∀ y, y < 4294967296 → rotl y 0 = y := by
      intro y hy
      rw [rotl_sum y 0 hy (by omega)]
      simp
      omega
    rw [e x hx]
    exact e x hx
  · have h32 : (32 - n) % 32 = 32 - n := Nat.mod_eq_of_lt (by omega)
    rw [h32, rotl_sum _ _ (rotl_lt x n hx) (by omega), rotl_sum x n hx hn, show 32 - (32 - n) = n by omega]
    have hp : 2 ^ n * 2 ^ (32 - n) = 4294967296 := by rw [← Nat.pow_add, show n + (32 - n) = 32 by omega]
    have hP : 0 < 2 ^ n := Nat.two_pow_pos _
    have hQ : 0 < 2 ^ (32 - n) := Nat.two_pow_pos _
    generalize 2 ^ n = P at *
    generalize 2 ^ (32 - n) = Q at *
    have hb : x / Q < P := by rw [Nat.div_lt_iff_lt_mul hQ, hp]; exact hx
    have ex : x = Q * (x / Q) + x % Q := (Nat.div_add_mod x Q).symm
    have hr : x % Q < Q := Nat.mod_lt _ hQ
    generalize x / Q = q at *
    generalize x % Q = r at *
    subst ex
    have e1 : (Q * q + r) * P % 4294967296 = r * P := by
      rw [Nat.add_mul, show Q * q * P = q * 4294967296 by rw [← hp, Nat.mul_comm Q q, Nat.mul_assoc, Nat.mul_comm Q P], Nat.mul_add_mod']
      exact Nat.mod_eq_of_lt (by rw [← hp, Nat.mul_comm P Q]; exact (Nat.mul_lt_mul_right hP).2 hr)
    rw [e1]
    have e2 : (r * P + q) / P = r := by rw [Nat.mul_comm, Nat.mul_add_div hP, Nat.div_eq_of_lt hb, Nat.add_zero]
    have e3 : (r * P + q) * Q % 4294967296 = Q * q := by
      rw [Nat.add_mul, show r * P * Q = r * 4294967296 by rw [← hp, Nat.mul_assoc], Nat.mul_add_mod', Nat.mul_comm q Q]
      exact Nat.mod_eq_of_lt (by rw [← hp, Nat.mul_comm P Q]; exact (Nat.mul_lt_mul_left hQ).2 hb)
    rw [e2, e3]

/-- The three mixings. -/
def chs (b c d : Nat) : Nat := (b &&& c) ||| ((b ^^^ 4294967295) &&& d)
def par (b c d : Nat) : Nat := (b ^^^ c) ^^^ d
def maj (b c d : Nat) : Nat := ((b &&& c) ||| (b &&& d)) ||| (c &&& d)
def fOf (t b c d : Nat) : Nat := if t / 20 = 0 then chs b c d else if t / 20 = 2 then maj b c d else par b c d
def kOf (t : Nat) : Nat := if t / 20 = 0 then 1518500249 else if t / 20 = 1 then 1859775393 else if t / 20 = 2 then 2400959708 else 3395469782
theorem fOf_lt (t b c d : Nat) (hb : b < 4294967296) (hc : c < 4294967296) (hd : d < 4294967296) : fOf t b c d < 4294967296 := by
  unfold fOf chs maj par
  split
  · exact or_lt32 (and_lt32 hc) (and_lt32 hd)
  · split
    · exact or_lt32 (or_lt32 (and_lt32 hc) (and_lt32 hd)) (and_lt32 hd)
    · exact xor_lt32 (xor_lt32 hb hc) hd
theorem kOf_lt (t : Nat) : kOf t < 4294967296 := by
  unfold kOf
  split
  · decide
  · split
    · decide
    · split <;> decide
end Go.Proofs.YtmhohponikolfaaGreatDoor
