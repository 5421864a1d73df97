/-
  Plain functions of chapter 1 (bytes): no Go in sight. · Plain functions of chapter 1: gaps and Trim. No Go in sight. · All bytes of a text are of a kind; a target. No Go in sight. · Plain functions of chapter 1: signs of a token. No Go in sight. · Plain functions of chapter 1: quotes. No Go in sight. · Words of 32 bits, as natural numbers: turned, joined, summed. No Go in sight. · Digests on lists: the eighty words of a block, the rounds, blocks one after the other, the end. No Go in sight. · What all walks share: worlds that stay below, a number within two. · The walks over chapter 3: words. · Blocks that are known whole. · Blocks of two cells, results in cells: of no chapter. · Pairs of texts; plain texts. No Go in sight. · Chapter 5: fields as pairs of texts, and rows of fields in memory. · Chapter 5: what fields are, on lists. No Go in sight.
-/
import Derived.WalkKit
import Derived.WalkSpells
import Derived.WalkLawsBesides
import Derived.Lib.ConvBytes
import Derived.Laws.IdiomStrings
import Derived.Laws.BytesArg
import Derived.Laws.BitsAllLaws
import Derived.Test.YthdgeepedofleaaGreatDoorProg
import Derived.Deep.QuietTactic
import Derived.BigQuiet
import Derived.Laws.ShiftsVarLaws
import Derived.Deep.WholeRow
import Derived.StillTailTactics
import Derived.BigRegion
import Derived.Laws.CopyOwn
import Derived.OwnWalk
import Derived.Laws.ResultCell
import Derived.Laws.OwnMore
import Derived.Deep.RegionWith
namespace Go.Proofs.YthdgeepedofleaaGreatDoor
set_option linter.unusedVariables false
set_option linter.unusedSimpArgs false
open Go.RowKit

/-- A letter A to Z as its small one, on numbers. -/
def lowI (n : Int) : Int := if 65 ≤ n ∧ n ≤ 90 then n + 32 else n
/-- The same on bytes. -/
def low8 (b : UInt8) : UInt8 := if 65 ≤ b.toNat ∧ b.toNat ≤ 90 then b + 32 else b
def foldL (l : List UInt8) : List UInt8 := l.map low8
def foldB (s : ByteArray) : ByteArray := ⟨(foldL s.data.toList).toArray⟩

theorem low8_toNat (b : UInt8) : ((low8 b).toNat : Int) = lowI (b.toNat : Int) := by
  unfold low8 lowI
  have hb := b.toNat_lt
  by_cases h : 65 ≤ b.toNat ∧ b.toNat ≤ 90
  · rw [if_pos h, if_pos (by omega)]
    rw [UInt8.toNat_add]
    simp
    omega
  · rw [if_neg h, if_neg (by omega)]
theorem lowI_bd (n : Int) (h0 : 0 ≤ n) (h1 : n ≤ 255) : 0 ≤ lowI n ∧ lowI n ≤ 255 := by
  unfold lowI; split <;> omega
theorem foldB_size (s : ByteArray) : (foldB s).size = s.size := by
  show ((s.data.toList.map low8).toArray).size = s.data.size
  simp

theorem ret_bool {a b : Bool} (h : b = a) : Ending.returned (.bool a) = .returned (.bool b) := by rw [h]
theorem ret_int {k : IntKind} {a b : Int} (h : b = a) : Ending.returned (.int k a) = .returned (.int k b) := by rw [h]
theorem ret_str {a b : ByteArray} (h : b = a) : Ending.returned (.string a) = .returned (.string b) := by rw [h]

theorem len_data (s : ByteArray) : s.data.toList.length = s.size := by
  show _ = s.data.size
  simp
theorem u8_lo (b : UInt8) : (0 : Int) ≤ (b.toNat : Int) := Int.natCast_nonneg _
theorem u8_hi (b : UInt8) : (b.toNat : Int) ≤ 255 := by have := b.toNat_lt; omega

/-- Go's '==' on texts. -/
def eqB (a b : ByteArray) : Bool := a.toList == b.toList
theorem eqB_iff {a b : ByteArray} : eqB a b = true ↔ a = b := by
  unfold eqB
  rw [ByteArray.toList_eq, ByteArray.toList_eq, beq_iff_eq]
  constructor
  · intro h
    cases a; cases b
    congr 1
    exact Array.toList_inj.1 h
  · rintro rfl; rfl
theorem eqB_self (a : ByteArray) : eqB a a = true := eqB_iff.2 rfl

/-- A row of bytes at the head of block b: what it holds, and that it may be written. -/
structure Row8 (w : World) (b : Nat) (xs : List Int) : Prop where
  cell : ∀ j, j < xs.length → w.cell? ⟨b, j, none⟩ = some (.int .u8 (xs.getD j 0))
  free : ∀ j, j < xs.length → w.frozen? ⟨b, j, none⟩ = false
  lt : b < w.heap.size

theorem Row8.set {w : World} {b : Nat} {xs : List Int} (h : Row8 w b xs) (k : Nat) (v : Int) (hk : k < xs.length) : Row8 (w.setCell ⟨b, k, none⟩ (.int .u8 v)) b (xs.set k v) := by
  refine ⟨fun j hj => ?_, fun j hj => ?_, by simpa [World.setCell] using h.lt⟩
  · rw [List.length_set] at hj
    by_cases e : j = k
    · subst e
      rw [World.cell?_setCell_same _ _ _ (h.cell j hj)]
      simp [List.getD, hk]
    · rw [World.cell?_setCell_other _ _ _ _ (by intro hh; apply e; injection hh with _ h2; exact h2.symm), h.cell j hj]
      simp [List.getD, Ne.symm e]
  · rw [List.length_set] at hj
    rw [World.frozen?_setCell]
    exact h.free j hj

/-- The numbers of a text's bytes. -/
def nums (s : ByteArray) : List Int := s.data.toList.map fun b => (b.toNat : Int)
theorem nums_length (s : ByteArray) : (nums s).length = s.size := by
  show (s.data.toList.map _).length = s.data.size
  simp
theorem nums_getD (s : ByteArray) (j : Nat) (hj : j < s.size) : (nums s).getD j 0 = ((s.data.toList.getD j 0).toNat : Int) := by
  have hj' : j < s.data.toList.length := by simpa using hj
  simp [nums, List.getD, List.getElem?_eq_getElem hj']
theorem nums_bd (s : ByteArray) (j : Nat) : 0 ≤ (nums s).getD j 0 ∧ (nums s).getD j 0 ≤ 255 := by
  rcases Nat.lt_or_ge j s.size with h | h
  · rw [nums_getD s j h]
    have := (s.data.toList.getD j 0).toNat_lt
    omega
  · have : (nums s).length ≤ j := by rw [nums_length]; exact h
    simp [List.getD, List.getElem?_eq_none this]

theorem row8_bytes (w : World) (e : TypeId) (s : ByteArray) : Row8 (Lib.bytesWorld w e s) w.heap.size (nums s) := by
  refine ⟨fun j hj => ?_, fun j hj => ?_, by rw [Lib.bytesWorld_size]; omega⟩
  · rw [nums_length] at hj
    rw [Lib.bytesWorld_cell w e s j hj, nums_getD s j hj]
  · rw [nums_length] at hj
    have hj' : j < s.data.size := hj
    simp only [World.frozen?, Lib.bytesWorld_at_new]
    have : j < (Lib.bytesCells w e s).size := by simp [Lib.bytesCells]; omega
    simp
    omega

theorem below_bytes (w : World) (e : TypeId) (s : ByteArray) : Below w.heap.size w (Lib.bytesWorld w e s) :=
  ⟨by simp [Lib.bytesWorld, World.freeze, World.alloc, World.drew, -World.alloc_eq, -World.drew_eq], by simp [Lib.bytesWorld, World.freeze, World.alloc, World.drew, -World.alloc_eq, -World.drew_eq],
   by simp [Lib.bytesWorld, World.freeze, World.alloc, World.drew, -World.alloc_eq, -World.drew_eq], by rw [Lib.bytesWorld_size]; omega, fun k hk => Lib.bytesWorld_at_old w e s k hk⟩

/-- The row's text. -/
theorem Row8.text {P : Program} {w : World} {b : Nat} {xs : List Int} (h : Row8 w b xs) (src e dst : TypeId) (n cap : Nat) (hn : xs.length = n) (hs : P.underlying src = some (.slice e)) (he : P.underlying e = some (.int .u8)) (hd : P.underlying dst = some .string) :
    (convert src dst (.slice (some ⟨b, 0, none⟩) n cap)).run P w = .ok (.string (strOfNums xs)) w :=
  run_convert_bytes_arg (P := P) w src e hs he b 0 n cap xs hn (fun i hi => by rw [Nat.zero_add]; exact h.cell i (by omega)) dst hd

/-- After k rounds of folding. -/
def foldTo (s : ByteArray) (k : Nat) : List Int := ((nums s).take k).map lowI ++ (nums s).drop k
theorem foldTo_length (s : ByteArray) (k : Nat) : (foldTo s k).length = s.size := by
  simp only [foldTo, List.length_append, List.length_map, List.length_take, List.length_drop, nums_length]; omega
theorem foldTo_zero (s : ByteArray) : foldTo s 0 = nums s := by simp [foldTo]
theorem foldTo_at (s : ByteArray) (k : Nat) (hk : k < s.size) : (foldTo s k).getD k 0 = (nums s).getD k 0 := by
  have h : ((nums s).take k).length = k := by simp [nums_length]; omega
  unfold foldTo
  rw [List.getD, List.getElem?_append_right (by simp; omega)]
  have e : k - ((nums s).take k |>.map lowI).length = 0 := by rw [List.length_map, h]; omega
  rw [e]
  simp [List.getD]
theorem foldTo_succ (s : ByteArray) (k : Nat) (hk : k < s.size) : foldTo s (k + 1) = (foldTo s k).set k (lowI ((nums s).getD k 0)) := by
  have hl : k < (nums s).length := by rw [nums_length]; exact hk
  unfold foldTo
  rw [List.take_succ_eq_append_getElem hl, List.map_append, List.append_assoc, List.set_append_right _ _ (by simp; omega)]
  have e : k - ((nums s).take k |>.map lowI).length = 0 := by simp; omega
  rw [e]
  have hd := List.drop_eq_getElem_cons hl
  rw [hd]
  simp only [List.map_cons, List.map_nil, List.cons_append, List.nil_append, List.set_cons_zero, List.getD, List.getElem?_eq_getElem hl, Option.getD_some]
theorem foldTo_all (s : ByteArray) : strOfNums (foldTo s s.size) = foldB s := by
  unfold foldTo strOfNums foldB foldL
  have hl : (nums s).length ≤ s.size := by rw [nums_length]; exact Nat.le_refl _
  rw [List.take_of_length_le hl, List.drop_eq_nil_of_le hl, List.append_nil]
  congr 2
  simp only [nums, List.map_map]
  apply List.map_congr_left
  intro b _
  show UInt8.ofNat (lowI (b.toNat : Int)).toNat = low8 b
  rw [← low8_toNat]
  simp
theorem bcell {W w1 : World} (hb : Below W.heap.size W w1) : (∀ b o, b < W.heap.size → w1.cell? ⟨b, o, none⟩ = W.cell? ⟨b, o, none⟩) ∧ (∀ b o, b < W.heap.size → w1.frozen? ⟨b, o, none⟩ = W.frozen? ⟨b, o, none⟩) :=
  ⟨fun b o h => hb.cell (p := ⟨b, o, none⟩) h, fun b o h => hb.frozen (p := ⟨b, o, none⟩) h⟩
end Go.Proofs.YthdgeepedofleaaGreatDoor
namespace Go.Proofs.YthdgeepedofleaaGreatDoor
set_option linter.unusedVariables false
set_option linter.unusedSimpArgs false
open Go.RowKit

def gapP (n : Int) : Bool := n == 32 || n == 9
def gap8 (b : UInt8) : Bool := gapP (b.toNat : Int)
def digP (n : Int) : Bool := decide (48 ≤ n) && decide (n ≤ 57)
def dig8 (b : UInt8) : Bool := digP (b.toNat : Int)
def trimL (l : List UInt8) : List UInt8 := ((l.dropWhile gap8).reverse.dropWhile gap8).reverse
def trimB (s : ByteArray) : ByteArray := ⟨(trimL s.data.toList).toArray⟩

theorem dropWhile_all {α : Type} (p : α → Bool) : ∀ (a b : List α), (∀ x ∈ a, p x = true) → (a ++ b).dropWhile p = b.dropWhile p
  | [], _, _ => rfl
  | x :: a, b, h => by
    have hx : p x = true := h x (by simp)
    rw [List.cons_append, List.dropWhile_cons_of_pos hx]
    exact dropWhile_all p a b (fun y hy => h y (by simp [hy]))
theorem dropWhile_head {α : Type} (p : α → Bool) (x : α) (l : List α) (h : p x = false) : (x :: l).dropWhile p = x :: l := by
  rw [List.dropWhile_cons_of_neg (by simp [h])]
theorem trimL_of (a m z : List UInt8) (ha : ∀ x ∈ a, gap8 x = true) (hz : ∀ x ∈ z, gap8 x = true) (hm : m = [] ∨ ∃ (x y : UInt8) (r q : List UInt8), m = x :: r ∧ m = q ++ [y] ∧ gap8 x = false ∧ gap8 y = false) : trimL (a ++ m ++ z) = m := by
  unfold trimL
  rw [List.append_assoc, dropWhile_all gap8 a (m ++ z) ha]
  rcases hm with rfl | ⟨x, y, r, q, e1, e2, hx, hy⟩
  · rw [List.nil_append]
    have := dropWhile_all gap8 z [] hz
    rw [List.append_nil] at this
    rw [this]
    rfl
  · have h1 : (m ++ z).dropWhile gap8 = m ++ z := by rw [e1, List.cons_append]; exact dropWhile_head gap8 x _ hx
    rw [h1, List.reverse_append, dropWhile_all gap8 z.reverse m.reverse (fun u hu => hz u (by simpa using hu))]
    have h2 : m.reverse = y :: q.reverse := by rw [e2]; simp
    rw [h2, dropWhile_head gap8 y _ hy, ← h2, List.reverse_reverse]

/-- The byte at a place. -/
def at8 (s : ByteArray) (k : Nat) : UInt8 := s.data.toList.getD k 0
theorem at8_eq (s : ByteArray) (k : Nat) (h : k < s.size) : s[k] = at8 s k := by
  have h' : k < s.data.toList.length := by simpa using h
  show s.data[k] = _
  simp [at8, List.getD, List.getElem?_eq_getElem h']

theorem extract_list (s : ByteArray) (k t : Nat) : (s.extract k t).data.toList = (s.data.toList.take t).drop k := by
  rw [ByteArray.data_extract, Array.toList_extract]
  simp only [List.extract]
  rw [List.drop_take]
theorem bytes_ext {a b : ByteArray} (h : a.data.toList = b.data.toList) : a = b := by
  cases a; cases b
  congr 1
  exact Array.toList_inj.1 h

theorem trim_of (s : ByteArray) (k t : Nat) (hk : ∀ j, j < k → gap8 (at8 s j) = true) (he : k = s.size ∨ gap8 (at8 s k) = false) (hkt : k ≤ t) (ht : t ≤ s.size)
    (hz : ∀ j, t ≤ j → j < s.size → gap8 (at8 s j) = true) (hf : t = k ∨ gap8 (at8 s (t - 1)) = false) : s.extract k t = trimB s := by
  apply bytes_ext
  rw [extract_list]
  show _ = trimL s.data.toList
  have hl : s.data.toList.length = s.size := by show _ = s.data.size; simp
  generalize hL : s.data.toList = l at *
  have hat : ∀ j, at8 s j = l.getD j 0 := by intro j; unfold at8; rw [hL]
  have e : l = l.take k ++ (l.take t).drop k ++ l.drop t := by
    have h1 : l.take k = (l.take t).take k := by rw [List.take_take]; congr 1; omega
    rw [h1, List.take_append_drop, List.take_append_drop]
  have hA : ∀ x ∈ l.take k, gap8 x = true := by
    intro x hx
    obtain ⟨j, hj, rfl⟩ := List.mem_iff_getElem.1 hx
    have hj' : j < k ∧ j < l.length := by simp at hj; omega
    have := hk j hj'.1
    rw [hat] at this
    simpa [List.getD, List.getElem?_eq_getElem hj'.2] using this
  have hZ : ∀ x ∈ l.drop t, gap8 x = true := by
    intro x hx
    obtain ⟨j, hj, rfl⟩ := List.mem_iff_getElem.1 hx
    have hj' : t + j < l.length := by simp at hj; omega
    have := hz (t + j) (by omega) (by omega)
    rw [hat] at this
    simpa [List.getD, List.getElem?_eq_getElem hj'] using this
  have hM : (l.take t).drop k = [] ∨ ∃ (x y : UInt8) (r q : List UInt8), (l.take t).drop k = x :: r ∧ (l.take t).drop k = q ++ [y] ∧ gap8 x = false ∧ gap8 y = false := by
    rcases Nat.lt_or_ge k t with h | h
    · right
      have h1 : k < (l.take t).length := by simp; omega
      have h2 : t - 1 < l.length := by omega
      refine ⟨(l.take t)[k], l[t - 1], (l.take t).drop (k + 1), (l.take (t - 1)).drop k, List.drop_eq_getElem_cons h1, ?_, ?_, ?_⟩
      · have e2 : l.take t = l.take (t - 1) ++ [l[t - 1]] := by
          have := List.take_succ_eq_append_getElem h2
          rw [show t - 1 + 1 = t from by omega] at this
          exact this
        rw [e2, List.drop_append_of_le_length (by simp; omega)]
      · rcases he with he | he
        · omega
        · rw [hat] at he
          have h3 : k < l.length := by omega
          simpa [List.getD, List.getElem?_eq_getElem h3, List.getElem_take] using he
      · rcases hf with hf | hf
        · omega
        · rw [hat] at hf
          simpa [List.getD, List.getElem?_eq_getElem h2] using hf
    · left
      apply List.drop_eq_nil_of_le
      simp
      omega
  conv => rhs; rw [e]
  exact (trimL_of _ _ _ hA hZ hM).symm
theorem trimB_size (s : ByteArray) : (trimB s).size ≤ s.size := by
  show (trimL s.data.toList).toArray.size ≤ s.data.size
  have h1 : ∀ (l : List UInt8), (l.dropWhile gap8).length ≤ l.length := fun l => (List.dropWhile_sublist gap8).length_le
  have := h1 s.data.toList
  have h2 := h1 (s.data.toList.dropWhile gap8).reverse
  unfold trimL
  simp at *
  omega
theorem all_succ {p : Nat → Prop} {k : Nat} (h : ∀ j, j < k → p j) (hk : p k) : ∀ j, j < k + 1 → p j := by
  intro j hj
  rcases Nat.lt_or_ge j k with h1 | h1
  · exact h j h1
  · obtain rfl : j = k := by omega
    exact hk
theorem all_pred {p : Nat → Prop} {u n : Nat} (h : ∀ j, u + 1 ≤ j → j < n → p j) (hk : p u) : ∀ j, u ≤ j → j < n → p j := by
  intro j hj hn
  rcases Nat.lt_or_ge u j with h1 | h1
  · exact h j h1 hn
  · obtain rfl : j = u := by omega
    exact hk
theorem u8_beq (a b : UInt8) : ((a.toNat : Int) == (b.toNat : Int)) = (a == b) := by
  rw [Bool.eq_iff_iff, beq_iff_eq, beq_iff_eq]
  constructor
  · intro h; exact UInt8.toNat_inj.1 (by omega)
  · intro h; rw [h]
end Go.Proofs.YthdgeepedofleaaGreatDoor
namespace Go.Proofs.YthdgeepedofleaaGreatDoor
set_option linter.unusedVariables false
set_option linter.unusedSimpArgs false
open Go.RowKit
/-- All bytes are of a kind. -/
def allB (p : UInt8 → Bool) (s : ByteArray) : Bool := s.data.toList.all p
theorem allB_no {p : UInt8 → Bool} {s : ByteArray} {k : Nat} (hk : k < s.size) (h : p (at8 s k) = false) : allB p s = false := by
  unfold allB
  have hl : k < s.data.toList.length := by simpa using hk
  rw [List.all_eq_false]
  refine ⟨s.data.toList[k], List.getElem_mem hl, ?_⟩
  simp [at8, List.getD, List.getElem?_eq_getElem hl] at h
  simp [h]
theorem allB_yes {p : UInt8 → Bool} {s : ByteArray} (h : ∀ j, j < s.size → p (at8 s j) = true) : allB p s = true := by
  unfold allB
  rw [List.all_eq_true]
  intro x hx
  obtain ⟨j, hj, rfl⟩ := List.mem_iff_getElem.1 hx
  have := h j (by simpa using hj)
  simpa [at8, List.getD, List.getElem?_eq_getElem hj] using this
/-- A byte that may stand in a target. -/
def visP (n : Int) : Bool := decide (33 ≤ n) && decide (n ≤ 126)
def vis8 (b : UInt8) : Bool := visP (b.toNat : Int)
def targQ (s : ByteArray) : Bool := decide (1 ≤ (s.size : Int)) && decide ((s.size : Int) ≤ 200) && allB vis8 s
theorem targQ_iff {s : ByteArray} : targQ s = true ↔ 1 ≤ s.size ∧ s.size ≤ 200 ∧ allB vis8 s = true := by
  unfold targQ; rw [Bool.and_eq_true, Bool.and_eq_true, decide_eq_true_eq, decide_eq_true_eq, and_assoc]
  constructor
  · rintro ⟨a, b, c⟩; exact ⟨by omega, by omega, c⟩
  · rintro ⟨a, b, c⟩; exact ⟨by omega, by omega, c⟩
end Go.Proofs.YthdgeepedofleaaGreatDoor
namespace Go.Proofs.YthdgeepedofleaaGreatDoor
set_option linter.unusedVariables false
set_option linter.unusedSimpArgs false
open Go.RowKit

def inL (l : List UInt8) (n : Int) : Bool := l.any fun b => (b.toNat : Int) == n
def letP (n : Int) : Bool := decide (97 ≤ lowI n) && decide (lowI n ≤ 122)
def tokSigns : List UInt8 := [33, 35, 36, 37, 38, 39, 42, 43, 45, 46, 94, 95, 124, 126, 96]
def tokSigns14 : List UInt8 := [33, 35, 36, 37, 38, 39, 42, 43, 45, 46, 94, 95, 124, 126]
def tokP (n : Int) : Bool := letP n || digP n || inL tokSigns n
def tok8 (b : UInt8) : Bool := tokP (b.toNat : Int)
def tokB (s : ByteArray) : Bool := decide (0 < s.size) && decide (s.size ≤ 4000) && s.data.toList.all tok8

theorem tokP_let {n : Int} (h : letP n = true) : tokP n = true := by simp [tokP, h]
theorem tokP_dig {n : Int} (h : digP n = true) : tokP n = true := by simp [tokP, h]
theorem tokP_sig {n : Int} (h1 : letP n = false) (h2 : digP n = false) : tokP n = inL tokSigns n := by simp [tokP, h1, h2]
theorem tokP_96 {n : Int} (h1 : letP n = false) (h2 : digP n = false) (h3 : (n == 96) = true) : tokP n = true := by
  rw [tokP_sig h1 h2]
  rw [beq_iff_eq] at h3
  subst h3
  decide
theorem tokP_14 {n : Int} (h1 : letP n = false) (h2 : digP n = false) (h3 : (n == 96) = false) : tokP n = inL tokSigns14 n := by
  rw [tokP_sig h1 h2]
  have h4 : ((96 : Int) == n) = false := by rw [Bool.eq_false_iff, ne_eq, beq_iff_eq] at h3 ⊢; omega
  show (tokSigns14 ++ [96]).any _ = tokSigns14.any _
  rw [List.any_append]
  have h5 : ([96] : List UInt8).any (fun b => (b.toNat : Int) == n) = false := by
    show ((96 : Int) == n || false) = false
    rw [h4]; rfl
  rw [h5, Bool.or_false]
theorem inL_hit {l : List UInt8} {n : Int} {k : Nat} (hk : k < l.length) (h : (l[k].toNat : Int) = n) : inL l n = true := by
  unfold inL
  rw [List.any_eq_true]
  exact ⟨l[k], List.getElem_mem hk, by simp [h]⟩
theorem inL_miss {l : List UInt8} {n : Int} (h : ∀ j, j < l.length → ((l.getD j 0).toNat : Int) ≠ n) : inL l n = false := by
  unfold inL
  rw [List.any_eq_false]
  intro x hx
  obtain ⟨j, hj, rfl⟩ := List.mem_iff_getElem.1 hx
  have := h j hj
  rw [List.getD, List.getElem?_eq_getElem hj] at this
  simpa using this
theorem tokB_no {s : ByteArray} {k : Nat} (hk : k < s.size) (h : tok8 (at8 s k) = false) : tokB s = false := by
  unfold tokB
  have hl : k < s.data.toList.length := by simpa using hk
  have : s.data.toList.all tok8 = false := by
    rw [List.all_eq_false]
    refine ⟨s.data.toList[k], List.getElem_mem hl, ?_⟩
    simp [at8, List.getD, List.getElem?_eq_getElem hl] at h
    simp [h]
  simp [this]
theorem tokB_yes {s : ByteArray} (h0 : 0 < s.size) (h1 : s.size ≤ 4000) (h : ∀ j, j < s.size → tok8 (at8 s j) = true) : tokB s = true := by
  unfold tokB
  have : s.data.toList.all tok8 = true := by
    rw [List.all_eq_true]
    intro x hx
    obtain ⟨j, hj, rfl⟩ := List.mem_iff_getElem.1 hx
    have := h j (by simpa using hj)
    simpa [at8, List.getD, List.getElem?_eq_getElem hj] using this
  simp [this, h0, h1]
theorem tokB_size {s : ByteArray} (h : s.size = 0 ∨ 4000 < s.size) : tokB s = false := by
  unfold tokB
  rcases h with h | h
  · simp [h]
  · simp [show ¬ s.size ≤ 4000 by omega]
end Go.Proofs.YthdgeepedofleaaGreatDoor
namespace Go.Proofs.YthdgeepedofleaaGreatDoor
set_option linter.unusedVariables false
set_option linter.unusedSimpArgs false
open Go.RowKit

def plainP (n : Int) : Bool := n == 9 || (decide (32 ≤ n) && n != 127)
def plain8 (b : UInt8) : Bool := plainP (b.toNat : Int)
def quoP (n : Int) : Bool := n == 34 || n == 92
def quo8 (b : UInt8) : Bool := quoP (b.toNat : Int)
def esc8 (b : UInt8) : List UInt8 := if quo8 b = true then [92, b] else [b]
def escL (l : List UInt8) : List UInt8 := l.flatMap esc8
def quoL (l : List UInt8) : List UInt8 := 34 :: escL l ++ [34]
def quoOk (s : ByteArray) : Bool := decide (s.size ≤ 4000) && s.data.toList.all plain8
def quoB (s : ByteArray) : ByteArray := if quoOk s = true then ⟨(quoL s.data.toList).toArray⟩ else ⟨#[]⟩

theorem plainP_yes {n : Int} (h : (n == 9) = true) : plainP n = true := by simp [plainP, h]
theorem plainP_lo {n : Int} (h : (n == 9) = false) (h2 : ¬ 32 ≤ n) : plainP n = false := by simp [plainP, h, h2]
theorem plainP_hi {n : Int} (h : (n == 9) = false) (h2 : 32 ≤ n) : plainP n = (n != 127) := by simp [plainP, h, h2]
theorem quoP_yes {n : Int} (h : (n == 34) = true) : quoP n = true := by simp [quoP, h]
theorem quoP_no {n : Int} (h : (n == 34) = false) : quoP n = (n == 92) := by simp [quoP, h]

theorem escL_snoc (l : List UInt8) (b : UInt8) : escL (l ++ [b]) = escL l ++ esc8 b := by simp [escL]
theorem escL_len (l : List UInt8) : (escL l).length ≤ 2 * l.length := by
  induction l with
  | nil => simp [escL]
  | cons a l ih =>
    have : escL (a :: l) = esc8 a ++ escL l := by simp [escL]
    rw [this, List.length_append, List.length_cons]
    have : (esc8 a).length ≤ 2 := by unfold esc8; split <;> simp
    omega
theorem quo_big {s : ByteArray} (h : 4000 < s.size) : quoB s = ⟨#[]⟩ ∧ quoOk s = false := by
  have : quoOk s = false := by unfold quoOk; simp [show ¬ s.size ≤ 4000 by omega]
  exact ⟨by simp [quoB, this], this⟩
theorem quo_no {s : ByteArray} {k : Nat} (hk : k < s.size) (h : plain8 (at8 s k) = false) : quoB s = ⟨#[]⟩ ∧ quoOk s = false := by
  have : quoOk s = false := by
    unfold quoOk
    have hl : k < s.data.toList.length := by rw [len_data]; exact hk
    have : s.data.toList.all plain8 = false := by
      rw [List.all_eq_false]
      refine ⟨s.data.toList[k], List.getElem_mem hl, ?_⟩
      simp [at8, List.getD, List.getElem?_eq_getElem hl] at h
      simp [h]
    simp [this]
  exact ⟨by simp [quoB, this], this⟩
theorem quo_yes {s : ByteArray} (h1 : s.size ≤ 4000) (h : ∀ j, j < s.size → plain8 (at8 s j) = true) : quoB s = ⟨(quoL s.data.toList).toArray⟩ ∧ quoOk s = true := by
  have : quoOk s = true := by
    unfold quoOk
    have : s.data.toList.all plain8 = true := by
      rw [List.all_eq_true]
      intro x hx
      obtain ⟨j, hj, rfl⟩ := List.mem_iff_getElem.1 hx
      have := h j (by rw [← len_data]; exact hj)
      simpa [at8, List.getD, List.getElem?_eq_getElem hj] using this
    simp [this, h1]
  exact ⟨by simp [quoB, this], this⟩
theorem take_succ8 (s : ByteArray) (k : Nat) (hk : k < s.size) : s.data.toList.take (k + 1) = s.data.toList.take k ++ [at8 s k] := by
  have hl : k < s.data.toList.length := by rw [len_data]; exact hk
  rw [List.take_succ_eq_append_getElem hl]
  simp [at8, List.getD, List.getElem?_eq_getElem hl]
end Go.Proofs.YthdgeepedofleaaGreatDoor
namespace Go.Proofs.YthdgeepedofleaaGreatDoor
set_option linter.unusedVariables false
set_option linter.unusedSimpArgs false
open Go.RowKit

/-- A word turned left by n bits. -/
def rotl (x n : Nat) : Nat := (x * 2 ^ n % 4294967296) ||| (x / 2 ^ (32 - n))
theorem rotl_lt (x n : Nat) (hx : x < 4294967296) : rotl x n < 4294967296 := by
  have h1 : x * 2 ^ n % 4294967296 < 2 ^ 32 := Nat.mod_lt _ (by decide)
  have h2 : x / 2 ^ (32 - n) < 2 ^ 32 := Nat.lt_of_le_of_lt (Nat.div_le_self _ _) (by omega)
  exact Nat.or_lt_two_pow h1 h2
theorem and_lt32 {a b : Nat} (h : b < 4294967296) : a &&& b < 4294967296 := Nat.and_lt_two_pow (n := 32) _ (by omega)
theorem or_lt32 {a b : Nat} (ha : a < 4294967296) (hb : b < 4294967296) : a ||| b < 4294967296 := Nat.or_lt_two_pow (n := 32) (by omega) (by omega)
theorem xor_lt32 {a b : Nat} (ha : a < 4294967296) (hb : b < 4294967296) : a ^^^ b < 4294967296 := Nat.xor_lt_two_pow (n := 32) (by omega) (by omega)

theorem wrap_i64_nat (n : Nat) (h : n < 9223372036854775808) : IntKind.i64.wrap (n : Int) = n := by rw [IntKind.wrap_i64]; omega
theorem ofInt_64 (a : Nat) (ha : a < 9223372036854775808) : (BitVec.ofInt 64 (a : Int)).toNat = a := by
  rw [BitVec.ofInt_natCast, BitVec.toNat_ofNat]; exact Nat.mod_eq_of_lt (by omega)
theorem i64_and_nat (a b : Nat) (ha : a < 9223372036854775808) (hb : b < 9223372036854775808) : bits .and .i64 (a : Int) (b : Int) = ((a &&& b : Nat) : Int) := by
  have hx : a &&& b < 2 ^ 63 := Nat.and_lt_two_pow _ (by omega)
  show IntKind.i64.wrap ((BitVec.ofInt 64 (a : Int) &&& BitVec.ofInt 64 (b : Int)).toNat : Int) = _
  rw [BitVec.toNat_and, ofInt_64 a ha, ofInt_64 b hb, wrap_i64_nat _ (by omega)]
theorem i64_or_nat (a b : Nat) (ha : a < 9223372036854775808) (hb : b < 9223372036854775808) : bits .or .i64 (a : Int) (b : Int) = ((a ||| b : Nat) : Int) := by
  have hx : a ||| b < 2 ^ 63 := Nat.or_lt_two_pow (by omega) (by omega)
  show IntKind.i64.wrap ((BitVec.ofInt 64 (a : Int) ||| BitVec.ofInt 64 (b : Int)).toNat : Int) = _
  rw [BitVec.toNat_or, ofInt_64 a ha, ofInt_64 b hb, wrap_i64_nat _ (by omega)]
theorem i64_xor_nat (a b : Nat) (ha : a < 9223372036854775808) (hb : b < 9223372036854775808) : bits .xor .i64 (a : Int) (b : Int) = ((a ^^^ b : Nat) : Int) := by
  have hx : a ^^^ b < 2 ^ 63 := Nat.xor_lt_two_pow (by omega) (by omega)
  show IntKind.i64.wrap ((BitVec.ofInt 64 (a : Int) ^^^ BitVec.ofInt 64 (b : Int)).toNat : Int) = _
  rw [BitVec.toNat_xor, ofInt_64 a ha, ofInt_64 b hb, wrap_i64_nat _ (by omega)]

theorem mask32 (x : Nat) : x &&& 4294967295 = x % 4294967296 := Nat.and_two_pow_sub_one_eq_mod x 32
theorem mask32_i64 (x : Nat) (hx : x < 9223372036854775808) : bits .and .i64 (x : Int) 4294967295 = ((x % 4294967296 : Nat) : Int) := by
  have := i64_and_nat x 4294967295 hx (by decide)
  rw [mask32] at this
  exact this
theorem pow31 {n : Nat} (h : n ≤ 31) : 2 ^ n ≤ 2147483648 := Nat.pow_le_pow_right (n := 2) (by decide) h
theorem mul_pow_lt {x n : Nat} (hx : x < 4294967296) (h : n ≤ 31) : x * 2 ^ n < 9223372036854775808 := by
  have h1 := pow31 h
  have h2 : x * 2 ^ n ≤ 4294967295 * 2147483648 := Nat.mul_le_mul (by omega) h1
  omega
/-- The turn as it is made on ints of 64 bits. -/
theorem turn_i64 (x n : Nat) (hx : x < 4294967296) (hn : n ≤ 31) :
    bits .and .i64 (bits .or .i64 ((x : Int) * 2 ^ n) ((x : Int) / 2 ^ (32 - n))) 4294967295 = ((rotl x n : Nat) : Int) := by
  have h1 := mul_pow_lt hx hn
  have h2 : x / 2 ^ (32 - n) < 4294967296 := Nat.lt_of_le_of_lt (Nat.div_le_self _ _) hx
  have e1 : (x : Int) * 2 ^ n = ((x * 2 ^ n : Nat) : Int) := by simp
  have e2 : (x : Int) / 2 ^ (32 - n) = ((x / 2 ^ (32 - n) : Nat) : Int) := by simp
  have h3 : x * 2 ^ n ||| x / 2 ^ (32 - n) < 2 ^ 63 := Nat.or_lt_two_pow (by omega) (by omega)
  rw [e1, e2, i64_or_nat _ _ h1 (by omega), mask32_i64 _ (by omega)]
  unfold rotl
  have e3 : (x * 2 ^ n ||| x / 2 ^ (32 - n)) % 2 ^ 32 = (x * 2 ^ n) % 2 ^ 32 ||| (x / 2 ^ (32 - n)) % 2 ^ 32 := Nat.or_mod_two_pow
  rw [show (4294967296 : Nat) = 2 ^ 32 by decide, e3, Nat.mod_eq_of_lt (show x / 2 ^ (32 - n) < 2 ^ 32 by omega)]
/-- The turn as it is made on words. -/
theorem turn_u32 (x n : Nat) (hx : x < 4294967296) :
    bits .or .u32 (((x : Int) * 2 ^ n) % 4294967296) ((x : Int) / 2 ^ (32 - n)) = ((rotl x n : Nat) : Int) := by
  have h2 : x / 2 ^ (32 - n) < 4294967296 := Nat.lt_of_le_of_lt (Nat.div_le_self _ _) hx
  have e1 : ((x : Int) * 2 ^ n) % 4294967296 = ((x * 2 ^ n % 4294967296 : Nat) : Int) := by simp
  have e2 : (x : Int) / 2 ^ (32 - n) = ((x / 2 ^ (32 - n) : Nat) : Int) := by simp
  rw [e1, e2, u32_or_nat _ _ (Nat.mod_lt _ (by decide)) h2]
  rfl
theorem rotl_sum (x n : Nat) (hx : x < 4294967296) (hn : n ≤ 31) : rotl x n = x * 2 ^ n % 4294967296 + x / 2 ^ (32 - n) := by
  unfold rotl
  have hp : 2 ^ n * 2 ^ (32 - n) = 4294967296 := by rw [← Nat.pow_add, show n + (32 - n) = 32 by omega]
  have h1 : x * 2 ^ n % 4294967296 % 2 ^ n = 0 := by
    rw [← hp, Nat.mul_comm x, Nat.mul_mod_mul_left, Nat.mul_mod_right]
  have h2 : x / 2 ^ (32 - n) < 2 ^ n := by
    rw [Nat.div_lt_iff_lt_mul (Nat.two_pow_pos _), hp]; exact hx
  exact nat_join n _ _ h1 h2
/-- What is turned left, and then by what lacks to 32, is as it was. -/
theorem rotl_back (x n : Nat) (hx : x < 4294967296) (hn : n ≤ 31) : rotl (rotl x n) ((32 - n) % 32) = x := by
  by_cases h0 : n = 0
  · subst h0
    have e : ∀ y, y < 4294967296 → rotl y 0 = y := by
      intro y hy
      rw [rotl_sum y 0 hy (by omega)]
      simp
      omega
    rw [e x hx]
    exact e x hx
  · have h32 : (32 - n) % 32 = 32 - n := Nat.mod_eq_of_lt (by omega)
    rw [h32, rotl_sum _ _ (rotl_lt x n hx) (by omega), rotl_sum x n hx hn, show 32 - (32 - n) = n by omega]
    have hp : 2 ^ n * 2 ^ (32 - n) = 4294967296 := by rw [← Nat.pow_add, show n + (32 - n) = 32 by omega]
    have hP : 0 < 2 ^ n := Nat.two_pow_pos _
    have hQ : 0 < 2 ^ (32 - n) := Nat.two_pow_pos _
    generalize 2 ^ n = P at *
    generalize 2 ^ (32 - n) = Q at *
    have hb : x / Q < P := by rw [Nat.div_lt_iff_lt_mul hQ, hp]; exact hx
    have ex : x = Q * (x / Q) + x % Q := (Nat.div_add_mod x Q).symm
    have hr : x % Q < Q := Nat.mod_lt _ hQ
    generalize x / Q = q at *
    generalize x % Q = r at *
    subst ex
    have e1 : (Q * q + r) * P % 4294967296 = r * P := by
      rw [Nat.add_mul, show Q * q * P = q * 4294967296 by rw [← hp, Nat.mul_comm Q q, Nat.mul_assoc, Nat.mul_comm Q P], Nat.mul_add_mod']
      exact Nat.mod_eq_of_lt (by rw [← hp, Nat.mul_comm P Q]; exact (Nat.mul_lt_mul_right hP).2 hr)
    rw [e1]
    have e2 : (r * P + q) / P = r := by rw [Nat.mul_comm, Nat.mul_add_div hP, Nat.div_eq_of_lt hb, Nat.add_zero]
    have e3 : (r * P + q) * Q % 4294967296 = Q * q := by
      rw [Nat.add_mul, show r * P * Q = r * 4294967296 by rw [← hp, Nat.mul_assoc], Nat.mul_add_mod', Nat.mul_comm q Q]
      exact Nat.mod_eq_of_lt (by rw [← hp, Nat.mul_comm P Q]; exact (Nat.mul_lt_mul_left hQ).2 hb)
    rw [e2, e3]

/-- The three mixings. -/
def chs (b c d : Nat) : Nat := (b &&& c) ||| ((b ^^^ 4294967295) &&& d)
def par (b c d : Nat) : Nat := (b ^^^ c) ^^^ d
def maj (b c d : Nat) : Nat := ((b &&& c) ||| (b &&& d)) ||| (c &&& d)
def fOf (t b c d : Nat) : Nat := if t / 20 = 0 then chs b c d else if t / 20 = 2 then maj b c d else par b c d
def kOf (t : Nat) : Nat := if t / 20 = 0 then 1518500249 else if t / 20 = 1 then 1859775393 else if t / 20 = 2 then 2400959708 else 3395469782
theorem fOf_lt (t b c d : Nat) (hb : b < 4294967296) (hc : c < 4294967296) (hd : d < 4294967296) : fOf t b c d < 4294967296 := by
  unfold fOf chs maj par
  split
  · exact or_lt32 (and_lt32 hc) (and_lt32 hd)
  · split
    · exact or_lt32 (or_lt32 (and_lt32 hc) (and_lt32 hd)) (and_lt32 hd)
    · exact xor_lt32 (xor_lt32 hb hc) hd
theorem kOf_lt (t : Nat) : kOf t < 4294967296 := by
  unfold kOf
  split
  · decide
  · split
    · decide
    · split <;> decide
end Go.Proofs.YthdgeepedofleaaGreatDoor
namespace Go.Proofs.YthdgeepedofleaaGreatDoor
set_option linter.unusedVariables false
set_option linter.unusedSimpArgs false
open Go.RowKit

def byteAt (l : List UInt8) (k : Nat) : Nat := (l.getD k 0).toNat
theorem byteAt_lt (l : List UInt8) (k : Nat) : byteAt l k < 256 := (l.getD k 0).toNat_lt
/-- The first m bytes of word q, the highest first. -/
def beP (l : List UInt8) (q : Nat) : Nat → Nat
  | 0 => 0
  | m + 1 => beP l q m * 256 + byteAt l (4 * q + m)
def be4 (l : List UInt8) (q : Nat) : Nat := beP l q 4
theorem beP_lt (l : List UInt8) (q m : Nat) : beP l q m < 256 ^ m := by
  induction m with
  | zero => simp [beP]
  | succ m ih =>
    have := byteAt_lt l (4 * q + m)
    rw [beP, Nat.pow_succ]; omega
theorem be4_lt (l : List UInt8) (q : Nat) : be4 l q < 4294967296 := beP_lt l q 4

theorem map_range_set {α : Type} (n k : Nat) (f g : Nat → α) (v : α) (hk : g k = v) (ho : ∀ j, j ≠ k → g j = f j) : (List.range n).map g = ((List.range n).map f).set k v := by
  apply List.ext_getElem?
  intro j
  by_cases hj : j < n
  · by_cases e : j = k
    · subst e
      rw [List.getElem?_set_self (by simp [hj])]
      simp [hj, hk]
    · rw [List.getElem?_set_ne (Ne.symm e)]
      simp [hj, ho j e]
  · have h1 : ((List.range n).map g)[j]? = none := List.getElem?_eq_none (by simp; omega)
    have h2 : (((List.range n).map f).set k v)[j]? = none := List.getElem?_eq_none (by simp; omega)
    rw [h1, h2]
theorem map_range_getD {α : Type} (n k : Nat) (f : Nat → α) (z : α) (hk : k < n) : ((List.range n).map f).getD k z = f k := by
  simp [List.getD, hk]

/-- The eighty cells while the block's bytes go in, i of them so far. -/
def inRow (l : List UInt8) (i : Nat) : List Nat := (List.range 80).map fun q => beP l q (min 4 (i - 4 * q))
theorem inRow_len (l : List UInt8) (i : Nat) : (inRow l i).length = 80 := by simp [inRow]
theorem inRow_zero (l : List UInt8) : inRow l 0 = List.replicate 80 0 := by
  unfold inRow
  have : (fun q => beP l q (min 4 (0 - 4 * q))) = fun _ => 0 := by funext q; simp [beP]
  rw [this, List.map_const']
  simp
theorem inRow_at (l : List UInt8) (i : Nat) (hi : i < 64) : (inRow l i).getD (i / 4) 0 = beP l (i / 4) (i % 4) := by
  unfold inRow
  rw [map_range_getD 80 (i / 4) _ 0 (by omega), show min 4 (i - 4 * (i / 4)) = i % 4 by omega]
theorem inRow_succ (l : List UInt8) (i : Nat) (hi : i < 64) : inRow l (i + 1) = (inRow l i).set (i / 4) (beP l (i / 4) (i % 4) * 256 + byteAt l i) := by
  unfold inRow
  refine map_range_set 80 (i / 4) _ _ _ ?_ ?_
  · show beP l (i / 4) (min 4 (i + 1 - 4 * (i / 4))) = _
    rw [show min 4 (i + 1 - 4 * (i / 4)) = i % 4 + 1 by omega, beP, show 4 * (i / 4) + i % 4 = i by omega]
  · intro j hj
    show beP l j (min 4 (i + 1 - 4 * j)) = beP l j (min 4 (i - 4 * j))
    rw [show min 4 (i + 1 - 4 * j) = min 4 (i - 4 * j) by omega]

/-- Word t, given those ahead. -/
def nxt (l : List UInt8) (t : Nat) (L : List Nat) : Nat := if t < 16 then be4 l t else rotl (((L.getD (t - 3) 0 ^^^ L.getD (t - 8) 0) ^^^ L.getD (t - 14) 0) ^^^ L.getD (t - 16) 0) 1
def schL (l : List UInt8) : Nat → List Nat
  | 0 => []
  | t + 1 => schL l t ++ [nxt l t (schL l t)]
theorem schL_len (l : List UInt8) (t : Nat) : (schL l t).length = t := by
  induction t with
  | zero => rfl
  | succ t ih => rw [schL, List.length_append, ih]; rfl
theorem getD_lt {L : List Nat} {B : Nat} (hB : 0 < B) (h : ∀ x ∈ L, x < B) (j : Nat) : L.getD j 0 < B := by
  rcases Nat.lt_or_ge j L.length with hj | hj
  · rw [List.getD, List.getElem?_eq_getElem hj]
    exact h _ (List.getElem_mem hj)
  · rw [List.getD, List.getElem?_eq_none hj]
    exact hB
theorem nxt_lt (l : List UInt8) (t : Nat) (L : List Nat) (h : ∀ x ∈ L, x < 4294967296) : nxt l t L < 4294967296 := by
  unfold nxt
  split
  · exact be4_lt l t
  · have g := getD_lt (by decide) h
    exact rotl_lt _ _ (xor_lt32 (xor_lt32 (xor_lt32 (g _) (g _)) (g _)) (g _))
theorem schL_lt (l : List UInt8) (t : Nat) : ∀ x ∈ schL l t, x < 4294967296 := by
  induction t with
  | zero => intro x hx; cases hx
  | succ t ih =>
    intro x hx
    rw [schL, List.mem_append] at hx
    rcases hx with hx | hx
    · exact ih x hx
    · rw [List.mem_singleton] at hx; rw [hx]; exact nxt_lt l t _ ih
theorem schL_get (l : List UInt8) (t j : Nat) (h : j < t) : (schL l t).getD j 0 = nxt l j (schL l j) := by
  induction t with
  | zero => omega
  | succ t ih =>
    rw [schL]
    by_cases e : j < t
    · rw [List.getD, List.getElem?_append_left (by rw [schL_len]; exact e), ← List.getD, ih e]
    · obtain rfl : j = t := by omega
      rw [List.getD, List.getElem?_append_right (by rw [schL_len]; exact Nat.le_refl _), schL_len, Nat.sub_self]
      rfl
/-- The cells while the words are made, t of them so far. -/
def fillR (L : List Nat) (n : Nat) : List Nat := L ++ List.replicate (n - L.length) 0
theorem fillR_len (L : List Nat) (n : Nat) (h : L.length ≤ n) : (fillR L n).length = n := by simp [fillR]; omega
theorem fillR_set (L : List Nat) (n v : Nat) (h : L.length < n) : fillR (L ++ [v]) n = (fillR L n).set L.length v := by
  unfold fillR
  rw [List.set_append_right _ _ (Nat.le_refl _), Nat.sub_self, List.length_append, show n - L.length = (n - (L.length + 1)) + 1 by omega, List.replicate_succ]
  simp
theorem fillR_at (L : List Nat) (n j : Nat) (h : j < L.length) : (fillR L n).getD j 0 = L.getD j 0 := by
  unfold fillR
  rw [List.getD, List.getElem?_append_left h, List.getD]
theorem fillR_lt {L : List Nat} {n : Nat} (h : ∀ x ∈ L, x < 4294967296) : ∀ x ∈ fillR L n, x < 4294967296 := by
  intro x hx
  rw [fillR, List.mem_append] at hx
  rcases hx with hx | hx
  · exact h x hx
  · have := List.eq_of_mem_replicate hx; omega
theorem fillR_full (L : List Nat) : fillR L L.length = L := by simp [fillR]
theorem fillR_nil (n : Nat) : fillR [] n = List.replicate n 0 := by simp [fillR]
theorem inRow_full (l : List UInt8) : inRow l 64 = fillR (schL l 16) 80 := by
  apply List.ext_getElem?
  intro j
  unfold inRow fillR
  rw [schL_len]
  by_cases h80 : j < 80
  · have e1 : ((List.range 80).map fun q => beP l q (min 4 (64 - 4 * q)))[j]? = some (beP l j (min 4 (64 - 4 * j))) := by simp [h80]
    rw [e1]
    by_cases h16 : j < 16
    · rw [List.getElem?_append_left (by rw [schL_len]; exact h16)]
      have h := schL_get l 16 j h16
      have hl : j < (schL l 16).length := by rw [schL_len]; exact h16
      rw [List.getD, List.getElem?_eq_getElem hl, Option.getD_some] at h
      rw [List.getElem?_eq_getElem hl, h]
      unfold nxt be4
      rw [if_pos h16, show min 4 (64 - 4 * j) = 4 by omega]
    · rw [List.getElem?_append_right (by rw [schL_len]; omega), schL_len, List.getElem?_replicate, if_pos (by omega), show min 4 (64 - 4 * j) = 0 by omega]
      rfl
  · rw [List.getElem?_eq_none (by simp; omega), List.getElem?_eq_none (by rw [List.length_append, schL_len, List.length_replicate]; omega)]

/-- The five words on their way. -/
structure St where
  a : Nat
  b : Nat
  c : Nat
  d : Nat
  e : Nat
def St.ok (s : St) : Prop := s.a < 4294967296 ∧ s.b < 4294967296 ∧ s.c < 4294967296 ∧ s.d < 4294967296 ∧ s.e < 4294967296
def rnd (W : List Nat) (t : Nat) (s : St) : St := ⟨(rotl s.a 5 + fOf t s.b s.c s.d + s.e + W.getD t 0 + kOf t) % 4294967296, s.a, rotl s.b 30, s.c, s.d⟩
def rnds (W : List Nat) (s : St) : Nat → St
  | 0 => s
  | t + 1 => rnd W t (rnds W s t)
theorem rnd_ok {W : List Nat} {t : Nat} {s : St} (h : s.ok) : (rnd W t s).ok := by
  obtain ⟨h1, h2, h3, h4, h5⟩ := h
  exact ⟨Nat.mod_lt _ (by decide), h1, rotl_lt _ _ h2, h3, h4⟩
theorem rnds_ok {W : List Nat} {s : St} (h : s.ok) (t : Nat) : (rnds W s t).ok := by
  induction t with
  | zero => exact h
  | succ t ih => exact rnd_ok ih
def stOf (h : List Nat) : St := ⟨h.getD 0 0, h.getD 1 0, h.getD 2 0, h.getD 3 0, h.getD 4 0⟩
/-- Five words. -/
def Five (h : List Nat) : Prop := h.length = 5 ∧ ∀ x ∈ h, x < 4294967296
theorem Five.ok {h : List Nat} (f : Five h) : (stOf h).ok := by
  have g := getD_lt (B := 4294967296) (by decide) f.2
  exact ⟨g 0, g 1, g 2, g 3, g 4⟩
theorem Five.mk5 {h : List Nat} (f : Five h) : ∃ a b c d e : Nat, h = [a, b, c, d, e] ∧ a < 4294967296 ∧ b < 4294967296 ∧ c < 4294967296 ∧ d < 4294967296 ∧ e < 4294967296 := by
  obtain ⟨hl, hx⟩ := f
  match h, hl with
  | [a, b, c, d, e], _ => exact ⟨a, b, c, d, e, rfl, hx a (by simp), hx b (by simp), hx c (by simp), hx d (by simp), hx e (by simp)⟩
def sumUp (h : List Nat) (s : St) : List Nat := [(h.getD 0 0 + s.a) % 4294967296, (h.getD 1 0 + s.b) % 4294967296, (h.getD 2 0 + s.c) % 4294967296, (h.getD 3 0 + s.d) % 4294967296, (h.getD 4 0 + s.e) % 4294967296]
/-- A block mixed into five words. -/
def comp (h : List Nat) (l : List UInt8) : List Nat := sumUp h (rnds (schL l 80) (stOf h) 80)
theorem sumUp_five (h : List Nat) (s : St) : Five (sumUp h s) := by
  refine ⟨rfl, ?_⟩
  intro x hx
  simp only [sumUp, List.mem_cons, List.not_mem_nil, or_false] at hx
  rcases hx with rfl | rfl | rfl | rfl | rfl <;> exact Nat.mod_lt _ (by decide)
theorem comp_five (h : List Nat) (l : List UInt8) : Five (comp h l) := sumUp_five _ _

/-- n blocks of l mixed in, one after the other. -/
def absH (h : List Nat) (l : List UInt8) : Nat → List Nat
  | 0 => h
  | n + 1 => comp (absH h l n) ((l.drop (64 * n)).take 64)
theorem absH_five {h : List Nat} (f : Five h) (l : List UInt8) (n : Nat) : Five (absH h l n) := by
  cases n with
  | zero => exact f
  | succ n => exact comp_five _ _
theorem absH_add (h : List Nat) (l : List UInt8) (n k : Nat) : absH h l (n + k) = absH (absH h l n) (l.drop (64 * n)) k := by
  induction k with
  | zero => rfl
  | succ k ih =>
    rw [← Nat.add_assoc, absH, absH, ih, List.drop_drop, Nat.mul_add]
theorem absH_front (h : List Nat) (l m : List UInt8) (n : Nat) (hn : 64 * n ≤ l.length) : absH h (l ++ m) n = absH h l n := by
  induction n with
  | zero => rfl
  | succ n ih =>
    rw [absH, absH, ih (by omega), List.drop_append_of_le_length (by omega), List.take_append_of_le_length (by rw [List.length_drop]; omega)]
/-- The words, and what remains, behind l. -/
def inH (h : List Nat) (l : List UInt8) : List Nat := absH h l (l.length / 64)
def inR (l : List UInt8) : List UInt8 := l.drop (64 * (l.length / 64))
theorem inR_len (l : List UInt8) : (inR l).length = l.length % 64 := by rw [inR, List.length_drop]; omega
theorem inH_five {h : List Nat} (f : Five h) (l : List UInt8) : Five (inH h l) := absH_five f _ _
/-- What comes in by two is as what comes in at once. -/
theorem inH_app (h : List Nat) (l m : List UInt8) : inH (inH h l) (inR l ++ m) = inH h (l ++ m) := by
  have e : (l ++ m).length / 64 = l.length / 64 + (inR l ++ m).length / 64 := by
    rw [List.length_append, List.length_append, inR_len]; omega
  unfold inH
  rw [e, absH_add, absH_front h l m _ (by omega), List.drop_append_of_le_length (by omega)]
  rfl
theorem inR_app (l m : List UInt8) : inR (inR l ++ m) = inR (l ++ m) := by
  have e : (l ++ m).length / 64 = l.length / 64 + (inR l ++ m).length / 64 := by
    rw [List.length_append, List.length_append, inR_len]; omega
  have e2 : inR (l ++ m) = (l ++ m).drop (64 * (l.length / 64 + (inR l ++ m).length / 64)) := by rw [← e]; rfl
  rw [e2, Nat.mul_add, ← List.drop_drop, List.drop_append_of_le_length (by omega)]
  rfl

/-- Eight bytes, the highest first. -/
def be8 (n : Nat) : List UInt8 := (List.range 8).map fun i => UInt8.ofNat (n / 256 ^ (7 - i))
def nZero (size : Nat) : Nat := (119 - size % 64) % 64
def endL (size : Nat) : List UInt8 := 128 :: (List.replicate (nZero size) 0 ++ be8 (8 * size))
theorem endL_len (size : Nat) : (endL size).length = nZero size + 9 := by simp [endL, be8]
def wordB (x : Nat) : List UInt8 := [UInt8.ofNat (x / 16777216), UInt8.ofNat (x / 65536), UInt8.ofNat (x / 256), UInt8.ofNat x]
def digH (h : List Nat) : List UInt8 := wordB (h.getD 0 0) ++ wordB (h.getD 1 0) ++ wordB (h.getD 2 0) ++ wordB (h.getD 3 0) ++ wordB (h.getD 4 0)
theorem digH_len (h : List Nat) : (digH h).length = 20 := rfl
/-- The end of a digest under way. -/
def endS (h : List Nat) (r : List UInt8) (size : Nat) : List UInt8 := digH (inH h (r ++ endL size))
def h0L : List Nat := [1732584193, 4023233417, 2562383102, 271733878, 3285377520]
theorem h0_five : Five h0L := ⟨rfl, by decide⟩
def sha1L (l : List UInt8) : List UInt8 := endS (inH h0L l) (inR l) l.length
def sha1B (s : ByteArray) : ByteArray := ⟨(sha1L s.data.toList).toArray⟩
theorem sha1L_len (l : List UInt8) : (sha1L l).length = 20 := rfl
theorem sha1B_size (s : ByteArray) : (sha1B s).size = 20 := rfl
end Go.Proofs.YthdgeepedofleaaGreatDoor
namespace Go.Proofs.YthdgeepedofleaaGreatDoor
set_option linter.unusedVariables false
set_option linter.unusedSimpArgs false
open Go.RowKit
theorem below_a1 (w : World) (o : Obj) : Below w.heap.size w (w.alloc o) := (Below.refl _ w).alloc (Nat.le_refl _) o
theorem below_a2 (w : World) (o o' : Obj) : Below w.heap.size w ((w.alloc o).alloc o') := (below_a1 w o).alloc (by simp) o'
theorem below_a3 (w : World) (o o' o'' : Obj) : Below w.heap.size w (((w.alloc o).alloc o').alloc o'') := (below_a2 w o o').alloc (by simp; omega) o''
theorem below_then {w w1 w2 : World} (h : Below w.heap.size w w1) (k : Below w1.heap.size w1 w2) : Below w.heap.size w w2 := h.trans (k.mono h.size)
theorem bcell2 {W w1 : World} (hb : Below W.heap.size W w1) : (∀ b o, b < W.heap.size → w1.cell? ⟨b, o, none⟩ = W.cell? ⟨b, o, none⟩) ∧ (∀ b o, b < W.heap.size → w1.frozen? ⟨b, o, none⟩ = W.frozen? ⟨b, o, none⟩) :=
  ⟨fun b o h => hb.cell (p := ⟨b, o, none⟩) h, fun b o h => hb.frozen (p := ⟨b, o, none⟩) h⟩
theorem hideB2 {p : Prop} (h : p) : Hid p := h
def withinB (n a b : Int) : Bool := decide (a ≤ n) && decide (n ≤ b)
theorem within_iff {n a b : Int} : withinB n a b = true ↔ a ≤ n ∧ n ≤ b := by unfold withinB; simp
set_option maxHeartbeats 400000 in
theorem within_any (n a b : Int) (w : World) :
    Calls Tryz.prog 34 #[.int .i64 n, .int .i64 a, .int .i64 b] w fun e w' => e = .returned (.bool (withinB n a b)) ∧ w' = w := by
  by_cases h : a ≤ n
  · by_cases h' : n ≤ b
    · rw [show withinB n a b = true by simp [withinB, h, h']]
      go_enter Tryz.func34, Tryz.ntmps34
      go_wp2
      go_ret
      exact ⟨rfl, rfl⟩
    · rw [show withinB n a b = false by simp [withinB, h, h']]
      go_enter Tryz.func34, Tryz.ntmps34
      go_wp2
      go_ret
      exact ⟨rfl, rfl⟩
  · rw [show withinB n a b = false by simp [withinB, h]]
    go_enter Tryz.func34, Tryz.ntmps34
    go_wp2
    go_ret
    exact ⟨rfl, rfl⟩
end Go.Proofs.YthdgeepedofleaaGreatDoor
namespace Go.Proofs.YthdgeepedofleaaGreatDoor
set_option linter.unusedVariables false
set_option linter.unusedSimpArgs false
open Go.RowKit
theorem ret_two {a b : Value} {c d : Value} (h : a = c) (k : b = d) : Ending.returned (.tuple #[a, b]) = .returned (.tuple #[c, d]) := by rw [h, k]
/-- Is it a word? -/
def wordQ (n : Int) : Bool := withinB n 0 4294967295
theorem wordQ_iff {n : Int} : wordQ n = true ↔ 0 ≤ n ∧ n ≤ 4294967295 := within_iff
set_option maxHeartbeats 400000 in
theorem isWord_any (n : Int) (w : World) :
    Calls Tryz.prog 195 #[.int .i64 n] w fun e w' => e = .returned (.bool (wordQ n)) ∧ w' = w := by
  go_enter Tryz.func195, Tryz.ntmps195
  go_wp2_with (go_at_call 34; refine (within_any _ _ _ _).mono ?_; rintro e w' ⟨rfl, rfl⟩)
  go_ret
  exact ⟨rfl, rfl⟩
set_option maxHeartbeats 400000 in
theorem l3word_any (n : Int) (w : World) :
    Calls Tryz.prog 201 #[.int .i64 n] w fun e w' => e = .returned (.bool (wordQ n)) ∧ w' = w := by
  by_cases h : 0 ≤ n
  · by_cases h' : n ≤ 4294967295
    · rw [show wordQ n = true by simp [wordQ, withinB, h, h']]
      go_enter Tryz.func201, Tryz.ntmps201
      go_wp2
      go_ret
      exact ⟨rfl, rfl⟩
    · rw [show wordQ n = false by simp [wordQ, withinB, h, h']]
      go_enter Tryz.func201, Tryz.ntmps201
      go_wp2
      go_ret
      exact ⟨rfl, rfl⟩
  · rw [show wordQ n = false by simp [wordQ, withinB, h]]
    go_enter Tryz.func201, Tryz.ntmps201
    go_wp2
    go_ret
    exact ⟨rfl, rfl⟩
theorem and31_u64 (n : Nat) (hn : n ≤ 31) : bits .and .u64 (n : Int) 31 = (n : Int) := by
  have := u64_and_nat n 31 (by omega) (by decide)
  rw [show n &&& 31 = n by rw [show 31 = 2 ^ 5 - 1 by decide, Nat.and_two_pow_sub_one_eq_mod]; omega] at this
  exact this
set_option maxHeartbeats 400000 in
theorem rotl32_any (x n : Nat) (w : World) (hx : x < 4294967296) (hn : n ≤ 31) :
    Calls Tryz.prog 241 #[.int .u32 (x : Int), .int .i64 (n : Int)] w fun e w' => e = .returned (.int .u32 ((rotl x n : Nat) : Int)) ∧ w' = w := by
  have h31 := and31_u64 n hn
  have hfin := hideB2 (turn_u32 x n hx)
  go_enter Tryz.func241, Tryz.ntmps241
  go_wp2
  go_ret
  exact ⟨ret_int hfin.out.symm, rfl⟩
theorem turn_i64w (x n : Nat) (hx : x < 4294967296) (hn : n ≤ 31) :
    bits .and .i64 (bits .or .i64 (wrap64 ((x : Int) * 2 ^ n)) ((x : Int) / 2 ^ (32 - n))) 4294967295 = ((rotl x n : Nat) : Int) := by
  have h1 := mul_pow_lt hx hn
  have e1 : (x : Int) * 2 ^ n = ((x * 2 ^ n : Nat) : Int) := by simp
  have e2 : wrap64 ((x : Int) * 2 ^ n) = (x : Int) * 2 ^ n := by
    rw [e1]
    generalize x * 2 ^ n = y at *
    unfold wrap64
    omega
  rw [e2]
  exact turn_i64 x n hx hn
set_option maxHeartbeats 400000 in
theorem l3turn_any (x n : Nat) (w : World) (hx : x < 4294967296) (hn : n ≤ 31) :
    Calls Tryz.prog 152 #[.int .i64 (x : Int), .int .i64 (n : Int)] w fun e w' => e = .returned (.int .i64 ((rotl x n : Nat) : Int)) ∧ ∃ m, w' = w.drewN m := by
  have hfin := hideB2 (turn_i64w x n hx hn)
  go_enter Tryz.func152, Tryz.ntmps152
  go_wp2
  refine wp_region_quiet_lit ?_ ?_ ?_
  · kernel_rfl
  · kernel_rfl
  repeat (go_big_quiet_step (fail))
  refine wpQuiet_nil ?_
  rintro _ ⟨nq, rfl⟩
  go_wp2
  go_ret
  exact ⟨ret_int hfin.out.symm, _, rfl⟩
theorem quarter {t : Nat} (h : t ≤ 79) : (t : Int) / 20 = 0 ∧ fOf t = chs ∧ kOf t = 1518500249 ∨ (t : Int) / 20 = 1 ∧ fOf t = par ∧ kOf t = 1859775393 ∨ (t : Int) / 20 = 2 ∧ fOf t = maj ∧ kOf t = 2400959708 ∨ (t : Int) / 20 = 3 ∧ fOf t = par ∧ kOf t = 3395469782 := by
  have h4 : t / 20 = 0 ∨ t / 20 = 1 ∨ t / 20 = 2 ∨ t / 20 = 3 := by omega
  rcases h4 with e | e | e | e
  · exact .inl ⟨by omega, by funext b c d; simp [fOf, e], by simp [kOf, e]⟩
  · exact .inr (.inl ⟨by omega, by funext b c d; simp [fOf, e], by simp [kOf, e]⟩)
  · exact .inr (.inr (.inl ⟨by omega, by funext b c d; simp [fOf, e], by simp [kOf, e]⟩))
  · exact .inr (.inr (.inr ⟨by omega, by funext b c d; simp [fOf, e], by simp [kOf, e]⟩))
theorem xmask (b : Nat) (hb : b < 4294967296) : bits .xor .u32 4294967295 (b : Int) = ((b ^^^ 4294967295 : Nat) : Int) := by
  have := u32_xor_nat 4294967295 b (by decide) hb
  rw [Nat.xor_comm] at this
  exact this
theorem chs_u32 (b c d : Nat) (hb : b < 4294967296) (hc : c < 4294967296) (hd : d < 4294967296) :
    bits .or .u32 (bits .and .u32 (b : Int) (c : Int)) (bits .and .u32 (bits .xor .u32 4294967295 (b : Int)) (d : Int)) = ((chs b c d : Nat) : Int) := by
  have hx : b ^^^ 4294967295 < 4294967296 := xor_lt32 hb (by decide)
  rw [xmask b hb, u32_and_nat b c hb hc, u32_and_nat _ d hx hd, u32_or_nat _ _ (and_lt32 hc) (and_lt32 hd)]
  rfl
theorem par_u32 (b c d : Nat) (hb : b < 4294967296) (hc : c < 4294967296) (hd : d < 4294967296) :
    bits .xor .u32 (bits .xor .u32 (b : Int) (c : Int)) (d : Int) = ((par b c d : Nat) : Int) := by
  rw [u32_xor_nat b c hb hc, u32_xor_nat _ d (xor_lt32 hb hc) hd]
  rfl
theorem maj_u32 (b c d : Nat) (hb : b < 4294967296) (hc : c < 4294967296) (hd : d < 4294967296) :
    bits .or .u32 (bits .or .u32 (bits .and .u32 (b : Int) (c : Int)) (bits .and .u32 (b : Int) (d : Int))) (bits .and .u32 (c : Int) (d : Int)) = ((maj b c d : Nat) : Int) := by
  rw [u32_and_nat b c hb hc, u32_and_nat b d hb hd, u32_and_nat c d hc hd, u32_or_nat _ _ (and_lt32 hc) (and_lt32 hd), u32_or_nat _ _ (or_lt32 (and_lt32 hc) (and_lt32 hd)) (and_lt32 hd)]
  rfl
theorem chs_i64 (b c d : Nat) (hb : b < 4294967296) (hc : c < 4294967296) (hd : d < 4294967296) :
    bits .or .i64 (bits .and .i64 (b : Int) (c : Int)) (bits .and .i64 (bits .xor .i64 (b : Int) 4294967295) (d : Int)) = ((chs b c d : Nat) : Int) := by
  have hx : b ^^^ 4294967295 < 4294967296 := xor_lt32 hb (by decide)
  have h1 := and_lt32 (a := b) hc
  have h2 := and_lt32 (a := b ^^^ 4294967295) hd
  have e := i64_xor_nat b 4294967295 (by omega) (by decide)
  rw [show bits .xor .i64 (b : Int) 4294967295 = ((b ^^^ 4294967295 : Nat) : Int) from e, i64_and_nat b c (by omega) (by omega), i64_and_nat _ d (by omega) (by omega), i64_or_nat _ _ (by omega) (by omega)]
  rfl
theorem par_i64 (b c d : Nat) (hb : b < 4294967296) (hc : c < 4294967296) (hd : d < 4294967296) :
    bits .xor .i64 (bits .xor .i64 (b : Int) (c : Int)) (d : Int) = ((par b c d : Nat) : Int) := by
  have h1 := xor_lt32 hb hc
  rw [i64_xor_nat b c (by omega) (by omega), i64_xor_nat _ d (by omega) (by omega)]
  rfl
theorem maj_i64 (b c d : Nat) (hb : b < 4294967296) (hc : c < 4294967296) (hd : d < 4294967296) :
    bits .or .i64 (bits .or .i64 (bits .and .i64 (b : Int) (c : Int)) (bits .and .i64 (b : Int) (d : Int))) (bits .and .i64 (c : Int) (d : Int)) = ((maj b c d : Nat) : Int) := by
  have h1 := and_lt32 (a := b) hc
  have h2 := and_lt32 (a := b) hd
  have h3 := and_lt32 (a := c) hd
  have h4 := or_lt32 h1 h2
  rw [i64_and_nat b c (by omega) (by omega), i64_and_nat b d (by omega) (by omega), i64_and_nat c d (by omega) (by omega), i64_or_nat _ _ (by omega) (by omega), i64_or_nat _ _ (by omega) (by omega)]
  rfl
theorem tup2 {a b c d : Int} {k l : IntKind} (h : c = a) (g : d = b) : Ending.returned (.tuple #[.int k a, .int l b]) = .returned (.tuple #[.int k c, .int l d]) := by rw [h, g]
set_option maxHeartbeats 1000000 in
theorem roundParts_any (t b c d : Nat) (w : World) (ht : t ≤ 79) (hb : b < 4294967296) (hc : c < 4294967296) (hd : d < 4294967296) :
    Calls Tryz.prog 240 #[.int .i64 (t : Int), .int .u32 (b : Int), .int .u32 (c : Int), .int .u32 (d : Int)] w fun e w' => e = .returned (.tuple #[.int .u32 ((fOf t b c d : Nat) : Int), .int .u32 ((kOf t : Nat) : Int)]) ∧ w' = w := by
  have H1 := hideB2 (chs_u32 b c d hb hc hd)
  have H2 := hideB2 (par_u32 b c d hb hc hd)
  have H3 := hideB2 (maj_u32 b c d hb hc hd)
  rcases quarter ht with ⟨h, hf, hk⟩ | ⟨h, hf, hk⟩ | ⟨h, hf, hk⟩ | ⟨h, hf, hk⟩
  all_goals
    rw [hf, hk]
    clear hf hk
    go_enter Tryz.func240, Tryz.ntmps240
    go_wp2
    go_ret2
  · exact ⟨tup2 H1.out.symm rfl, rfl⟩
  · exact ⟨tup2 H2.out.symm rfl, rfl⟩
  · exact ⟨tup2 H3.out.symm rfl, rfl⟩
  · exact ⟨tup2 H2.out.symm rfl, rfl⟩
set_option maxHeartbeats 1000000 in
theorem l3f_any (t b c d : Nat) (w : World) (ht : t ≤ 79) (hb : b < 4294967296) (hc : c < 4294967296) (hd : d < 4294967296) :
    Calls Tryz.prog 153 #[.int .i64 (t : Int), .int .i64 (b : Int), .int .i64 (c : Int), .int .i64 (d : Int)] w fun e w' => e = .returned (.int .i64 ((fOf t b c d : Nat) : Int)) ∧ w' = w := by
  have H1 := hideB2 (chs_i64 b c d hb hc hd)
  have H2 := hideB2 (par_i64 b c d hb hc hd)
  have H3 := hideB2 (maj_i64 b c d hb hc hd)
  rcases quarter ht with ⟨h, hf, hk⟩ | ⟨h, hf, hk⟩ | ⟨h, hf, hk⟩ | ⟨h, hf, hk⟩
  all_goals
    rw [hf]
    clear hf hk
    go_enter Tryz.func153, Tryz.ntmps153
    go_wp2
    go_ret
  · exact ⟨ret_int H1.out.symm, rfl⟩
  · exact ⟨ret_int H2.out.symm, rfl⟩
  · exact ⟨ret_int H3.out.symm, rfl⟩
  · exact ⟨ret_int H2.out.symm, rfl⟩
set_option maxHeartbeats 1000000 in
theorem l3k_any (t : Nat) (w : World) (ht : t ≤ 79) :
    Calls Tryz.prog 154 #[.int .i64 (t : Int)] w fun e w' => e = .returned (.int .i64 ((kOf t : Nat) : Int)) ∧ w' = w := by
  rcases quarter ht with ⟨h, hf, hk⟩ | ⟨h, hf, hk⟩ | ⟨h, hf, hk⟩ | ⟨h, hf, hk⟩
  all_goals
    rw [hk]
    clear hf hk
    go_enter Tryz.func154, Tryz.ntmps154
    go_wp2
    go_ret
    exact ⟨rfl, rfl⟩
/-- What Turn answers. -/
def turnV (x n : Int) : Int := if wordQ x = true ∧ withinB n 0 31 = true then ((rotl x.toNat n.toNat : Nat) : Int) else -1
theorem turnV_yes (x n : Nat) (hx : x < 4294967296) (hn : n ≤ 31) : turnV x n = ((rotl x n : Nat) : Int) := by
  unfold turnV
  rw [if_pos ⟨wordQ_iff.2 ⟨by omega, by omega⟩, within_iff.2 ⟨by omega, by omega⟩⟩]
  simp
theorem turnV_no {x n : Int} (h : wordQ x = false ∨ withinB n 0 31 = false) : turnV x n = -1 := by
  unfold turnV
  rw [if_neg]
  rintro ⟨h1, h2⟩
  rcases h with h | h
  · rw [h1] at h; cases h
  · rw [h2] at h; cases h
end Go.Proofs.YthdgeepedofleaaGreatDoor
namespace Go.Proofs.YthdgeepedofleaaGreatDoor
set_option linter.unusedVariables false
set_option linter.unusedSimpArgs false
open Go.RowKit
theorem below_drewN {B : Nat} {w w' : World} (h : Below B w w') (n : Nat) : Below B w (w'.drewN n) := h.trans ⟨rfl, rfl, rfl, Nat.le_refl _, fun _ _ => rfl⟩
/-- A block that is known whole. -/
def Blk (w : World) (b : Nat) (c : Array Value) (t : TypeId) : Prop := w.heap[b]? = some (.cells c t (0, 0))
theorem Blk.lt {w : World} {b : Nat} {c : Array Value} {t : TypeId} (h : Blk w b c t) : b < w.heap.size := (Array.getElem?_eq_some_iff.1 h).1
theorem Blk.cell {w : World} {b : Nat} {c : Array Value} {t : TypeId} (h : Blk w b c t) (j : Nat) : w.cell? ⟨b, j, none⟩ = c[j]? := by
  unfold Blk at h
  simp [World.cell?, h]
theorem Blk.free {w : World} {b : Nat} {c : Array Value} {t : TypeId} (h : Blk w b c t) (j : Nat) : w.frozen? ⟨b, j, none⟩ = false := by
  unfold Blk at h
  simp [World.frozen?, h]
theorem Blk.new (w : World) (c : Array Value) (t : TypeId) : Blk (w.alloc (.cells c t)) w.heap.size c t := heap_alloc_last w _
theorem Blk.kept {w w' : World} {b B : Nat} {c : Array Value} {t : TypeId} (h : Blk w b c t) (k : Below B w w') (hb : b < B) : Blk w' b c t := by
  unfold Blk at *
  rw [k.block b hb]; exact h
theorem Blk.later {w w' : World} {b : Nat} {c : Array Value} {t : TypeId} (h : Blk w b c t) (k : Below w.heap.size w w') : Blk w' b c t := h.kept k h.lt
theorem Blk.alloc {w : World} {b : Nat} {c : Array Value} {t : TypeId} (h : Blk w b c t) (o : Obj) : Blk (w.alloc o) b c t := h.later (below_a1 w o)
theorem Blk.drew {w : World} {b : Nat} {c : Array Value} {t : TypeId} (h : Blk w b c t) : Blk w.drew b c t := h
theorem Blk.drewN {w : World} {b : Nat} {c : Array Value} {t : TypeId} (h : Blk w b c t) (n : Nat) : Blk (w.drewN n) b c t := h
theorem Blk.set {w : World} {b : Nat} {c : Array Value} {t : TypeId} (h : Blk w b c t) (j : Nat) (v : Value) : Blk (w.setCell ⟨b, j, none⟩ v) b (c.setIfInBounds j v) t := by
  rw [setCell_eq_setRow w b j c t (0, 0) v h]
  exact setRow_heap w b c _ t _ h
theorem Blk.other {w : World} {b b' : Nat} {c : Array Value} {t : TypeId} (h : Blk w b c t) (hne : b' ≠ b) (j : Nat) (v : Value) : Blk (w.setCell ⟨b', j, none⟩ v) b c t := by
  unfold Blk at *
  simp [World.setCell, Array.getElem?_modify, hne, h]

theorem Blk.load {P : Program} {w : World} {b : Nat} {c : Array Value} {t ty : TypeId} {n : Nat} {e : TypeId} (h : Blk w b c t) (hu : P.underlying ty = some (.array n e)) (hi : (P.info? ty).map (·.size) = some c.size) :
    (Instr.loadAt ty (.pointer (some ⟨b, 0, none⟩))).run P w = .ok (.agg c) w := by
  simp only [Instr.loadAt, Instr.sureAddr, Sem.run_bind, Sem.run_pure, Result.andThen]
  exact run_loadVar_row w b t ty c (0, 0) _ h hu rfl hi
theorem Blk.loadV {P : Program} {w : World} {b : Nat} {c : Array Value} {t ty : TypeId} {n : Nat} {e : TypeId} (h : Blk w b c t) (hu : P.underlying ty = some (.array n e)) (hi : (P.info? ty).map (·.size) = some c.size) :
    (loadVar ty ⟨b, 0, none⟩).run P w = .ok (.agg c) w := run_loadVar_row w b t ty c (0, 0) _ h hu rfl hi
theorem Blk.store {P : Program} {w : World} {b : Nat} {c c' : Array Value} {t ty : TypeId} (h : Blk w b c t) (hi : (P.info? ty).map (·.size) = some c'.size) (ho : c.size = c'.size) (h1 : c'.all (·.oneCell') = true) :
    (Instr.storeAt ty (.pointer (some ⟨b, 0, none⟩)) (.agg c')).run P w = .ok () (w.setRow b c') := by
  simp only [Instr.storeAt, Instr.sureAddr, Sem.run_bind, Sem.run_pure, Result.andThen]
  exact run_storeVar_row w b t ty c c' h hi ho h1
theorem Blk.row {w : World} {b : Nat} {c c' : Array Value} {t : TypeId} (h : Blk w b c t) : Blk (w.setRow b c') b c' t := setRow_heap w b c c' t _ h
theorem Blk.rowOther {w : World} {b b' : Nat} {c c' : Array Value} {t : TypeId} (h : Blk w b c t) (hne : b' ≠ b) : Blk (w.setRow b' c') b c t := by
  unfold Blk at *
  rw [setRow_other w b' b c' (by omega)]
  exact h

theorem wp_loadA {P : Program} {ops : Array Oper} {rest : List Oper} {o : Oper} {a : Act} {Q : Exit → Act → World → Prop} {w : World} {b : Nat} {c : Array Value} {t ty : TypeId} {n : Nat} {e : TypeId} (hg : o.guard = none) (x : Operand) (ho : o.op = Op.load ty x)
    (hx : a.eval x = .pointer (some ⟨b, 0, none⟩)) (hB : Blk w b c t) (hu : P.underlying ty = some (.array n e)) (hi : (P.info? ty).map (·.size) = some c.size)
    (k : wpList P ops Q rest (a.put o.dst (.agg c)) w) : wpList P ops Q (o :: rest) a w := by
  refine wpList_plain hg fun K hK => ?_
  have hrun := hB.load hu hi
  unfold Oper.wp
  simp [execOp, ho, hx, hrun, Result.andThen]
  exact hK _ _ k
theorem wp_storeA {P : Program} {ops : Array Oper} {rest : List Oper} {o : Oper} {a : Act} {Q : Exit → Act → World → Prop} {w : World} {b : Nat} {c c' : Array Value} {t ty : TypeId} (hg : o.guard = none) (hd : o.dst = none) (x y : Operand) (ho : o.op = Op.store ty x y)
    (hx : a.eval x = .pointer (some ⟨b, 0, none⟩)) (hy : a.eval y = .agg c') (hB : Blk w b c t) (hi : (P.info? ty).map (·.size) = some c'.size) (hs : c.size = c'.size) (h1 : c'.all (·.oneCell') = true)
    (k : wpList P ops Q rest a (w.setRow b c')) : wpList P ops Q (o :: rest) a w := by
  refine wpList_plain hg fun K hK => ?_
  have hrun := hB.store hi hs h1
  unfold Oper.wp
  simp [execOp, ho, hx, hy, hrun, Result.andThen]
  have e : a.put o.dst undef = a := by rw [hd]; rfl
  have k' : wpList P ops Q rest (a.put o.dst undef) (w.setRow b c') := by rw [e]; exact k
  exact hK _ _ k'
theorem results_cell1 {fn : Func} {p : Tmp} {ty : TypeId} (h : fn.results = #[.cell p ty]) (tmps : Array Value) (P : Program) (w : World) {b : Nat} {c : Array Value} {t : TypeId} {n : Nat} {e : TypeId} (hp : tmps.getD p undef = .pointer (some ⟨b, 0, none⟩)) (hB : Blk w b c t)
    (hu : P.underlying ty = some (.array n e)) (hi : (P.info? ty).map (·.size) = some c.size) : (results fn tmps).run P w = .ok (.agg c) w := by
  have hrun := hB.loadV hu hi
  have ha : (asAddr (tmps.getD p undef)).run P w = .ok ⟨b, 0, none⟩ w := by rw [hp]; rfl
  have he : (results fn tmps).run P w = ((asAddr (tmps.getD p undef)).run P w).andThen fun a w₁ => (loadVar ty a).run P w₁ := by
    simp only [results, h]
    simp [Sem.run_bind, Result.andThen]
  rw [he, ha]
  exact hrun
end Go.Proofs.YthdgeepedofleaaGreatDoor
namespace Go.Proofs.YthdgeepedofleaaGreatDoor
set_option linter.unusedVariables false
set_option linter.unusedSimpArgs false
open Go.RowKit
theorem results_cellS {fn : Func} {p : Tmp} {ty : TypeId} (h : fn.results = #[.cell p ty]) (tmps : Array Value) (P : Program) (w : World) {b : Nat} {c : Array Value} {t : TypeId} {fs : Array Field} (hp : tmps.getD p undef = .pointer (some ⟨b, 0, none⟩)) (hB : Blk w b c t)
    (hu : P.underlying ty = some (.struct fs)) (hi : (P.info? ty).map (·.size) = some c.size) : (results fn tmps).run P w = .ok (.agg c) w := by
  have hrun := run_loadVar_row (P := P) w b t ty c (0, 0) _ hB hu rfl hi
  have ha : (asAddr (tmps.getD p undef)).run P w = .ok ⟨b, 0, none⟩ w := by rw [hp]; rfl
  have he : (results fn tmps).run P w = ((asAddr (tmps.getD p undef)).run P w).andThen fun a w₁ => (loadVar ty a).run P w₁ := by
    simp only [results, h]
    simp [Sem.run_bind, Result.andThen]
  rw [he, ha]
  exact hrun
theorem results_cellT {fn : Func} {p u : Tmp} {ty : TypeId} (h : fn.results = #[.cell p ty, .tmp u]) (tmps : Array Value) (P : Program) (w : World) {b : Nat} {c : Array Value} {t : TypeId} {fs : Array Field} (hp : tmps.getD p undef = .pointer (some ⟨b, 0, none⟩)) (hB : Blk w b c t)
    (hu : P.underlying ty = some (.struct fs)) (hi : (P.info? ty).map (·.size) = some c.size) : (results fn tmps).run P w = .ok (.tuple #[.agg c, tmps.getD u undef]) w := by
  have hrun := run_loadVar_row (P := P) w b t ty c (0, 0) _ hB hu rfl hi
  have ha : (asAddr (tmps.getD p undef)).run P w = .ok ⟨b, 0, none⟩ w := by rw [hp]; rfl
  rw [results_cell_tmp h, ha]
  show ((loadVar ty ⟨b, 0, none⟩).run P w).andThen _ = _
  rw [hrun]
  rfl
theorem Blk.c2 {w : World} {g : Nat} {x y : Value} {t : TypeId} (h : Blk w g #[x, y] t) : w.cell? ⟨g, 0, none⟩ = some x ∧ w.cell? ⟨g, 1, none⟩ = some y := ⟨h.cell 0, h.cell 1⟩
theorem Blk.set2 {w : World} {g : Nat} {a b : Value} {t : TypeId} (h : Blk w g #[a, b] t) (x y : Value) : Blk ((w.setCell ⟨g, 0, none⟩ x).setCell ⟨g, 1, none⟩ y) g #[x, y] t := (h.set 0 x).set 1 y
theorem Blk.oth2 {w : World} {b g : Nat} {c : Array Value} {t : TypeId} (h : Blk w b c t) (hne : g ≠ b) (x y : Value) : Blk ((w.setCell ⟨g, 0, none⟩ x).setCell ⟨g, 1, none⟩ y) b c t := (h.other hne 0 x).other hne 1 y
theorem below_set2 {B g : Nat} {w0 w : World} (h : Below B w0 w) (hg : B ≤ g) (x y : Value) : Below B w0 ((w.setCell ⟨g, 0, none⟩ x).setCell ⟨g, 1, none⟩ y) :=
  (h.setCell (p := ⟨g, 0, none⟩) hg x).setCell (p := ⟨g, 1, none⟩) hg y
theorem blk_a (w : World) (c : Array Value) (t : TypeId) (o o' : Obj) : Blk (((w.alloc (.cells c t)).alloc o).alloc o') w.heap.size c t := ((Blk.new w c t).alloc o).alloc o'
theorem blk_b (w : World) (c : Array Value) (t : TypeId) (o o' : Obj) : Blk (((w.alloc o).alloc (.cells c t)).alloc o') (w.heap.size + 1) c t := by
  have := (Blk.new (w.alloc o) c t).alloc o'
  simpa using this
theorem blk_c (w : World) (c : Array Value) (t : TypeId) (o o' : Obj) : Blk (((w.alloc o).alloc o').alloc (.cells c t)) (w.heap.size + 1 + 1) c t := by
  have := Blk.new ((w.alloc o).alloc o') c t
  simpa using this
theorem below_drewN' (w : World) (n : Nat) : Below w.heap.size w (w.drewN n) := ⟨rfl, rfl, rfl, Nat.le_refl _, fun _ _ => rfl⟩
theorem made2 (x y : Value) (n j : Nat) (h : j < n) : (madeCells #[x, y] (n * 2)).toList[j * 2]? = some x ∧ (madeCells #[x, y] (n * 2)).toList[j * 2 + 1]? = some y := by
  have h1 : j * 2 < n * 2 := by omega
  have h2 : j * 2 + 1 < n * 2 := by omega
  have e1 : j * 2 % 2 = 0 := by omega
  have e2 : (j * 2 + 1) % 2 = 1 := by omega
  constructor
  · simp [madeCells, h1, e1]
  · simp [madeCells, h2, e2]
end Go.Proofs.YthdgeepedofleaaGreatDoor
namespace Go.Proofs.YthdgeepedofleaaGreatDoor
set_option linter.unusedVariables false
set_option linter.unusedSimpArgs false
open Go.RowKit
/-- A field: its name and its value. -/
abbrev Fd := ByteArray × ByteArray
def fd0 : Fd := (⟨#[]⟩, ⟨#[]⟩)
/-- Number j, or the empty one. -/
def fdAt (l : List Fd) (j : Nat) : Fd := l.getD j fd0
theorem fdAt_get {l : List Fd} {j : Nat} (h : j < l.length) : fdAt l j = l[j] := by
  unfold fdAt; rw [List.getD, List.getElem?_eq_getElem h]; rfl
/-- All bytes are plain. -/
def plnB (s : ByteArray) : Bool := s.data.toList.all plain8
theorem plnB_no {s : ByteArray} {k : Nat} (hk : k < s.size) (h : plain8 (at8 s k) = false) : plnB s = false := by
  unfold plnB
  have hl : k < s.data.toList.length := by simpa using hk
  rw [List.all_eq_false]
  refine ⟨s.data.toList[k], List.getElem_mem hl, ?_⟩
  simp [at8, List.getD, List.getElem?_eq_getElem hl] at h
  simp [h]
theorem plnB_yes {s : ByteArray} (h : ∀ j, j < s.size → plain8 (at8 s j) = true) : plnB s = true := by
  unfold plnB
  rw [List.all_eq_true]
  intro x hx
  obtain ⟨j, hj, rfl⟩ := List.mem_iff_getElem.1 hx
  have := h j (by simpa using hj)
  simpa [at8, List.getD, List.getElem?_eq_getElem hj] using this
/-- The cells of a row of fields. -/
def cellsF (l : List Fd) : List Value := l.flatMap fun s => [.string s.1, .string s.2]
theorem cellsF_app (a b : List Fd) : cellsF (a ++ b) = cellsF a ++ cellsF b := by simp [cellsF]
theorem cellsF_cons (s : Fd) (l : List Fd) : cellsF (s :: l) = .string s.1 :: .string s.2 :: cellsF l := rfl
theorem cellsF_len (l : List Fd) : (cellsF l).length = l.length * 2 := by
  induction l with
  | nil => rfl
  | cons s l ih => rw [cellsF_cons, List.length_cons, List.length_cons, ih, List.length_cons]; omega
theorem cellsF_at (l : List Fd) : ∀ j, j < l.length → (cellsF l)[j * 2]? = some (.string (fdAt l j).1) ∧ (cellsF l)[j * 2 + 1]? = some (.string (fdAt l j).2) := by
  induction l with
  | nil => intro j h; simp at h
  | cons s l ih =>
    intro j h
    cases j with
    | zero => rw [cellsF_cons]; exact ⟨rfl, rfl⟩
    | succ j =>
      rw [cellsF_cons, show fdAt (s :: l) (j + 1) = fdAt l j from rfl, show (j + 1) * 2 = j * 2 + 1 + 1 by omega]
      exact ih j (by simpa using h)
theorem cellsF_one (l : List Fd) : ∀ u ∈ cellsF l, u.oneCell' = true := by
  intro u hu
  simp only [cellsF, List.mem_flatMap] at hu
  obtain ⟨s, _, hs⟩ := hu
  simp at hs
  rcases hs with rfl | rfl <;> rfl
end Go.Proofs.YthdgeepedofleaaGreatDoor
namespace Go.Proofs.YthdgeepedofleaaGreatDoor
set_option linter.unusedVariables false
set_option linter.unusedSimpArgs false
open Go.RowKit
/-- All bytes together. -/
def szF (x : Fd) : Nat := x.1.size + x.2.size
def totF (l : List Fd) : Nat := (l.map szF).sum
theorem totF_nil : totF [] = 0 := rfl
theorem totF_app (a b : List Fd) : totF (a ++ b) = totF a + totF b := by simp [totF]
theorem totF_one (s : Fd) : totF [s] = szF s := by simp [totF]
theorem takeF_next (l : List Fd) (k : Nat) (h : k < l.length) : l.take (k + 1) = l.take k ++ [fdAt l k] := by
  rw [List.take_succ_eq_append_getElem h, fdAt_get h]
theorem totF_next (l : List Fd) (k : Nat) (h : k < l.length) : totF (l.take (k + 1)) = totF (l.take k) + szF (fdAt l k) := by
  rw [takeF_next l k h, totF_app, totF_one]
theorem totF_take (l : List Fd) (k : Nat) : totF (l.take k) ≤ totF l := by
  conv => rhs; rw [← List.take_append_drop k l]
  rw [totF_app]; omega
theorem totF_at (l : List Fd) (k : Nat) (h : k < l.length) : totF (l.take k) + szF (fdAt l k) ≤ totF l := by
  rw [← totF_next l k h]; exact totF_take l _
/-- A row of fields in memory: block b, two cells each. -/
structure RowF (w : World) (b : Nat) (l : List Fd) : Prop where
  dat : ∀ j, j < l.length → w.cell? ⟨b, j * 2, none⟩ = some (.string (fdAt l j).1)
  saf : ∀ j, j < l.length → w.cell? ⟨b, j * 2 + 1, none⟩ = some (.string (fdAt l j).2)
  free : ∀ j, w.frozen? ⟨b, j, none⟩ = false
  lt : b < w.heap.size
theorem RowF.later {w w' : World} {b B : Nat} {l : List Fd} (h : RowF w b l) (k : Below B w w') (hb : b < B) : RowF w' b l :=
  ⟨fun j hj => by rw [k.cell (p := ⟨b, j * 2, none⟩) hb]; exact h.dat j hj, fun j hj => by rw [k.cell (p := ⟨b, j * 2 + 1, none⟩) hb]; exact h.saf j hj, fun j => by rw [k.frozen (p := ⟨b, j, none⟩) hb]; exact h.free j, Nat.lt_of_lt_of_le h.lt k.size⟩
theorem RowF.keep {w w' : World} {b : Nat} {l : List Fd} (h : RowF w b l) (k : Below w.heap.size w w') : RowF w' b l := h.later k h.lt
theorem RowF.other {w : World} {b b' : Nat} {l : List Fd} (h : RowF w b l) (hne : b' ≠ b) (k : Nat) (v : Value) : RowF (w.setCell ⟨b', k, none⟩ v) b l :=
  ⟨fun j hj => by rw [World.cell?_setCell_other _ _ _ _ (by intro hh; injection hh with h1 _; exact hne h1)]; exact h.dat j hj,
   fun j hj => by rw [World.cell?_setCell_other _ _ _ _ (by intro hh; injection hh with h1 _; exact hne h1)]; exact h.saf j hj,
   fun j => by rw [World.frozen?_setCell]; exact h.free j, by simpa [World.setCell] using h.lt⟩
theorem RowF.oth2 {w : World} {b g : Nat} {l : List Fd} (h : RowF w b l) (hne : g ≠ b) (x y : Value) : RowF ((w.setCell ⟨g, 0, none⟩ x).setCell ⟨g, 1, none⟩ y) b l := (h.other hne 0 x).other hne 1 y
theorem RowF.drewN {w : World} {b : Nat} {l : List Fd} (h : RowF w b l) (n : Nat) : RowF (w.drewN n) b l := h.keep (below_drewN' w n)
/-- Number k gets new bytes and a new mark, cell by cell. -/
theorem RowF.set {w : World} {b : Nat} {l : List Fd} (h : RowF w b l) (k : Nat) (d s : ByteArray) (hk : k < l.length) :
    RowF ((w.setCell ⟨b, k * 2, none⟩ (.string d)).setCell ⟨b, k * 2 + 1, none⟩ (.string s)) b (l.set k (d, s)) := by
  have hat : ∀ j, j < l.length → fdAt (l.set k (d, s)) j = if j = k then (d, s) else fdAt l j := by
    intro j hj
    rw [fdAt_get (by rw [List.length_set]; exact hj), List.getElem_set]
    by_cases e : j = k
    · subst e; simp
    · rw [if_neg (Ne.symm e), if_neg e, fdAt_get hj]
  refine ⟨fun j hj => ?_, fun j hj => ?_, fun j => ?_, by simpa [World.setCell] using h.lt⟩
  · rw [List.length_set] at hj
    rw [World.cell?_setCell_other _ _ _ _ (by intro hh; injection hh with _ h2; omega), hat j hj]
    by_cases e : j = k
    · subst e
      rw [World.cell?_setCell_same _ _ _ (h.dat j hj)]
      simp
    · rw [World.cell?_setCell_other _ _ _ _ (by intro hh; injection hh with _ h2; omega), h.dat j hj, if_neg e]
  · rw [List.length_set] at hj
    rw [hat j hj]
    by_cases e : j = k
    · subst e
      rw [World.cell?_setCell_same (u := .string (fdAt l j).2) _ _ _ (by rw [World.cell?_setCell_other _ _ _ _ (by intro hh; injection hh with _ h2; omega)]; exact h.saf j hj)]
      simp
    · rw [World.cell?_setCell_other _ _ _ _ (by intro hh; injection hh with _ h2; omega), World.cell?_setCell_other _ _ _ _ (by intro hh; injection hh with _ h2; omega), h.saf j hj, if_neg e]
  · rw [World.frozen?_setCell, World.frozen?_setCell]
    exact h.free j
theorem Tryz.infoF : (Tryz.prog.info? 88).map (fun i => (i.zero, i.size, i.bytes)) = some (some (.agg #[.string ⟨#[]⟩, .string ⟨#[]⟩]), 2, 32) := by kernel_rfl
theorem rowF_made {w w' : World} {n : Nat} (h : w'.ownsRow w.heap.size 88 2 (.slice (some ⟨w.heap.size, 0, none⟩) n n) n (madeCells (Value.agg #[.string ⟨#[]⟩, .string ⟨#[]⟩]).cells (n * 2)).toList) : RowF w' w.heap.size (List.replicate n fd0) := by
  have hat : ∀ j, j < n → fdAt (List.replicate n fd0) j = fd0 := fun j hj => by rw [fdAt_get (by simpa using hj)]; simp
  refine ⟨fun j hj => ?_, fun j hj => ?_, fun j => h.frozenAt j, (h.lt w.heap.size rfl).2⟩
  · rw [List.length_replicate] at hj
    rw [h.cellAt (j * 2) (by omega), hat j hj]
    exact (made2 _ _ n j hj).1
  · rw [List.length_replicate] at hj
    rw [h.cellAt (j * 2 + 1) (by omega), hat j hj]
    exact (made2 _ _ n j hj).2
theorem wp_mkF {ops : Array Oper} {rest : List Oper} {o : Oper} {a : Act} {Q : Exit → Act → World → Prop} {w : World} (hg : o.guard = none) (l c : Operand) (hop : o.op = Op.makeSlice 48 l c)
    (n : Nat) (L C : Int) (hl : a.eval l = .int .i64 L) (hc : a.eval c = .int .i64 C) (hL : L = (n : Int)) (hC : C = (n : Int)) (hn : n ≤ 1048576)
    (hK : ∀ w', RowF w' w.heap.size (List.replicate n fd0) → Below w.heap.size w w' → wpList Tryz.prog ops Q rest (a.put o.dst (.slice (some ⟨w.heap.size, 0, none⟩) n n)) w') :
    wpList Tryz.prog ops Q (o :: rest) a w := by
  obtain ⟨i0, hi, hz0, hz1, hz2⟩ := info_parts Tryz.infoF
  refine wpList_make_full w hg l c 48 hop w.heap.size 88 i0 _ 2 Tryz.underlying48 hi hz0 hz1 .i64 .i64 L C n hl hc hL hC (by rw [hz2]; omega) (by unfold maxLen; omega) (Nat.le_refl _) ?_
  intro w' hown hgr
  exact hK w' (rowF_made hown) ⟨hgr.os, hgr.tape, hgr.output, hgr.size, fun k hk => hgr.block k hk (by simp)⟩
/-- A slice of fields that came in. -/
def ArgF (w : World) (a : Option Addr) (len : Nat) (l : List Fd) : Prop :=
  l.length = len ∧ (len = 0 ∨ ∃ b off, a = some ⟨b, off, none⟩ ∧ b < w.heap.size ∧ ∀ i, i < len → w.cell? ⟨b, off + i * 2, none⟩ = some (.string (fdAt l i).1) ∧ w.cell? ⟨b, off + i * 2 + 1, none⟩ = some (.string (fdAt l i).2))
theorem ArgF.later {w w' : World} {a : Option Addr} {len : Nat} {l : List Fd} (h : ArgF w a len l) (k : Below w.heap.size w w') : ArgF w' a len l := by
  obtain ⟨h1, h2⟩ := h
  refine ⟨h1, ?_⟩
  rcases h2 with h2 | ⟨b, off, e, hb, hc⟩
  · exact .inl h2
  · exact .inr ⟨b, off, e, Nat.lt_of_lt_of_le hb k.size, fun i hi => ⟨by rw [k.cell (p := ⟨b, off + i * 2, none⟩) hb]; exact (hc i hi).1, by rw [k.cell (p := ⟨b, off + i * 2 + 1, none⟩) hb]; exact (hc i hi).2⟩⟩
set_option maxHeartbeats 400000 in
theorem eqField_same (d s : ByteArray) (w : World) :
    Calls Tryz.prog 77 #[.agg #[.string d, .string s], .agg #[.string d, .string s]] w fun e w' => e = .returned (.bool true) ∧ Below w.heap.size w w' := by
  go_enter Tryz.func77, Tryz.ntmps77
  go_wp2
  go_ret
  exact ⟨rfl, below_a2 w _ _⟩
/-- A slice of fields: nil, or a row. -/
def SlF (w : World) (v : Value) (l : List Fd) : Prop := (v = .slice none 0 0 ∧ l = []) ∨ ∃ b cap, v = .slice (some ⟨b, 0, none⟩) l.length cap ∧ RowF w b l
theorem SlF.later {w w' : World} {v : Value} {l : List Fd} (h : SlF w v l) (k : Below w.heap.size w w') : SlF w' v l := by
  rcases h with h | ⟨b, cap, e, hr⟩
  · exact .inl h
  · exact .inr ⟨b, cap, e, hr.keep k⟩
theorem RowF.sl {w : World} {b n : Nat} {l : List Fd} (h : RowF w b l) (hn : l.length = n) (cap : Nat) : SlF w (.slice (some ⟨b, 0, none⟩) n cap) l := .inr ⟨b, cap, by rw [hn], h⟩
theorem SlF.one {w : World} {v : Value} {l : List Fd} (h : SlF w v l) : v.oneCell' = true := by
  rcases h with ⟨rfl, _⟩ | ⟨b, cap, rfl, _⟩ <;> rfl
theorem SlF.form {w : World} {v : Value} {l : List Fd} (h : SlF w v l) : ∃ a c, v = .slice a l.length c := by
  rcases h with ⟨rfl, rfl⟩ | ⟨b, cap, rfl, _⟩
  · exact ⟨none, 0, rfl⟩
  · exact ⟨_, _, rfl⟩
theorem SlF.row {w : World} {a : Option Addr} {n c : Nat} {l : List Fd} (h : SlF w (.slice a n c) l) (hl : 0 < l.length) : ∃ b, a = some ⟨b, 0, none⟩ ∧ RowF w b l := by
  rcases h with ⟨_, rfl⟩ | ⟨b, cap, e, hr⟩
  · simp at hl
  · injection e with e1; exact ⟨b, e1, hr⟩
set_option maxHeartbeats 1000000 in
theorem eqFieldS_same (va vb : Value) (l : List Fd) (w : World) (ha : SlF w va l) (hb : SlF w vb l) (hm : l.length ≤ 1048576) :
    Calls Tryz.prog 49 #[va, vb] w fun e w' => e = .returned (.bool true) ∧ Below w.heap.size w w' := by
  obtain ⟨a1, c1, rfl⟩ := ha.form
  obtain ⟨a2, c2, rfl⟩ := hb.form
  have HA := hideB2 ha
  have HB := hideB2 hb
  clear ha hb
  generalize hn : l.length = n at *
  have HN := hideB2 hn
  clear hn
  go_enter Tryz.func49, Tryz.ntmps49
  go_wp2
  go_loopw [5] (fun i wr => ∃ k : Nat, k ≤ n ∧ i = .int .i64 k ∧ Below w.heap.size w wr) (fun i _ => n - (intOf i).toNat)
  case atStart => exact ⟨0, Nat.zero_le _, rfl, Below.refl _ _⟩
  case round =>
    obtain ⟨k, hk, rfl, hb⟩ := hrel
    by_cases hlt : k < n
    · obtain ⟨b1, rfl, hr1⟩ := HA.out.row (by rw [HN.out]; omega)
      obtain ⟨b2, rfl, hr2⟩ := HB.out.row (by rw [HN.out]; omega)
      have p0 := (hr1.keep hb).dat k (by rw [HN.out]; exact hlt)
      have p1 := (hr1.keep hb).saf k (by rw [HN.out]; exact hlt)
      have q0 := (hr2.keep hb).dat k (by rw [HN.out]; exact hlt)
      have q1 := (hr2.keep hb).saf k (by rw [HN.out]; exact hlt)
      clear hr1 hr2
      generalize fdAt l k = x at *
      obtain ⟨d, s⟩ := x
      simp only at p0 p1 q0 q1
      have HBW := hideB2 hb
      clear hb
      go_wp2
      go_region_with (go_at_call 77; refine (eqField_same _ _ _).mono ?_; rintro e w2 ⟨rfl, hb2⟩)
      all_goals
        have HB3 := hideB2 (HBW.out.drew.trans (hb2.mono HBW.out.drew.size))
        clear hb2
        go_wp2
        exact ⟨⟨k + 1, by omega, by go_num, HB3.out⟩, by simp [intOf]; omega⟩
    · go_wp2
      go_ret
      exact ⟨rfl, hb⟩
end Go.Proofs.YthdgeepedofleaaGreatDoor
namespace Go.Proofs.YthdgeepedofleaaGreatDoor
set_option linter.unusedVariables false
set_option linter.unusedSimpArgs false
open Go.RowKit
/-- May the value stand in a head? -/
def valQ (v : ByteArray) : Bool := decide (v.size ≤ 190) && plnB v && eqB (trimB v) v
/-- May the field? -/
def fieldQ (x : Fd) : Bool := decide (x.1.size ≤ 40) && tokB x.1 && valQ x.2
/-- May they all? -/
def fieldsQ (l : List Fd) : Bool := decide (l.length ≤ 20) && l.all fieldQ
theorem valQ_iff {v : ByteArray} : valQ v = true ↔ v.size ≤ 190 ∧ plnB v = true ∧ trimB v = v := by
  unfold valQ; rw [Bool.and_eq_true, Bool.and_eq_true, eqB_iff]; simp [and_assoc]
theorem fieldQ_iff {x : Fd} : fieldQ x = true ↔ x.1.size ≤ 40 ∧ tokB x.1 = true ∧ valQ x.2 = true := by
  unfold fieldQ; simp [and_assoc]
theorem fieldsQ_iff {l : List Fd} : fieldsQ l = true ↔ l.length ≤ 20 ∧ ∀ x ∈ l, fieldQ x = true := by
  unfold fieldsQ; simp
theorem fieldsQ_bad {l : List Fd} {k : Nat} (hk : k < l.length) (h : fieldQ (fdAt l k) = false) : fieldsQ l = false := by
  cases hh : fieldsQ l with
  | false => rfl
  | true =>
    have := (fieldsQ_iff.1 hh).2 _ (List.getElem_mem hk)
    rw [fdAt_get hk] at h
    rw [h] at this; cases this
theorem fieldsQ_all {l : List Fd} (hl : l.length ≤ 20) (h : ∀ j, j < l.length → fieldQ (fdAt l j) = true) : fieldsQ l = true := by
  rw [fieldsQ_iff]
  refine ⟨hl, fun x hx => ?_⟩
  obtain ⟨j, hj, rfl⟩ := List.mem_iff_getElem.1 hx
  have := h j hj
  rwa [fdAt_get hj] at this
theorem fieldsQ_at {l : List Fd} (h : fieldsQ l = true) {j : Nat} (hj : j < l.length) : fieldQ (fdAt l j) = true := by
  rw [fdAt_get hj]; exact (fieldsQ_iff.1 h).2 _ (List.getElem_mem hj)
theorem fieldQ_sizes {x : Fd} (h : fieldQ x = true) : x.1.size ≤ 40 ∧ x.2.size ≤ 190 := ⟨(fieldQ_iff.1 h).1, (valQ_iff.1 (fieldQ_iff.1 h).2.2).1⟩
/-- Has it that name? -/
def nameIs (n : ByteArray) (x : Fd) : Bool := eqB (foldB x.1) (foldB n)
/-- The values of that name. -/
def valsOf (l : List Fd) (n : ByteArray) : List ByteArray := (l.filter (nameIs n)).map (·.2)
def valuesL (l : List Fd) (n : ByteArray) : List ByteArray := if fieldsQ l = true then valsOf l n else []
def withoutL (l : List Fd) (n : ByteArray) : List Fd := if fieldsQ l = true then l.filter (fun x => !nameIs n x) else []
def withL (l : List Fd) (f : Fd) : List Fd := if fieldsQ l = true ∧ fieldQ f = true ∧ (l.filter (fun x => !nameIs f.1 x)).length < 20 then l.filter (fun x => !nameIs f.1 x) ++ [f] else []
theorem valsOf_next (l : List Fd) (n : ByteArray) (k : Nat) (h : k < l.length) : valsOf (l.take (k + 1)) n = valsOf (l.take k) n ++ (if nameIs n (fdAt l k) = true then [(fdAt l k).2] else []) := by
  unfold valsOf
  rw [takeF_next l k h, List.filter_append, List.map_append]
  cases hn : nameIs n (fdAt l k) <;> simp [hn]
theorem keepF_next (l : List Fd) (p : Fd → Bool) (k : Nat) (h : k < l.length) : (l.take (k + 1)).filter p = (l.take k).filter p ++ (if p (fdAt l k) = true then [fdAt l k] else []) := by
  rw [takeF_next l k h, List.filter_append]
  cases hn : p (fdAt l k) <;> simp [hn]
theorem valsOf_len (l : List Fd) (n : ByteArray) : (valsOf l n).length ≤ l.length := by
  unfold valsOf; rw [List.length_map]; exact List.length_filter_le _ _
theorem valuesL_len (l : List Fd) (n : ByteArray) : (valuesL l n).length ≤ 20 := by
  unfold valuesL
  split
  · rename_i h
    exact Nat.le_trans (valsOf_len l n) (fieldsQ_iff.1 h).1
  · simp
theorem valuesL_size {l : List Fd} {n v : ByteArray} (h : v ∈ valuesL l n) : v.size ≤ 190 := by
  unfold valuesL at h
  split at h
  · rename_i hq
    unfold valsOf at h
    rw [List.mem_map] at h
    obtain ⟨x, hx, rfl⟩ := h
    exact (fieldQ_sizes ((fieldsQ_iff.1 hq).2 x (List.mem_filter.1 hx).1)).2
  · simp at h
/-- With a comma and a blank between each two. -/
def joinL : List ByteArray → List UInt8
  | [] => []
  | [v] => v.data.toList
  | v :: r => v.data.toList ++ [44, 32] ++ joinL r
def joinB (l : List ByteArray) : ByteArray := ⟨(joinL l).toArray⟩
theorem joinL_two (a b : ByteArray) (r : List ByteArray) : joinL (a :: b :: r) = a.data.toList ++ [44, 32] ++ joinL (b :: r) := by
  rw [joinL]
  simp
theorem joinL_snoc (l : List ByteArray) (v : ByteArray) (h : l ≠ []) : joinL (l ++ [v]) = joinL l ++ [44, 32] ++ v.data.toList := by
  induction l with
  | nil => exact absurd rfl h
  | cons a l ih =>
    cases l with
    | nil => rw [List.singleton_append, joinL_two]; rfl
    | cons b r =>
      have := ih (by simp)
      rw [List.cons_append, List.cons_append, joinL_two, joinL_two, ← List.cons_append, this]
      simp only [List.append_assoc]
theorem joinL_len (l : List ByteArray) (m : Nat) (h : ∀ v ∈ l, v.size ≤ m) : (joinL l).length ≤ l.length * (m + 2) := by
  induction l with
  | nil => simp [joinL]
  | cons a l ih =>
    have ha := h a (by simp)
    have hl := ih (fun v hv => h v (by simp [hv]))
    cases l with
    | nil => simp [joinL, len_data]; omega
    | cons b r =>
      rw [joinL_two]
      simp only [List.length_append, List.length_cons, List.length_nil, len_data] at hl ⊢
      rw [Nat.add_mul, Nat.one_mul]
      omega
end Go.Proofs.YthdgeepedofleaaGreatDoor
