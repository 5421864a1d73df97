/-
  Plain functions of chapter 1 (bytes): no Go in sight. · Plain functions of chapter 1: gaps and Trim. No Go in sight. · Plain functions of chapter 1: cursors. No Go in sight. · Where a line ends, on lists. No Go in sight. · A text cut at each byte of one kind, on lists. No Go in sight. · What all walks share: worlds that stay below, a number within two. · Contracts of the library's functions at this program, laid off the kit's shelf in plain words. · A text cut at its first byte c; up to a byte; both sides. · Plain functions of chapter 1: quotes. No Go in sight. · Pairs of texts; plain texts. No Go in sight. · Plain functions of chapter 1: signs of a token. No Go in sight. · The walks over chapter 1's small functions. · The walks over chapter 1: gaps, digits, Trim. · Plain functions of chapter 1: decimal numbers. No Go in sight. · The walks over chapter 1: spec.DecText, ReadDec. · The walks over chapter 1: ReadDec.
-/
import Derived.WalkKit
import Derived.WalkSpells
import Derived.WalkLawsBesides
import Derived.Lib.ConvBytes
import Derived.Laws.IdiomStrings
import Derived.Laws.BytesArg
import Derived.Lib.IndexLaws
import Derived.Lib.Bytealg
import Derived.Lib.SplitLaws
import Derived.Lib.IndexBytes
import Derived.Lib.Join
import Derived.Lib.SmallJoins
import Derived.Test.YtffjpidjhcnnmabDoorProg
import Derived.Deep.QuietTactic
import Derived.BigQuiet
import Derived.Shelf.Strings.Search2
import Derived.Deep.DeepCutAuto
import Derived.Lib.ItoaNum
import Derived.Deep.RegionWith
namespace Go.Proofs.YtffjpidjhcnnmabDoor
set_option linter.unusedVariables false
set_option linter.unusedSimpArgs false
open Go.RowKit

/-- A letter A to Z as its small one, on numbers. -/
def lowI (n : Int) : Int := if 65 ≤ n ∧ n ≤ 90 then n + 32 else n
/-- The same on bytes. -/
def low8 (b : UInt8) : UInt8 := if 65 ≤ b.toNat ∧ b.toNat ≤ 90 then b + 32 else b
def foldL (l : List UInt8) : List UInt8 := l.map low8
def foldB (s : ByteArray) : ByteArray := ⟨(foldL s.data.toList).toArray⟩

theorem low8_toNat (b : UInt8) : ((low8 b).toNat : Int) = lowI (b.toNat : Int) := by
  unfold low8 lowI
  have hb := b.toNat_lt
  by_cases h : 65 ≤ b.toNat ∧ b.toNat ≤ 90
  · rw [if_pos h, if_pos (by omega)]
    rw [UInt8.toNat_add]
    simp
    omega
  · rw [if_neg h, if_neg (by omega)]
theorem lowI_bd (n : Int) (h0 : 0 ≤ n) (h1 : n ≤ 255) : 0 ≤ lowI n ∧ lowI n ≤ 255 := by
  unfold lowI; split <;> omega
theorem foldB_size (s : ByteArray) : (foldB s).size = s.size := by
  show ((s.data.toList.map low8).toArray).size = s.data.size
  simp

theorem ret_bool {a b : Bool} (h : b = a) : Ending.returned (.bool a) = .returned (.bool b) := by rw [h]
theorem ret_int {k : IntKind} {a b : Int} (h : b = a) : Ending.returned (.int k a) = .returned (.int k b) := by rw [h]
theorem ret_str {a b : ByteArray} (h : b = a) : Ending.returned (.string a) = .returned (.string b) := by rw [h]

theorem len_data (s : ByteArray) : s.data.toList.length = s.size := by
  show _ = s.data.size
  simp
theorem u8_lo (b : UInt8) : (0 : Int) ≤ (b.toNat : Int) := Int.natCast_nonneg _
theorem u8_hi (b : UInt8) : (b.toNat : Int) ≤ 255 := by have := b.toNat_lt; omega

/-- Go's '==' on texts. -/
def eqB (a b : ByteArray) : Bool := a.toList == b.toList
theorem eqB_iff {a b : ByteArray} : eqB a b = true ↔ a = b := by
  unfold eqB
  rw [ByteArray.toList_eq, ByteArray.toList_eq, beq_iff_eq]
  constructor
  · intro h
    cases a; cases b
    congr 1
    exact Array.toList_inj.1 h
  · rintro rfl; rfl
theorem eqB_self (a : ByteArray) : eqB a a = true := eqB_iff.2 rfl

/-- A row of bytes at the head of block b: what it holds, and that it may be written. -/
structure Row8 (w : World) (b : Nat) (xs : List Int) : Prop where
  cell : ∀ j, j < xs.length → w.cell? ⟨b, j, none⟩ = some (.int .u8 (xs.getD j 0))
  free : ∀ j, j < xs.length → w.frozen? ⟨b, j, none⟩ = false
  lt : b < w.heap.size

theorem Row8.set {w : World} {b : Nat} {xs : List Int} (h : Row8 w b xs) (k : Nat) (v : Int) (hk : k < xs.length) : Row8 (w.setCell ⟨b, k, none⟩ (.int .u8 v)) b (xs.set k v) := by
  refine ⟨fun j hj => ?_, fun j hj => ?_, by simpa [World.setCell] using h.lt⟩
  · rw [List.length_set] at hj
    by_cases e : j = k
    · subst e
      rw [World.cell?_setCell_same _ _ _ (h.cell j hj)]
      simp [List.getD, hk]
    · rw [World.cell?_setCell_other _ _ _ _ (by intro hh; apply e; injection hh with _ h2; exact h2.symm), h.cell j hj]
      simp [List.getD, Ne.symm e]
  · rw [List.length_set] at hj
    rw [World.frozen?_setCell]
    exact h.free j hj

/-- The numbers of a text's bytes. -/
def nums (s : ByteArray) : List Int := s.data.toList.map fun b => (b.toNat : Int)
theorem nums_length (s : ByteArray) : (nums s).length = s.size := by
  show (s.data.toList.map _).length = s.data.size
  simp
theorem nums_getD (s : ByteArray) (j : Nat) (hj : j < s.size) : (nums s).getD j 0 = ((s.data.toList.getD j 0).toNat : Int) := by
  have hj' : j < s.data.toList.length := by simpa using hj
  simp [nums, List.getD, List.getElem?_eq_getElem hj']
theorem nums_bd (s : ByteArray) (j : Nat) : 0 ≤ (nums s).getD j 0 ∧ (nums s).getD j 0 ≤ 255 := by
  rcases Nat.lt_or_ge j s.size with h | h
  · rw [nums_getD s j h]
    have := (s.data.toList.getD j 0).toNat_lt
    omega
  · have : (nums s).length ≤ j := by rw [nums_length]; exact h
    simp [List.getD, List.getElem?_eq_none this]

theorem row8_bytes (w : World) (e : TypeId) (s : ByteArray) : Row8 (Lib.bytesWorld w e s) w.heap.size (nums s) := by
  refine ⟨fun j hj => ?_, fun j hj => ?_, by rw [Lib.bytesWorld_size]; omega⟩
  · rw [nums_length] at hj
    rw [Lib.bytesWorld_cell w e s j hj, nums_getD s j hj]
  · rw [nums_length] at hj
    have hj' : j < s.data.size := hj
    simp only [World.frozen?, Lib.bytesWorld_at_new]
    have : j < (Lib.bytesCells w e s).size := by simp [Lib.bytesCells]; omega
    simp
    omega

theorem below_bytes (w : World) (e : TypeId) (s : ByteArray) : Below w.heap.size w (Lib.bytesWorld w e s) :=
  ⟨by simp [Lib.bytesWorld, World.freeze, World.alloc, World.drew, -World.alloc_eq, -World.drew_eq], by simp [Lib.bytesWorld, World.freeze, World.alloc, World.drew, -World.alloc_eq, -World.drew_eq],
   by simp [Lib.bytesWorld, World.freeze, World.alloc, World.drew, -World.alloc_eq, -World.drew_eq], by rw [Lib.bytesWorld_size]; omega, fun k hk => Lib.bytesWorld_at_old w e s k hk⟩

/-- The row's text. -/
theorem Row8.text {P : Program} {w : World} {b : Nat} {xs : List Int} (h : Row8 w b xs) (src e dst : TypeId) (n cap : Nat) (hn : xs.length = n) (hs : P.underlying src = some (.slice e)) (he : P.underlying e = some (.int .u8)) (hd : P.underlying dst = some .string) :
    (convert src dst (.slice (some ⟨b, 0, none⟩) n cap)).run P w = .ok (.string (strOfNums xs)) w :=
  run_convert_bytes_arg (P := P) w src e hs he b 0 n cap xs hn (fun i hi => by rw [Nat.zero_add]; exact h.cell i (by omega)) dst hd

/-- After k rounds of folding. -/
def foldTo (s : ByteArray) (k : Nat) : List Int := ((nums s).take k).map lowI ++ (nums s).drop k
theorem foldTo_length (s : ByteArray) (k : Nat) : (foldTo s k).length = s.size := by
  simp only [foldTo, List.length_append, List.length_map, List.length_take, List.length_drop, nums_length]; omega
theorem foldTo_zero (s : ByteArray) : foldTo s 0 = nums s := by simp [foldTo]
theorem foldTo_at (s : ByteArray) (k : Nat) (hk : k < s.size) : (foldTo s k).getD k 0 = (nums s).getD k 0 := by
  have h : ((nums s).take k).length = k := by simp [nums_length]; omega
  unfold foldTo
  rw [List.getD, List.getElem?_append_right (by simp; omega)]
  have e : k - ((nums s).take k |>.map lowI).length = 0 := by rw [List.length_map, h]; omega
  rw [e]
  simp [List.getD]
theorem foldTo_succ (s : ByteArray) (k : Nat) (hk : k < s.size) : foldTo s (k + 1) = (foldTo s k).set k (lowI ((nums s).getD k 0)) := by
  have hl : k < (nums s).length := by rw [nums_length]; exact hk
  unfold foldTo
  rw [List.take_succ_eq_append_getElem hl, List.map_append, List.append_assoc, List.set_append_right _ _ (by simp; omega)]
  have e : k - ((nums s).take k |>.map lowI).length = 0 := by simp; omega
  rw [e]
  have hd := List.drop_eq_getElem_cons hl
  rw [hd]
  simp only [List.map_cons, List.map_nil, List.cons_append, List.nil_append, List.set_cons_zero, List.getD, List.getElem?_eq_getElem hl, Option.getD_some]
theorem foldTo_all (s : ByteArray) : strOfNums (foldTo s s.size) = foldB s := by
  unfold foldTo strOfNums foldB foldL
  have hl : (nums s).length ≤ s.size := by rw [nums_length]; exact Nat.le_refl _
  rw [List.take_of_length_le hl, List.drop_eq_nil_of_le hl, List.append_nil]
  congr 2
  simp only [nums, List.map_map]
  apply List.map_congr_left
  intro b _
  show UInt8.ofNat (lowI (b.toNat : Int)).toNat = low8 b
  rw [← low8_toNat]
  simp
theorem bcell {W w1 : World} (hb : Below W.heap.size W w1) : (∀ b o, b < W.heap.size → w1.cell? ⟨b, o, none⟩ = W.cell? ⟨b, o, none⟩) ∧ (∀ b o, b < W.heap.size → w1.frozen? ⟨b, o, none⟩ = W.frozen? ⟨b, o, none⟩) :=
  ⟨fun b o h => hb.cell (p := ⟨b, o, none⟩) h, fun b o h => hb.frozen (p := ⟨b, o, none⟩) h⟩
end Go.Proofs.YtffjpidjhcnnmabDoor
namespace Go.Proofs.YtffjpidjhcnnmabDoor
set_option linter.unusedVariables false
set_option linter.unusedSimpArgs false
open Go.RowKit

def gapP (n : Int) : Bool := n == 32 || n == 9
def gap8 (b : UInt8) : Bool := gapP (b.toNat : Int)
def digP (n : Int) : Bool := decide (48 ≤ n) && decide (n ≤ 57)
def dig8 (b : UInt8) : Bool := digP (b.toNat : Int)
def trimL (l : List UInt8) : List UInt8 := ((l.dropWhile gap8).reverse.dropWhile gap8).reverse
def trimB (s : ByteArray) : ByteArray := ⟨(trimL s.data.toList).toArray⟩

theorem dropWhile_all {α : Type} (p : α → Bool) : ∀ (a b : List α), (∀ x ∈ a, p x = true) → (a ++ b).dropWhile p = b.dropWhile p
  | [], _, _ => rfl
  | x :: a, b, h => by
    have hx : p x = true := h x (by simp)
    rw [List.cons_append, List.dropWhile_cons_of_pos hx]
    exact dropWhile_all p a b (fun y hy => h y (by simp [hy]))
theorem dropWhile_head {α : Type} (p : α → Bool) (x : α) (l : List α) (h : p x = false) : (x :: l).dropWhile p = x :: l := by
  rw [List.dropWhile_cons_of_neg (by simp [h])]
theorem trimL_of (a m z : List UInt8) (ha : ∀ x ∈ a, gap8 x = true) (hz : ∀ x ∈ z, gap8 x = true) (hm : m = [] ∨ ∃ (x y : UInt8) (r q : List UInt8), m = x :: r ∧ m = q ++ [y] ∧ gap8 x = false ∧ gap8 y = false) : trimL (a ++ m ++ z) = m := by
  unfold trimL
  rw [List.append_assoc, dropWhile_all gap8 a (m ++ z) ha]
  rcases hm with rfl | ⟨x, y, r, q, e1, e2, hx, hy⟩
  · rw [List.nil_append]
    have := dropWhile_all gap8 z [] hz
    rw [List.append_nil] at this
    rw [this]
    rfl
  · have h1 : (m ++ z).dropWhile gap8 = m ++ z := by rw [e1, List.cons_append]; exact dropWhile_head gap8 x _ hx
    rw [h1, List.reverse_append, dropWhile_all gap8 z.reverse m.reverse (fun u hu => hz u (by simpa using hu))]
    have h2 : m.reverse = y :: q.reverse := by rw [e2]; simp
    rw [h2, dropWhile_head gap8 y _ hy, ← h2, List.reverse_reverse]

/-- The byte at a place. -/
def at8 (s : ByteArray) (k : Nat) : UInt8 := s.data.toList.getD k 0
theorem at8_eq (s : ByteArray) (k : Nat) (h : k < s.size) : s[k] = at8 s k := by
  have h' : k < s.data.toList.length := by simpa using h
  show s.data[k] = _
  simp [at8, List.getD, List.getElem?_eq_getElem h']

theorem extract_list (s : ByteArray) (k t : Nat) : (s.extract k t).data.toList = (s.data.toList.take t).drop k := by
  rw [ByteArray.data_extract, Array.toList_extract]
  simp only [List.extract]
  rw [List.drop_take]
theorem bytes_ext {a b : ByteArray} (h : a.data.toList = b.data.toList) : a = b := by
  cases a; cases b
  congr 1
  exact Array.toList_inj.1 h

theorem trim_of (s : ByteArray) (k t : Nat) (hk : ∀ j, j < k → gap8 (at8 s j) = true) (he : k = s.size ∨ gap8 (at8 s k) = false) (hkt : k ≤ t) (ht : t ≤ s.size)
    (hz : ∀ j, t ≤ j → j < s.size → gap8 (at8 s j) = true) (hf : t = k ∨ gap8 (at8 s (t - 1)) = false) : s.extract k t = trimB s := by
  apply bytes_ext
  rw [extract_list]
  show _ = trimL s.data.toList
  have hl : s.data.toList.length = s.size := by show _ = s.data.size; simp
  generalize hL : s.data.toList = l at *
  have hat : ∀ j, at8 s j = l.getD j 0 := by intro j; unfold at8; rw [hL]
  have e : l = l.take k ++ (l.take t).drop k ++ l.drop t := by
    have h1 : l.take k = (l.take t).take k := by rw [List.take_take]; congr 1; omega
    rw [h1, List.take_append_drop, List.take_append_drop]
  have hA : ∀ x ∈ l.take k, gap8 x = true := by
    intro x hx
    obtain ⟨j, hj, rfl⟩ := List.mem_iff_getElem.1 hx
    have hj' : j < k ∧ j < l.length := by simp at hj; omega
    have := hk j hj'.1
    rw [hat] at this
    simpa [List.getD, List.getElem?_eq_getElem hj'.2] using this
  have hZ : ∀ x ∈ l.drop t, gap8 x = true := by
    intro x hx
    obtain ⟨j, hj, rfl⟩ := List.mem_iff_getElem.1 hx
    have hj' : t + j < l.length := by simp at hj; omega
    have := hz (t + j) (by omega) (by omega)
    rw [hat] at this
    simpa [List.getD, List.getElem?_eq_getElem hj'] using this
  have hM : (l.take t).drop k = [] ∨ ∃ (x y : UInt8) (r q : List UInt8), (l.take t).drop k = x :: r ∧ (l.take t).drop k = q ++ [y] ∧ gap8 x = false ∧ gap8 y = false := by
    rcases Nat.lt_or_ge k t with h | h
    · right
      have h1 : k < (l.take t).length := by simp; omega
      have h2 : t - 1 < l.length := by omega
      refine ⟨(l.take t)[k], l[t - 1], (l.take t).drop (k + 1), (l.take (t - 1)).drop k, List.drop_eq_getElem_cons h1, ?_, ?_, ?_⟩
      · have e2 : l.take t = l.take (t - 1) ++ [l[t - 1]] := by
          have := List.take_succ_eq_append_getElem h2
          rw [show t - 1 + 1 = t from by omega] at this
          exact this
        rw [e2, List.drop_append_of_le_length (by simp; omega)]
      · rcases he with he | he
        · omega
        · rw [hat] at he
          have h3 : k < l.length := by omega
          simpa [List.getD, List.getElem?_eq_getElem h3, List.getElem_take] using he
      · rcases hf with hf | hf
        · omega
        · rw [hat] at hf
          simpa [List.getD, List.getElem?_eq_getElem h2] using hf
    · left
      apply List.drop_eq_nil_of_le
      simp
      omega
  conv => rhs; rw [e]
  exact (trimL_of _ _ _ hA hZ hM).symm
theorem trimB_size (s : ByteArray) : (trimB s).size ≤ s.size := by
  show (trimL s.data.toList).toArray.size ≤ s.data.size
  have h1 : ∀ (l : List UInt8), (l.dropWhile gap8).length ≤ l.length := fun l => (List.dropWhile_sublist gap8).length_le
  have := h1 s.data.toList
  have h2 := h1 (s.data.toList.dropWhile gap8).reverse
  unfold trimL
  simp at *
  omega
theorem all_succ {p : Nat → Prop} {k : Nat} (h : ∀ j, j < k → p j) (hk : p k) : ∀ j, j < k + 1 → p j := by
  intro j hj
  rcases Nat.lt_or_ge j k with h1 | h1
  · exact h j h1
  · obtain rfl : j = k := by omega
    exact hk
theorem all_pred {p : Nat → Prop} {u n : Nat} (h : ∀ j, u + 1 ≤ j → j < n → p j) (hk : p u) : ∀ j, u ≤ j → j < n → p j := by
  intro j hj hn
  rcases Nat.lt_or_ge u j with h1 | h1
  · exact h j h1 hn
  · obtain rfl : j = u := by omega
    exact hk
theorem u8_beq (a b : UInt8) : ((a.toNat : Int) == (b.toNat : Int)) = (a == b) := by
  rw [Bool.eq_iff_iff, beq_iff_eq, beq_iff_eq]
  constructor
  · intro h; exact UInt8.toNat_inj.1 (by omega)
  · intro h; rw [h]
end Go.Proofs.YtffjpidjhcnnmabDoor
namespace Go.Proofs.YtffjpidjhcnnmabDoor
set_option linter.unusedVariables false
set_option linter.unusedSimpArgs false
open Go.RowKit
def curV (s : ByteArray) (n : Int) : Value := .agg #[.string s, .int .i64 n]
def curOk (s : ByteArray) (n : Int) : Bool := decide (0 ≤ n) && decide (n ≤ (s.size : Int))
theorem curOk_iff {s : ByteArray} {n : Int} : curOk s n = true ↔ 0 ≤ n ∧ n ≤ (s.size : Int) := by unfold curOk; simp
theorem curOk_neg {s : ByteArray} {n : Int} (h : ¬ 0 ≤ n) : curOk s n = false := by simp [curOk, h]
theorem curOk_pos {s : ByteArray} {n : Int} (h : 0 ≤ n) : curOk s n = decide (n ≤ (s.size : Int)) := by simp [curOk, h]
def eolP (n : Int) : Bool := n == 13 || n == 10
def eol8 (b : UInt8) : Bool := eolP (b.toNat : Int)
/-- How many bytes stand ahead of the first 13 or 10 from k on. -/
def eolLen (s : ByteArray) (k : Nat) : Nat := ((s.data.toList.drop k).takeWhile fun b => !eol8 b).length
theorem takeWhile_len {α : Type} (p : α → Bool) : ∀ (l : List α) (m : Nat), m ≤ l.length → (∀ j (h : j < l.length), j < m → p l[j] = true) → (m = l.length ∨ ∃ h : m < l.length, p l[m] = false) → (l.takeWhile p).length = m
  | [], m, hm, _, _ => by simp at hm ⊢; omega
  | a :: l, 0, _, _, hend => by
    rcases hend with h | ⟨h, hp⟩
    · simp at h
    · simp at hp
      simp [hp]
  | a :: l, m + 1, hm, hall, hend => by
    have ha : p a = true := hall 0 (by simp) (by omega)
    rw [List.takeWhile_cons_of_pos ha, List.length_cons]
    congr 1
    refine takeWhile_len p l m (by simpa using hm) (fun j h hj => hall (j + 1) (by simpa using h) (by omega)) ?_
    rcases hend with h | ⟨h, hp⟩
    · left; simpa using h
    · right; exact ⟨by simpa using h, hp⟩
theorem eolLen_of (s : ByteArray) (k m : Nat) (hkm : k + m ≤ s.size) (hall : ∀ j, j < m → eol8 (at8 s (k + j)) = false) (hend : k + m = s.size ∨ eol8 (at8 s (k + m)) = true) : eolLen s k = m := by
  unfold eolLen
  have hl : (s.data.toList.drop k).length = s.size - k := by rw [List.length_drop, len_data]
  have hg : ∀ j (h : j < (s.data.toList.drop k).length), (s.data.toList.drop k)[j] = at8 s (k + j) := by
    intro j h
    have h' : k + j < s.data.toList.length := by rw [List.length_drop] at h; omega
    rw [List.getElem_drop]
    simp [at8, List.getD, List.getElem?_eq_getElem h']
  refine takeWhile_len _ _ m (by omega) (fun j h hj => by rw [hg j h, hall j hj]; rfl) ?_
  rcases hend with h | h
  · left; omega
  · by_cases e : k + m = s.size
    · left; omega
    · right; exact ⟨by omega, by rw [hg m (by omega), h]; rfl⟩
theorem eolLen_le (s : ByteArray) (k : Nat) (hk : k ≤ s.size) : k + eolLen s k ≤ s.size := by
  unfold eolLen
  have h1 := (List.takeWhile_sublist (l := s.data.toList.drop k) fun b => !eol8 b).length_le
  rw [List.length_drop, len_data] at h1
  omega
theorem eolP_iff {n : Int} : eolP n = true ↔ n = 13 ∨ n = 10 := by unfold eolP; simp
theorem eolP_no {n : Int} : eolP n = false ↔ n ≠ 13 ∧ n ≠ 10 := by unfold eolP; simp

/-- What TakeLine answers at a cursor that stands in its text: the line, the cursor's text and place, the code. -/
def tlE (s : ByteArray) (k : Nat) : Nat := k + eolLen s k
def tlC (s : ByteArray) (k : Nat) : Int := if tlE s k = s.size then 1 else if (at8 s (tlE s k)).toNat = 10 then 2 else if tlE s k + 1 = s.size then 1 else if (at8 s (tlE s k + 1)).toNat = 10 then 0 else 2
def tlL (s : ByteArray) (k : Nat) : ByteArray := if tlC s k = 0 then s.extract k (tlE s k) else ⟨#[]⟩
def tlS (s : ByteArray) (k : Nat) : ByteArray := if tlC s k = 0 then s else ⟨#[]⟩
def tlN (s : ByteArray) (k : Nat) : Int := if tlC s k = 0 then (tlE s k : Int) + 2 else 0
def curZ : Value := .agg #[.string ⟨#[]⟩, .int .i64 0]
def tlV (s : ByteArray) (k : Nat) : Value := .tuple #[.string (tlL s k), .agg #[.string (tlS s k), .int .i64 (tlN s k)], .int .i64 (tlC s k)]
theorem tlV_short0 {s : ByteArray} {k : Nat} (h : tlE s k = s.size) : tlV s k = .tuple #[.string ⟨#[]⟩, curZ, .int .i64 1] := by
  have : tlC s k = 1 := by unfold tlC; rw [if_pos h]
  simp [tlV, tlL, tlS, tlN, this, curZ]
theorem tlV_bad {s : ByteArray} {k : Nat} (h : tlC s k = 2) : tlV s k = .tuple #[.string ⟨#[]⟩, curZ, .int .i64 2] := by
  simp [tlV, tlL, tlS, tlN, h, curZ]
theorem tlV_short {s : ByteArray} {k : Nat} (h : tlC s k = 1) : tlV s k = .tuple #[.string ⟨#[]⟩, curZ, .int .i64 1] := by
  simp [tlV, tlL, tlS, tlN, h, curZ]
theorem tlV_ok {s : ByteArray} {k : Nat} (h : tlC s k = 0) : tlV s k = .tuple #[.string (s.extract k (tlE s k)), .agg #[.string s, .int .i64 ((tlE s k : Int) + 2)], .int .i64 0] := by
  simp [tlV, tlL, tlS, tlN, h]
theorem tlC_10 {s : ByteArray} {k : Nat} (h : tlE s k < s.size) (h1 : (at8 s (tlE s k)).toNat = 10) : tlC s k = 2 := by
  unfold tlC; rw [if_neg (by omega), if_pos h1]
theorem tlC_13end {s : ByteArray} {k : Nat} (h : tlE s k + 1 = s.size) (h1 : (at8 s (tlE s k)).toNat ≠ 10) : tlC s k = 1 := by
  unfold tlC; rw [if_neg (by omega), if_neg h1, if_pos h]
theorem tlC_ok {s : ByteArray} {k : Nat} (h : tlE s k + 1 < s.size) (h1 : (at8 s (tlE s k)).toNat ≠ 10) (h2 : (at8 s (tlE s k + 1)).toNat = 10) : tlC s k = 0 := by
  unfold tlC; rw [if_neg (by omega), if_neg h1, if_neg (by omega), if_pos h2]
theorem tlC_no {s : ByteArray} {k : Nat} (h : tlE s k + 1 < s.size) (h1 : (at8 s (tlE s k)).toNat ≠ 10) (h2 : (at8 s (tlE s k + 1)).toNat ≠ 10) : tlC s k = 2 := by
  unfold tlC; rw [if_neg (by omega), if_neg h1, if_neg (by omega), if_neg h2]
end Go.Proofs.YtffjpidjhcnnmabDoor
namespace Go.Proofs.YtffjpidjhcnnmabDoor
set_option linter.unusedVariables false
set_option linter.unusedSimpArgs false
open Go.RowKit
def lineAt (s : ByteArray) (k : Nat) : ByteArray := s.extract k (tlE s k)
theorem tlC_range (s : ByteArray) (k : Nat) : tlC s k = 0 ∨ tlC s k = 1 ∨ tlC s k = 2 := by
  unfold tlC
  split
  · simp
  · split
    · simp
    · split
      · simp
      · split <;> simp
theorem tlE_le {s : ByteArray} {k : Nat} (hk : k ≤ s.size) : tlE s k ≤ s.size := eolLen_le s k hk
theorem tlE_ge (s : ByteArray) (k : Nat) : k ≤ tlE s k := Nat.le_add_right _ _
theorem tlE_ok {s : ByteArray} {k : Nat} (hk : k ≤ s.size) (h : tlC s k = 0) : tlE s k + 2 ≤ s.size := by
  have h1 := tlE_le hk
  unfold tlC at h
  split at h
  · cases h
  · split at h
    · cases h
    · split at h
      · cases h
      · omega
theorem lineAt_size {s : ByteArray} {k : Nat} (hk : k ≤ s.size) : (lineAt s k).size = tlE s k - k := by
  have h1 := tlE_le hk
  unfold lineAt
  rw [ByteArray.size_extract]
  omega
theorem tlV_not {s : ByteArray} {k : Nat} (h : tlC s k ≠ 0) : ∃ c : Int, (c != 0) = true ∧ tlV s k = .tuple #[.string ⟨#[]⟩, curZ, .int .i64 c] := by
  rcases tlC_range s k with h1 | h1 | h1
  · exact absurd h1 h
  · exact ⟨1, rfl, tlV_short h1⟩
  · exact ⟨2, rfl, tlV_bad h1⟩
theorem lenE_nil {s : ByteArray} {k : Nat} (hk : k ≤ s.size) : (lineAt s k).toList.isEmpty = decide (tlE s k = k) := by
  have hz := lineAt_size hk
  have hg := tlE_ge s k
  have hl : (lineAt s k).toList.length = tlE s k - k := by rw [ByteArray.toList_eq, len_data, hz]
  cases h : (lineAt s k).toList with
  | nil => rw [h] at hl; simp at hl; simp; omega
  | cons a r => rw [h] at hl; simp at hl; simp; omega
end Go.Proofs.YtffjpidjhcnnmabDoor
namespace Go.Proofs.YtffjpidjhcnnmabDoor
set_option linter.unusedVariables false
set_option linter.unusedSimpArgs false
open Go.RowKit
/-- Where the first byte c stands, or -1. -/
def idxS (c : UInt8) (s : ByteArray) : Int := Lib.indexByte s.data.toList c
theorem idxS_some {c : UInt8} {s : ByteArray} {i : Nat} (h : idxS c s = (i : Int)) : i < s.size ∧ at8 s i = c ∧ ∀ j, j < i → at8 s j ≠ c := by
  obtain ⟨h1, h2⟩ := Lib.indexByte_some h
  have hi : i < s.data.toList.length := (List.getElem?_eq_some_iff.1 h1).1
  have hi' : i < s.size := by rw [len_data] at hi; exact hi
  refine ⟨hi', by unfold at8; rw [List.getD, h1]; rfl, fun j hj he => h2 j hj ?_⟩
  have hj' : j < s.data.toList.length := by rw [len_data]; omega
  unfold at8 at he
  rw [List.getD, List.getElem?_eq_getElem hj'] at he
  rw [List.getElem?_eq_getElem hj']
  simpa using he
theorem idxS_none {c : UInt8} {s : ByteArray} (h : idxS c s = -1) : ∀ j, j < s.size → at8 s j ≠ c := by
  intro j hj he
  have hj' : j < s.data.toList.length := by rw [len_data]; omega
  refine Lib.indexByte_none h j ?_
  unfold at8 at he
  rw [List.getD, List.getElem?_eq_getElem hj'] at he
  rw [List.getElem?_eq_getElem hj']
  simpa using he
theorem idxS_cases (c : UInt8) (s : ByteArray) : idxS c s = -1 ∨ ∃ i : Nat, idxS c s = (i : Int) ∧ i < s.size := by
  have h := Lib.indexByte_ge s.data.toList c
  by_cases h1 : idxS c s = -1
  · exact .inl h1
  · right
    have h2 : -1 ≤ idxS c s := h
    have h3 : idxS c s = ((idxS c s).toNat : Int) := by omega
    exact ⟨(idxS c s).toNat, h3, (idxS_some h3).1⟩
theorem idxS_of {c : UInt8} {s : ByteArray} {i : Nat} (h1 : i < s.size) (h2 : at8 s i = c) (h3 : ∀ j, j < i → at8 s j ≠ c) : idxS c s = (i : Int) := by
  rcases idxS_cases c s with h | ⟨k, hk, _⟩
  · exact absurd h2 (idxS_none h i h1)
  · obtain ⟨g1, g2, g3⟩ := idxS_some hk
    rcases Nat.lt_trichotomy k i with h | h | h
    · exact absurd g2 (h3 k h)
    · rw [hk, h]
    · exact absurd h2 (g3 i h)
theorem idxS_miss {c : UInt8} {s : ByteArray} (h : ∀ j, j < s.size → at8 s j ≠ c) : idxS c s = -1 := by
  rcases idxS_cases c s with h1 | ⟨k, hk, _⟩
  · exact h1
  · obtain ⟨g1, g2, _⟩ := idxS_some hk
    exact absurd g2 (h k g1)
theorem idxS_B (c : UInt8) (s : ByteArray) : Lib.indexB s ⟨#[c]⟩ = idxS c s := by
  show Lib.index s.data.toList [c] = _
  exact Lib.index_one _ _
/-- How many there are, and the pieces between them. -/
def cntS (c : UInt8) (s : ByteArray) : Nat := Lib.countB s ⟨#[c]⟩
def splS (c : UInt8) (s : ByteArray) : List ByteArray := Lib.splitB ⟨#[c]⟩ 0 (cntS c s) s
theorem splS_none {c : UInt8} {s : ByteArray} (h : idxS c s = -1) : cntS c s = 0 ∧ splS c s = [s] := by
  have h1 : cntS c s = 0 := Lib.countB_miss s _ (by rw [idxS_B]; exact h)
  exact ⟨h1, by unfold splS; rw [h1]; rfl⟩
theorem splS_some {c : UInt8} {s : ByteArray} {i : Nat} (h : idxS c s = (i : Int)) : cntS c s = 1 + cntS c (s.extract (i + 1) s.size) ∧ splS c s = s.extract 0 i :: splS c (s.extract (i + 1) s.size) := by
  have h0 : Lib.indexB s ⟨#[c]⟩ = (i : Int) := by rw [idxS_B]; exact h
  have h1 := Lib.countB_hit s ⟨#[c]⟩ i (Nat.le_refl _) h0
  have e : (⟨#[c]⟩ : ByteArray).size = 1 := rfl
  rw [e] at h1
  refine ⟨h1, ?_⟩
  unfold splS
  rw [show cntS c s = 1 + cntS c (s.extract (i + 1) s.size) from h1, Nat.add_comm, Lib.splitB_hit _ _ _ _ i h0, e, Nat.add_zero]
theorem splS_len (c : UInt8) (s : ByteArray) : (splS c s).length = cntS c s + 1 := Lib.splitB_all _ (Nat.le_refl _) 0 _ s rfl
theorem splS_cnt (c : UInt8) (s : ByteArray) : cntS c s ≤ s.size := Lib.countB_le ⟨#[c]⟩ (Nat.le_refl _) s.size s (Nat.le_refl _)
theorem splS_ne (c : UInt8) (s : ByteArray) : splS c s ≠ [] := by
  intro h
  have := splS_len c s
  rw [h] at this
  simp at this
theorem at8_extS {s : ByteArray} {a b j : Nat} (hb : b ≤ s.size) (hj : a + j < b) : at8 (s.extract a b) j = at8 s (a + j) := by
  unfold at8
  rw [Lib.extract_data]
  simp only [List.getD]
  rw [List.getElem?_take_of_lt (by omega), List.getElem?_drop]
/-- The pieces and what parts them make no more than the text. -/
def sumS (l : List ByteArray) : Nat := (l.map ByteArray.size).sum
theorem splS_sum (c : UInt8) : ∀ (n : Nat) (s : ByteArray), s.size ≤ n → sumS (splS c s) + cntS c s = s.size
  | n, s, hn => by
    rcases idxS_cases c s with h | ⟨i, h, hi⟩
    · obtain ⟨h1, h2⟩ := splS_none h
      rw [h1, h2]; simp [sumS]
    · obtain ⟨h1, h2⟩ := splS_some h
      cases n with
      | zero => omega
      | succ n =>
        have e : (s.extract (i + 1) s.size).size = s.size - (i + 1) := by rw [ByteArray.size_extract]; omega
        have e0 : (s.extract 0 i).size = i := by rw [ByteArray.size_extract]; omega
        have ih := splS_sum c n (s.extract (i + 1) s.size) (by omega)
        rw [h1, h2]
        have : sumS (s.extract 0 i :: splS c (s.extract (i + 1) s.size)) = i + sumS (splS c (s.extract (i + 1) s.size)) := by simp [sumS, e0]
        omega
theorem sumS_mem {l : List ByteArray} {x : ByteArray} (h : x ∈ l) : x.size ≤ sumS l := by
  induction l with
  | nil => cases h
  | cons y r ih =>
    have e : sumS (y :: r) = y.size + sumS r := by simp [sumS]
    rcases List.mem_cons.1 h with rfl | h
    · omega
    · have := ih h; omega
theorem splS_mem {c : UInt8} {s x : ByteArray} (h : x ∈ splS c s) : x.size ≤ s.size := by
  have h1 := sumS_mem h
  have h2 := splS_sum c s.size s (Nat.le_refl _)
  omega
/-- Cut by one loop that goes on byte by byte. -/
theorem splS_step {c : UInt8} {s : ByteArray} {f i : Nat} (hf : f ≤ i) (hi : i < s.size) (h : at8 s i = c) (h0 : ∀ j, f ≤ j → j < i → at8 s j ≠ c) : splS c (s.extract f s.size) = s.extract f i :: splS c (s.extract (i + 1) s.size) := by
  have e : (s.extract f s.size).size = s.size - f := by rw [ByteArray.size_extract]; omega
  have hx : idxS c (s.extract f s.size) = ((i - f : Nat) : Int) := by
    refine idxS_of (by omega) ?_ ?_
    · rw [at8_extS (Nat.le_refl _) (by omega), show f + (i - f) = i by omega]; exact h
    · intro j hj
      rw [at8_extS (Nat.le_refl _) (by omega)]
      exact h0 _ (by omega) (by omega)
  rw [(splS_some hx).2, e, ByteArray.extract_extract, ByteArray.extract_extract]
  congr 2
  · congr 1 <;> omega
  · congr 1 <;> omega
theorem splS_end {c : UInt8} {s : ByteArray} {f : Nat} (h0 : ∀ j, f ≤ j → j < s.size → at8 s j ≠ c) : splS c (s.extract f s.size) = [s.extract f s.size] := by
  refine (splS_none (idxS_miss ?_)).2
  intro j hj
  have e : (s.extract f s.size).size = s.size - f := by rw [ByteArray.size_extract]; omega
  rw [at8_extS (Nat.le_refl _) (by omega)]
  exact h0 _ (by omega) (by omega)
/-- The texts with a byte ahead of each. -/
def tailS (c : UInt8) (l : List ByteArray) : List UInt8 := Lib.joinTail [c] (l.map (·.data.toList))
def joinS (c : UInt8) (l : List ByteArray) : ByteArray := ⟨(Lib.join (l.map (·.data.toList)) [c]).toArray⟩
theorem tailS_nil (c : UInt8) : tailS c [] = [] := rfl
theorem tailS_cons (c : UInt8) (x : ByteArray) (r : List ByteArray) : tailS c (x :: r) = c :: (x.data.toList ++ tailS c r) := by simp [tailS, Lib.joinTail]
theorem tailS_snoc (c : UInt8) (x : ByteArray) (l : List ByteArray) : tailS c (l ++ [x]) = tailS c l ++ c :: x.data.toList := by simp [tailS, Lib.joinTail]
theorem joinS_tail (c : UInt8) (x : ByteArray) (r : List ByteArray) : c :: (joinS c (x :: r)).data.toList = tailS c (x :: r) := by
  rw [tailS_cons]
  show c :: Lib.join ((x :: r).map (·.data.toList)) [c] = _
  rw [List.map_cons, Lib.join_cons]
  rfl
theorem tailS_len (c : UInt8) (l : List ByteArray) : (tailS c l).length = l.length + sumS l := by
  induction l with
  | nil => rfl
  | cons x r ih =>
    have e : sumS (x :: r) = x.size + sumS r := by simp [sumS]
    rw [tailS_cons, List.length_cons, List.length_append, ih, len_data, List.length_cons, e]; omega
end Go.Proofs.YtffjpidjhcnnmabDoor
namespace Go.Proofs.YtffjpidjhcnnmabDoor
set_option linter.unusedVariables false
set_option linter.unusedSimpArgs false
open Go.RowKit
theorem below_a1 (w : World) (o : Obj) : Below w.heap.size w (w.alloc o) := (Below.refl _ w).alloc (Nat.le_refl _) o
theorem below_a2 (w : World) (o o' : Obj) : Below w.heap.size w ((w.alloc o).alloc o') := (below_a1 w o).alloc (by simp) o'
theorem below_a3 (w : World) (o o' o'' : Obj) : Below w.heap.size w (((w.alloc o).alloc o').alloc o'') := (below_a2 w o o').alloc (by simp; omega) o''
theorem below_then {w w1 w2 : World} (h : Below w.heap.size w w1) (k : Below w1.heap.size w1 w2) : Below w.heap.size w w2 := h.trans (k.mono h.size)
theorem bcell2 {W w1 : World} (hb : Below W.heap.size W w1) : (∀ b o, b < W.heap.size → w1.cell? ⟨b, o, none⟩ = W.cell? ⟨b, o, none⟩) ∧ (∀ b o, b < W.heap.size → w1.frozen? ⟨b, o, none⟩ = W.frozen? ⟨b, o, none⟩) :=
  ⟨fun b o h => hb.cell (p := ⟨b, o, none⟩) h, fun b o h => hb.frozen (p := ⟨b, o, none⟩) h⟩
theorem hideB2 {p : Prop} (h : p) : Hid p := h
def withinB (n a b : Int) : Bool := decide (a ≤ n) && decide (n ≤ b)
theorem within_iff {n a b : Int} : withinB n a b = true ↔ a ≤ n ∧ n ≤ b := by unfold withinB; simp
set_option maxHeartbeats 400000 in
theorem within_any (n a b : Int) (w : World) :
    Calls Tryd.prog 82 #[.int .i64 n, .int .i64 a, .int .i64 b] w fun e w' => e = .returned (.bool (withinB n a b)) ∧ w' = w := by
  by_cases h : a ≤ n
  · by_cases h' : n ≤ b
    · rw [show withinB n a b = true by simp [withinB, h, h']]
      go_enter Tryd.func82, Tryd.ntmps82
      go_wp2
      go_ret
      exact ⟨rfl, rfl⟩
    · rw [show withinB n a b = false by simp [withinB, h, h']]
      go_enter Tryd.func82, Tryd.ntmps82
      go_wp2
      go_ret
      exact ⟨rfl, rfl⟩
  · rw [show withinB n a b = false by simp [withinB, h]]
    go_enter Tryd.func82, Tryd.ntmps82
    go_wp2
    go_ret
    exact ⟨rfl, rfl⟩
end Go.Proofs.YtffjpidjhcnnmabDoor
namespace Go.Proofs
open Go.Shelf
def Tryd.lays219_ren : Go.Shelf.Ren := ⟨fun | 219 => 73 | 217 => 78 | 225 => 79 | 224 => 80 | 267 => 81 | 266 => 85 | 314 => 86 | n => n, fun | 9 => 9 | 3 => 3 | 4 => 4 | 5 => 5 | 46 => 80 | 146 => 84 | 51 => 83 | n => n, fun | 1 => 0 | n => n⟩
theorem Tryd.lays219 : Go.Proofs.Lays.n219 Tryd.prog Tryd.lays219_ren := {
  mixed := by kernel_rfl
  f217 := Tryd.func78.trans (congrArg some (by kernel_rfl))
  f219 := Tryd.func73.trans (congrArg some (by kernel_rfl))
  f224 := Tryd.func80.trans (congrArg some (by kernel_rfl))
  f225 := Tryd.func79.trans (congrArg some (by kernel_rfl))
  f266 := Tryd.func85.trans (congrArg some (by kernel_rfl))
  f267 := Tryd.func81.trans (congrArg some (by kernel_rfl))
  f314 := Tryd.func86.trans (congrArg some (by kernel_rfl))
  t3 := Tryd.underlying3
  a3 := Tryd.isAgg3
  z3 := Tryd.sizeOf3
  v3 := Tryd.zeroValue3
  t4 := Tryd.underlying4
  a4 := Tryd.isAgg4
  z4 := Tryd.sizeOf4
  v4 := Tryd.zeroValue4
  t5 := Tryd.underlying5
  a5 := Tryd.isAgg5
  z5 := Tryd.sizeOf5
  v5 := Tryd.zeroValue5
  t9 := Tryd.underlying9
  a9 := Tryd.isAgg9
  z9 := Tryd.sizeOf9
  v9 := Tryd.zeroValue9
  t46 := Tryd.underlying80
  a46 := Tryd.isAgg80
  z46 := Tryd.sizeOf80
  v46 := Tryd.zeroValue80
  t51 := Tryd.underlying83
  a51 := Tryd.isAgg83
  z51 := Tryd.sizeOf83
  v51 := Tryd.zeroValue83
  t146 := Tryd.underlying84
  a146 := Tryd.isAgg84
  z146 := Tryd.sizeOf84
  v146 := Tryd.zeroValue84
  g1 := by kernel_rfl }
end Go.Proofs
namespace Go.Proofs.YtffjpidjhcnnmabDoor
set_option linter.unusedVariables false
set_option linter.unusedSimpArgs false
open Go.RowKit
/-- A text up to the first byte c, or whole. -/
def uptS (c : UInt8) (s : ByteArray) : ByteArray := if idxS c s < 0 then s else s.extract 0 (idxS c s).toNat
theorem uptS_none {c : UInt8} {s : ByteArray} (h : idxS c s = -1) : uptS c s = s := by unfold uptS; rw [h]; rfl
theorem uptS_some {c : UInt8} {s : ByteArray} {i : Nat} (h : idxS c s = (i : Int)) : uptS c s = s.extract 0 i := by
  unfold uptS; rw [h, if_neg (by omega), Int.toNat_natCast]
set_option maxHeartbeats 1000000 in
theorem l6uptoS_any (s : ByteArray) (c : UInt8) (w : World) (hs : s.size ≤ maxLen) :
    Calls Tryd.prog 10 #[.string s, .int .u8 (c.toNat : Int)] w fun e w' => e = .returned (.string (uptS c s)) ∧ w' = w := by
  unfold maxLen at hs
  generalize hR : uptS c s = R
  have HR := hideB2 hR
  clear hR
  go_enter Tryd.func10, Tryd.ntmps10
  go_wp2
  go_loop [5] (fun i => ∃ k : Nat, k ≤ s.size ∧ i = .int .i64 k ∧ ∀ j, j < k → at8 s j ≠ c) (fun i => s.size - (intOf i).toNat)
  case atStart => exact ⟨0, Nat.zero_le _, rfl, fun j hj => by omega⟩
  case round =>
    obtain ⟨k, hk, rfl, hall⟩ := hrel
    have HA := hideB2 hall
    clear hall
    by_cases hlt : k < s.size
    · have hat : s[k] = at8 s k := at8_eq s k hlt
      have hcc : ((s[k].toNat : Int) == (c.toNat : Int)) = (at8 s k == c) := by rw [hat]; exact u8_beq _ _
      clear hat
      cases hq : (at8 s k == c)
      · rw [hq] at hcc
        have HQ := hideB2 (show at8 s k ≠ c from beq_eq_false_iff_ne.1 hq)
        clear hq
        go_wp2
        go_round
        case rel => exact ⟨k + 1, by omega, by go_num, all_succ HA.out HQ.out⟩
        case measure => simp [intOf]; omega
      · rw [hq] at hcc
        have HF := hideB2 (show R = s.extract 0 k by rw [← HR.out]; exact uptS_some (idxS_of hlt (beq_iff_eq.1 hq) HA.out))
        clear hq
        have c1 : (k : Int) ≤ (s.size : Int) := by omega
        go_wp2
        go_ret
        exact ⟨ret_str HF.out, rfl⟩
    · have HF := hideB2 (show R = s by rw [← HR.out]; exact uptS_none (idxS_miss (fun j hj => HA.out j (by omega))))
      go_wp2
      go_ret
      exact ⟨ret_str HF.out, rfl⟩
/-- What stands behind the first byte c, and is there one? -/
def bhS (c : UInt8) (s : ByteArray) : ByteArray := if idxS c s < 0 then ⟨#[]⟩ else s.extract ((idxS c s).toNat + 1) s.size
def hasS (c : UInt8) (s : ByteArray) : Bool := decide (0 ≤ idxS c s)
theorem cut_none {c : UInt8} {s : ByteArray} (h : idxS c s = -1) : uptS c s = s ∧ bhS c s = ⟨#[]⟩ ∧ hasS c s = false := by
  refine ⟨uptS_none h, ?_, ?_⟩
  · unfold bhS; rw [h]; rfl
  · unfold hasS; rw [h]; rfl
theorem cut_some {c : UInt8} {s : ByteArray} {i : Nat} (h : idxS c s = (i : Int)) : uptS c s = s.extract 0 i ∧ bhS c s = s.extract (i + 1) s.size ∧ hasS c s = true := by
  refine ⟨uptS_some h, ?_, ?_⟩
  · unfold bhS; rw [h, if_neg (by omega), Int.toNat_natCast]
  · unfold hasS; rw [h, decide_eq_true (by omega)]
theorem uptS_size (c : UInt8) (s : ByteArray) : (uptS c s).size ≤ s.size := by
  rcases idxS_cases c s with h | ⟨i, h, hi⟩
  · rw [uptS_none h]; exact Nat.le_refl _
  · rw [uptS_some h, ByteArray.size_extract]; omega
theorem bhS_size (c : UInt8) (s : ByteArray) : (bhS c s).size ≤ s.size := by
  rcases idxS_cases c s with h | ⟨i, h, hi⟩
  · rw [(cut_none h).2.1]; show (0 : Nat) ≤ _; omega
  · rw [(cut_some h).2.1, ByteArray.size_extract]; omega
theorem cut_len (c : UInt8) (s : ByteArray) : hasS c s = decide ((uptS c s).size < s.size) ∧ bhS c s = if (uptS c s).size < s.size then s.extract ((uptS c s).size + 1) s.size else ⟨#[]⟩ := by
  rcases idxS_cases c s with h | ⟨i, h, hi⟩
  · obtain ⟨a1, a2, a3⟩ := cut_none h
    rw [a1, a2, a3, decide_eq_false (Nat.lt_irrefl _), if_neg (Nat.lt_irrefl _)]
    exact ⟨rfl, rfl⟩
  · obtain ⟨a1, a2, a3⟩ := cut_some h
    have e : (s.extract 0 i).size = i := by rw [ByteArray.size_extract]; omega
    rw [a1, a2, a3, e, decide_eq_true hi, if_pos hi]
    exact ⟨rfl, rfl⟩
set_option maxHeartbeats 1000000 in
theorem CutS0_any (s : ByteArray) (c : UInt8) (w : World) (hs : s.size ≤ maxLen) :
    Calls Tryd.prog 61 #[.string s, .string ⟨#[c]⟩] w fun e w' => e = .returned (.tuple #[.string (uptS c s), .string (bhS c s), .bool (hasS c s)]) ∧ Below w.heap.size w w' := by
  unfold maxLen at hs
  have HI := hideB2 (fun W => Any.stringslite_Index_one Tryd.lays219 s c W)
  have hd1 : (⟨#[c]⟩ : ByteArray).size = 1 := rfl
  rcases idxS_cases c s with h | ⟨i, h, hi⟩
  · obtain ⟨a1, a2, a3⟩ := cut_none h
    rw [a1, a2, a3]
    rw [show Lib.indexByte s.data.toList c = -1 from h] at HI
    generalize (⟨#[c]⟩ : ByteArray) = D at *
    clear a1 a2 a3 h
    go_enter Tryd.func61, Tryd.ntmps61
    go_wp2_with (go_at_call 73; refine (HI.out _).mono ?_; rintro e w' ⟨rfl, rfl⟩)
    go_ret3
    exact ⟨rfl, Below.refl _ _⟩
  · obtain ⟨a1, a2, a3⟩ := cut_some h
    rw [a1, a2, a3]
    rw [show Lib.indexByte s.data.toList c = (i : Int) from h] at HI
    generalize (⟨#[c]⟩ : ByteArray) = D at *
    have e1 : IntKind.i64.wrap ((i : Int) + 1) = (i : Int) + 1 := by rw [IntKind.wrap_i64]; omega
    have c0 : (0 : Int) ≤ (i : Int) := by omega
    have c1 : (i : Int) ≤ (s.size : Int) := by omega
    have c2 : (0 : Int) ≤ (i : Int) + 1 := by omega
    have c3 : (i : Int) + 1 ≤ (s.size : Int) := by omega
    have hd2 : (D.size : Int) = 1 := by omega
    clear a1 a2 a3 h
    go_enter Tryd.func61, Tryd.ntmps61
    go_wp2_with (go_at_call 73; refine (HI.out _).mono ?_; rintro e w' ⟨rfl, rfl⟩)
    go_region
    go_wp2
    go_ret3
    exact ⟨rfl, (Below.refl _ _).drew⟩
set_option maxHeartbeats 1000000 in
theorem CutS_any (s : ByteArray) (c : UInt8) (w : World) (hs : s.size ≤ maxLen) :
    Calls Tryd.prog 48 #[.string s, .string ⟨#[c]⟩] w fun e w' => e = .returned (.tuple #[.string (uptS c s), .string (bhS c s), .bool (hasS c s)]) ∧ Below w.heap.size w w' := by
  have HC := hideB2 (fun W => CutS0_any s c W hs)
  generalize uptS c s = x at *
  generalize bhS c s = y at *
  generalize hasS c s = z at *
  generalize (⟨#[c]⟩ : ByteArray) = D at *
  go_enter Tryd.func48, Tryd.ntmps48
  go_wp2_with (go_at_call 61; refine (HC.out _).mono ?_; rintro e w' ⟨rfl, hb⟩)
  go_ret3
  exact ⟨rfl, hb⟩
end Go.Proofs.YtffjpidjhcnnmabDoor
namespace Go.Proofs.YtffjpidjhcnnmabDoor
set_option linter.unusedVariables false
set_option linter.unusedSimpArgs false
open Go.RowKit

def plainP (n : Int) : Bool := n == 9 || (decide (32 ≤ n) && n != 127)
def plain8 (b : UInt8) : Bool := plainP (b.toNat : Int)
def quoP (n : Int) : Bool := n == 34 || n == 92
def quo8 (b : UInt8) : Bool := quoP (b.toNat : Int)
def esc8 (b : UInt8) : List UInt8 := if quo8 b = true then [92, b] else [b]
def escL (l : List UInt8) : List UInt8 := l.flatMap esc8
def quoL (l : List UInt8) : List UInt8 := 34 :: escL l ++ [34]
def quoOk (s : ByteArray) : Bool := decide (s.size ≤ 4000) && s.data.toList.all plain8
def quoB (s : ByteArray) : ByteArray := if quoOk s = true then ⟨(quoL s.data.toList).toArray⟩ else ⟨#[]⟩

theorem plainP_yes {n : Int} (h : (n == 9) = true) : plainP n = true := by simp [plainP, h]
theorem plainP_lo {n : Int} (h : (n == 9) = false) (h2 : ¬ 32 ≤ n) : plainP n = false := by simp [plainP, h, h2]
theorem plainP_hi {n : Int} (h : (n == 9) = false) (h2 : 32 ≤ n) : plainP n = (n != 127) := by simp [plainP, h, h2]
theorem quoP_yes {n : Int} (h : (n == 34) = true) : quoP n = true := by simp [quoP, h]
theorem quoP_no {n : Int} (h : (n == 34) = false) : quoP n = (n == 92) := by simp [quoP, h]

theorem escL_snoc (l : List UInt8) (b : UInt8) : escL (l ++ [b]) = escL l ++ esc8 b := by simp [escL]
theorem escL_len (l : List UInt8) : (escL l).length ≤ 2 * l.length := by
  induction l with
  | nil => simp [escL]
  | cons a l ih =>
    have : escL (a :: l) = esc8 a ++ escL l := by simp [escL]
    rw [this, List.length_append, List.length_cons]
    have : (esc8 a).length ≤ 2 := by unfold esc8; split <;> simp
    omega
theorem quo_big {s : ByteArray} (h : 4000 < s.size) : quoB s = ⟨#[]⟩ ∧ quoOk s = false := by
  have : quoOk s = false := by unfold quoOk; simp [show ¬ s.size ≤ 4000 by omega]
  exact ⟨by simp [quoB, this], this⟩
theorem quo_no {s : ByteArray} {k : Nat} (hk : k < s.size) (h : plain8 (at8 s k) = false) : quoB s = ⟨#[]⟩ ∧ quoOk s = false := by
  have : quoOk s = false := by
    unfold quoOk
    have hl : k < s.data.toList.length := by rw [len_data]; exact hk
    have : s.data.toList.all plain8 = false := by
      rw [List.all_eq_false]
      refine ⟨s.data.toList[k], List.getElem_mem hl, ?_⟩
      simp [at8, List.getD, List.getElem?_eq_getElem hl] at h
      simp [h]
    simp [this]
  exact ⟨by simp [quoB, this], this⟩
theorem quo_yes {s : ByteArray} (h1 : s.size ≤ 4000) (h : ∀ j, j < s.size → plain8 (at8 s j) = true) : quoB s = ⟨(quoL s.data.toList).toArray⟩ ∧ quoOk s = true := by
  have : quoOk s = true := by
    unfold quoOk
    have : s.data.toList.all plain8 = true := by
      rw [List.all_eq_true]
      intro x hx
      obtain ⟨j, hj, rfl⟩ := List.mem_iff_getElem.1 hx
      have := h j (by rw [← len_data]; exact hj)
      simpa [at8, List.getD, List.getElem?_eq_getElem hj] using this
    simp [this, h1]
  exact ⟨by simp [quoB, this], this⟩
theorem take_succ8 (s : ByteArray) (k : Nat) (hk : k < s.size) : s.data.toList.take (k + 1) = s.data.toList.take k ++ [at8 s k] := by
  have hl : k < s.data.toList.length := by rw [len_data]; exact hk
  rw [List.take_succ_eq_append_getElem hl]
  simp [at8, List.getD, List.getElem?_eq_getElem hl]
end Go.Proofs.YtffjpidjhcnnmabDoor
namespace Go.Proofs.YtffjpidjhcnnmabDoor
set_option linter.unusedVariables false
set_option linter.unusedSimpArgs false
open Go.RowKit
/-- A field: its name and its value. -/
abbrev Fd := ByteArray × ByteArray
def fd0 : Fd := (⟨#[]⟩, ⟨#[]⟩)
/-- Number j, or the empty one. -/
def fdAt (l : List Fd) (j : Nat) : Fd := l.getD j fd0
theorem fdAt_get {l : List Fd} {j : Nat} (h : j < l.length) : fdAt l j = l[j] := by
  unfold fdAt; rw [List.getD, List.getElem?_eq_getElem h]; rfl
/-- All bytes are plain. -/
def plnB (s : ByteArray) : Bool := s.data.toList.all plain8
theorem plnB_no {s : ByteArray} {k : Nat} (hk : k < s.size) (h : plain8 (at8 s k) = false) : plnB s = false := by
  unfold plnB
  have hl : k < s.data.toList.length := by simpa using hk
  rw [List.all_eq_false]
  refine ⟨s.data.toList[k], List.getElem_mem hl, ?_⟩
  simp [at8, List.getD, List.getElem?_eq_getElem hl] at h
  simp [h]
theorem plnB_yes {s : ByteArray} (h : ∀ j, j < s.size → plain8 (at8 s j) = true) : plnB s = true := by
  unfold plnB
  rw [List.all_eq_true]
  intro x hx
  obtain ⟨j, hj, rfl⟩ := List.mem_iff_getElem.1 hx
  have := h j (by simpa using hj)
  simpa [at8, List.getD, List.getElem?_eq_getElem hj] using this
/-- The cells of a row of fields. -/
def cellsF (l : List Fd) : List Value := l.flatMap fun s => [.string s.1, .string s.2]
theorem cellsF_app (a b : List Fd) : cellsF (a ++ b) = cellsF a ++ cellsF b := by simp [cellsF]
theorem cellsF_cons (s : Fd) (l : List Fd) : cellsF (s :: l) = .string s.1 :: .string s.2 :: cellsF l := rfl
theorem cellsF_len (l : List Fd) : (cellsF l).length = l.length * 2 := by
  induction l with
  | nil => rfl
  | cons s l ih => rw [cellsF_cons, List.length_cons, List.length_cons, ih, List.length_cons]; omega
theorem cellsF_at (l : List Fd) : ∀ j, j < l.length → (cellsF l)[j * 2]? = some (.string (fdAt l j).1) ∧ (cellsF l)[j * 2 + 1]? = some (.string (fdAt l j).2) := by
  induction l with
  | nil => intro j h; simp at h
  | cons s l ih =>
    intro j h
    cases j with
    | zero => rw [cellsF_cons]; exact ⟨rfl, rfl⟩
    | succ j =>
      rw [cellsF_cons, show fdAt (s :: l) (j + 1) = fdAt l j from rfl, show (j + 1) * 2 = j * 2 + 1 + 1 by omega]
      exact ih j (by simpa using h)
theorem cellsF_one (l : List Fd) : ∀ u ∈ cellsF l, u.oneCell' = true := by
  intro u hu
  simp only [cellsF, List.mem_flatMap] at hu
  obtain ⟨s, _, hs⟩ := hu
  simp at hs
  rcases hs with rfl | rfl <;> rfl
end Go.Proofs.YtffjpidjhcnnmabDoor
namespace Go.Proofs.YtffjpidjhcnnmabDoor
set_option linter.unusedVariables false
set_option linter.unusedSimpArgs false
open Go.RowKit

def inL (l : List UInt8) (n : Int) : Bool := l.any fun b => (b.toNat : Int) == n
def letP (n : Int) : Bool := decide (97 ≤ lowI n) && decide (lowI n ≤ 122)
def tokSigns : List UInt8 := [33, 35, 36, 37, 38, 39, 42, 43, 45, 46, 94, 95, 124, 126, 96]
def tokSigns14 : List UInt8 := [33, 35, 36, 37, 38, 39, 42, 43, 45, 46, 94, 95, 124, 126]
def tokP (n : Int) : Bool := letP n || digP n || inL tokSigns n
def tok8 (b : UInt8) : Bool := tokP (b.toNat : Int)
def tokB (s : ByteArray) : Bool := decide (0 < s.size) && decide (s.size ≤ 4000) && s.data.toList.all tok8

theorem tokP_let {n : Int} (h : letP n = true) : tokP n = true := by simp [tokP, h]
theorem tokP_dig {n : Int} (h : digP n = true) : tokP n = true := by simp [tokP, h]
theorem tokP_sig {n : Int} (h1 : letP n = false) (h2 : digP n = false) : tokP n = inL tokSigns n := by simp [tokP, h1, h2]
theorem tokP_96 {n : Int} (h1 : letP n = false) (h2 : digP n = false) (h3 : (n == 96) = true) : tokP n = true := by
  rw [tokP_sig h1 h2]
  rw [beq_iff_eq] at h3
  subst h3
  decide
theorem tokP_14 {n : Int} (h1 : letP n = false) (h2 : digP n = false) (h3 : (n == 96) = false) : tokP n = inL tokSigns14 n := by
  rw [tokP_sig h1 h2]
  have h4 : ((96 : Int) == n) = false := by rw [Bool.eq_false_iff, ne_eq, beq_iff_eq] at h3 ⊢; omega
  show (tokSigns14 ++ [96]).any _ = tokSigns14.any _
  rw [List.any_append]
  have h5 : ([96] : List UInt8).any (fun b => (b.toNat : Int) == n) = false := by
    show ((96 : Int) == n || false) = false
    rw [h4]; rfl
  rw [h5, Bool.or_false]
theorem inL_hit {l : List UInt8} {n : Int} {k : Nat} (hk : k < l.length) (h : (l[k].toNat : Int) = n) : inL l n = true := by
  unfold inL
  rw [List.any_eq_true]
  exact ⟨l[k], List.getElem_mem hk, by simp [h]⟩
theorem inL_miss {l : List UInt8} {n : Int} (h : ∀ j, j < l.length → ((l.getD j 0).toNat : Int) ≠ n) : inL l n = false := by
  unfold inL
  rw [List.any_eq_false]
  intro x hx
  obtain ⟨j, hj, rfl⟩ := List.mem_iff_getElem.1 hx
  have := h j hj
  rw [List.getD, List.getElem?_eq_getElem hj] at this
  simpa using this
theorem tokB_no {s : ByteArray} {k : Nat} (hk : k < s.size) (h : tok8 (at8 s k) = false) : tokB s = false := by
  unfold tokB
  have hl : k < s.data.toList.length := by simpa using hk
  have : s.data.toList.all tok8 = false := by
    rw [List.all_eq_false]
    refine ⟨s.data.toList[k], List.getElem_mem hl, ?_⟩
    simp [at8, List.getD, List.getElem?_eq_getElem hl] at h
    simp [h]
  simp [this]
theorem tokB_yes {s : ByteArray} (h0 : 0 < s.size) (h1 : s.size ≤ 4000) (h : ∀ j, j < s.size → tok8 (at8 s j) = true) : tokB s = true := by
  unfold tokB
  have : s.data.toList.all tok8 = true := by
    rw [List.all_eq_true]
    intro x hx
    obtain ⟨j, hj, rfl⟩ := List.mem_iff_getElem.1 hx
    have := h j (by simpa using hj)
    simpa [at8, List.getD, List.getElem?_eq_getElem hj] using this
  simp [this, h0, h1]
theorem tokB_size {s : ByteArray} (h : s.size = 0 ∨ 4000 < s.size) : tokB s = false := by
  unfold tokB
  rcases h with h | h
  · simp [h]
  · simp [show ¬ s.size ≤ 4000 by omega]
end Go.Proofs.YtffjpidjhcnnmabDoor
namespace Go.Proofs.YtffjpidjhcnnmabDoor
set_option linter.unusedVariables false
set_option linter.unusedSimpArgs false
open Go.RowKit

set_option maxHeartbeats 400000 in
theorem smallByte_any (n : Int) (w : World) (h0 : 0 ≤ n) (h1 : n ≤ 255) :
    Calls Tryd.prog 62 #[.int .u8 n] w fun e w' => e = .returned (.int .u8 (lowI n)) ∧ w' = w := by
  unfold lowI
  by_cases ha : 65 ≤ n
  · by_cases hb : n ≤ 90
    · rw [if_pos ⟨ha, hb⟩]
      go_enter Tryd.func62, Tryd.ntmps62
      go_wp2
      go_ret
      exact ⟨rfl, rfl⟩
    · rw [if_neg (by omega)]
      go_enter Tryd.func62, Tryd.ntmps62
      go_wp2
      go_ret
      exact ⟨rfl, rfl⟩
  · rw [if_neg (by omega)]
    go_enter Tryd.func62, Tryd.ntmps62
    go_wp2
    go_ret
    exact ⟨rfl, rfl⟩
set_option maxHeartbeats 400000 in
theorem l1lower_any (n : Int) (w : World) (h0 : 0 ≤ n) (h1 : n ≤ 255) :
    Calls Tryd.prog 26 #[.int .u8 n] w fun e w' => e = .returned (.int .u8 (lowI n)) ∧ w' = w := by
  unfold lowI
  by_cases ha : 65 ≤ n
  · by_cases hb : n ≤ 90
    · rw [if_pos ⟨ha, hb⟩]
      go_enter Tryd.func26, Tryd.ntmps26
      go_wp2
      go_ret
      exact ⟨rfl, rfl⟩
    · rw [if_neg (by omega)]
      go_enter Tryd.func26, Tryd.ntmps26
      go_wp2
      go_ret
      exact ⟨rfl, rfl⟩
  · rw [if_neg (by omega)]
    go_enter Tryd.func26, Tryd.ntmps26
    go_wp2
    go_ret
    exact ⟨rfl, rfl⟩
end Go.Proofs.YtffjpidjhcnnmabDoor
namespace Go.Proofs.YtffjpidjhcnnmabDoor
set_option linter.unusedVariables false
set_option linter.unusedSimpArgs false
open Go.RowKit

theorem gapP_yes1 {n : Int} (h : (n == 32) = true) : gapP n = true := by simp [gapP, h]
theorem gapP_no1 {n : Int} (h : (n == 32) = false) : gapP n = (n == 9) := by simp [gapP, h]
theorem digP_no1 {n : Int} (h : ¬ 48 ≤ n) : digP n = false := by simp [digP, h]
theorem digP_yes1 {n : Int} (h : 48 ≤ n) : digP n = decide (n ≤ 57) := by simp [digP, h]

set_option maxHeartbeats 400000 in
theorem gapByte_any (n : Int) (w : World) :
    Calls Tryd.prog 63 #[.int .u8 n] w fun e w' => e = .returned (.bool (gapP n)) ∧ w' = w := by
  cases h : (n == 32)
  · rw [gapP_no1 h]
    go_enter Tryd.func63, Tryd.ntmps63
    go_wp2
    go_ret
    exact ⟨rfl, rfl⟩
  · rw [gapP_yes1 h]
    go_enter Tryd.func63, Tryd.ntmps63
    go_wp2
    go_ret
    exact ⟨rfl, rfl⟩
set_option maxHeartbeats 400000 in
theorem l1white_any (n : Int) (w : World) :
    Calls Tryd.prog 24 #[.int .u8 n] w fun e w' => e = .returned (.bool (gapP n)) ∧ w' = w := by
  cases h : (n == 32)
  · rw [gapP_no1 h]
    go_enter Tryd.func24, Tryd.ntmps24
    go_wp2
    go_ret
    exact ⟨rfl, rfl⟩
  · rw [gapP_yes1 h]
    go_enter Tryd.func24, Tryd.ntmps24
    go_wp2
    go_ret
    exact ⟨rfl, rfl⟩
set_option maxHeartbeats 400000 in
theorem digitByte_any (n : Int) (w : World) :
    Calls Tryd.prog 55 #[.int .u8 n] w fun e w' => e = .returned (.bool (digP n)) ∧ w' = w := by
  by_cases h : 48 ≤ n
  · rw [digP_yes1 h]
    go_enter Tryd.func55, Tryd.ntmps55
    go_wp2
    go_ret
    exact ⟨rfl, rfl⟩
  · rw [digP_no1 h]
    go_enter Tryd.func55, Tryd.ntmps55
    go_wp2
    go_ret
    exact ⟨rfl, rfl⟩
set_option maxHeartbeats 400000 in
theorem l1digit_any (n : Int) (w : World) :
    Calls Tryd.prog 30 #[.int .u8 n] w fun e w' => e = .returned (.bool (digP n)) ∧ w' = w := by
  by_cases h : 48 ≤ n
  · rw [digP_yes1 h]
    go_enter Tryd.func30, Tryd.ntmps30
    go_wp2
    go_ret
    exact ⟨rfl, rfl⟩
  · rw [digP_no1 h]
    go_enter Tryd.func30, Tryd.ntmps30
    go_wp2
    go_ret
    exact ⟨rfl, rfl⟩
set_option maxHeartbeats 1000000 in
theorem Trim_any (s : ByteArray) (w : World) (hs : s.size ≤ maxLen) :
    Calls Tryd.prog 50 #[.string s] w fun e w' => e = .returned (.string (trimB s)) ∧ w' = w := by
  unfold maxLen at hs
  go_enter Tryd.func50, Tryd.ntmps50
  go_wp2
  go_loop [3] (fun i => ∃ k : Nat, k ≤ s.size ∧ i = .int .i64 k ∧ ∀ j, j < k → gap8 (at8 s j) = true) (fun i => s.size - (intOf i).toNat)
  case atStart => exact ⟨0, Nat.zero_le _, rfl, fun j hj => by omega⟩
  case round =>
    obtain ⟨k, hk, rfl, hall⟩ := hrel
    have Hall : Hid (∀ j, j < k → gap8 (at8 s j) = true) := hall
    clear hall
    by_cases hc : k < s.size ∧ gap8 (at8 s k) = true
    · obtain ⟨hlt, hg0⟩ := hc
      have hg : gapP (s[k].toNat : Int) = true := by rw [at8_eq s k hlt]; exact hg0
      have Hg : Hid (gap8 (at8 s k) = true) := hg0
      clear hg0
      go_wp2_with (go_at_call 63; refine (gapByte_any _ _).mono ?_; rintro e w' ⟨rfl, rfl⟩)
      go_round
      case rel => exact ⟨k + 1, by omega, by go_num, all_succ Hall.out Hg.out⟩
      case measure => simp [intOf]; omega
    · have HE : Hid (k = s.size ∨ gap8 (at8 s k) = false) := by
        rcases Nat.lt_or_ge k s.size with h | h
        · right; exact Bool.eq_false_iff.2 (fun hh => hc ⟨h, hh⟩)
        · left; omega
      have hway : (∃ h : k < s.size, gapP (s[k].toNat : Int) = false) ∨ ¬ k < s.size := by
        rcases Nat.lt_or_ge k s.size with h | h
        · left; refine ⟨h, ?_⟩; rw [at8_eq s k h]; exact Bool.eq_false_iff.2 (fun hh => hc ⟨h, hh⟩)
        · right; omega
      clear hc
      rcases hway with ⟨hlt, hg⟩ | hlt
      all_goals
        go_wp2_with (go_at_call 63; refine (gapByte_any _ _).mono ?_; rintro e w' ⟨rfl, rfl⟩)
        try clear hg
        try clear hlt
        go_loop [4] (fun i => ∃ t : Nat, k ≤ t ∧ t ≤ s.size ∧ i = .int .i64 t ∧ ∀ j, t ≤ j → j < s.size → gap8 (at8 s j) = true) (fun i => (intOf i).toNat)
        case atStart => exact ⟨s.size, hk, Nat.le_refl _, rfl, fun j h1 h2 => by omega⟩
        case round =>
          obtain ⟨t, hkt, ht, rfl, hz⟩ := hrel
          have Hz : Hid (∀ j, t ≤ j → j < s.size → gap8 (at8 s j) = true) := hz
          clear hz
          by_cases hc : k < t ∧ gap8 (at8 s (t - 1)) = true
          · obtain ⟨hlt2, hg0⟩ := hc
            obtain ⟨u, rfl⟩ : ∃ u, t = u + 1 := ⟨t - 1, by omega⟩
            have hu : u < s.size := by omega
            have hg2 : gapP (s[u].toNat : Int) = true := by rw [at8_eq s u hu]; exact hg0
            have Hg : Hid (gap8 (at8 s u) = true) := hg0
            clear hg0
            go_wp2_with (go_at_call 63; refine (gapByte_any _ _).mono ?_; rintro e w' ⟨rfl, rfl⟩)
            go_round
            case rel => exact ⟨u, by omega, by omega, by go_num, all_pred Hz.out Hg.out⟩
            case measure => simp [intOf] <;> omega
          · have HF : Hid (t = k ∨ gap8 (at8 s (t - 1)) = false) := by
              rcases Nat.lt_or_ge k t with h | h
              · right; exact Bool.eq_false_iff.2 (fun hh => hc ⟨h, hh⟩)
              · left; omega
            have hfin : Hid (s.extract k t = trimB s) := trim_of s k t Hall.out HE.out hkt ht Hz.out HF.out
            by_cases hlt2 : k < t
            · obtain ⟨u, rfl⟩ : ∃ u, t = u + 1 := ⟨t - 1, by omega⟩
              have hu : u < s.size := by omega
              have hg2 : gapP (s[u].toNat : Int) = false := by
                rw [at8_eq s u hu]; exact Bool.eq_false_iff.2 (fun hh => hc ⟨hlt2, hh⟩)
              clear hc
              go_wp2_with (go_at_call 63; refine (gapByte_any _ _).mono ?_; rintro e w' ⟨rfl, rfl⟩)
              go_ret
              exact ⟨by rw [← hfin.out]; first | rfl | simp, rfl⟩
            · clear hc
              go_wp2_with (go_at_call 63; refine (gapByte_any _ _).mono ?_; rintro e w' ⟨rfl, rfl⟩)
              go_ret
              exact ⟨by rw [← hfin.out]; first | rfl | simp, rfl⟩
set_option maxHeartbeats 1000000 in
theorem sTrim_any (s : ByteArray) (w : World) (hs : s.size ≤ maxLen) :
    Calls Tryd.prog 12 #[.string s] w fun e w' => e = .returned (.string (trimB s)) ∧ w' = w := by
  unfold maxLen at hs
  go_enter Tryd.func12, Tryd.ntmps12
  go_wp2
  go_loop [3] (fun i => ∃ k : Nat, k ≤ s.size ∧ i = .int .i64 k ∧ ∀ j, j < k → gap8 (at8 s j) = true) (fun i => s.size - (intOf i).toNat)
  case atStart => exact ⟨0, Nat.zero_le _, rfl, fun j hj => by omega⟩
  case round =>
    obtain ⟨k, hk, rfl, hall⟩ := hrel
    have Hall : Hid (∀ j, j < k → gap8 (at8 s j) = true) := hall
    clear hall
    by_cases hc : k < s.size ∧ gap8 (at8 s k) = true
    · obtain ⟨hlt, hg0⟩ := hc
      have hg : gapP (s[k].toNat : Int) = true := by rw [at8_eq s k hlt]; exact hg0
      have Hg : Hid (gap8 (at8 s k) = true) := hg0
      clear hg0
      go_wp2_with (go_at_call 24; refine (l1white_any _ _).mono ?_; rintro e w' ⟨rfl, rfl⟩)
      go_round
      case rel => exact ⟨k + 1, by omega, by go_num, all_succ Hall.out Hg.out⟩
      case measure => simp [intOf]; omega
    · have HE : Hid (k = s.size ∨ gap8 (at8 s k) = false) := by
        rcases Nat.lt_or_ge k s.size with h | h
        · right; exact Bool.eq_false_iff.2 (fun hh => hc ⟨h, hh⟩)
        · left; omega
      have hway : (∃ h : k < s.size, gapP (s[k].toNat : Int) = false) ∨ ¬ k < s.size := by
        rcases Nat.lt_or_ge k s.size with h | h
        · left; refine ⟨h, ?_⟩; rw [at8_eq s k h]; exact Bool.eq_false_iff.2 (fun hh => hc ⟨h, hh⟩)
        · right; omega
      clear hc
      rcases hway with ⟨hlt, hg⟩ | hlt
      all_goals
        go_wp2_with (go_at_call 24; refine (l1white_any _ _).mono ?_; rintro e w' ⟨rfl, rfl⟩)
        try clear hg
        try clear hlt
        go_loop [4] (fun i => ∃ t : Nat, k ≤ t ∧ t ≤ s.size ∧ i = .int .i64 t ∧ ∀ j, t ≤ j → j < s.size → gap8 (at8 s j) = true) (fun i => (intOf i).toNat)
        case atStart => exact ⟨s.size, hk, Nat.le_refl _, rfl, fun j h1 h2 => by omega⟩
        case round =>
          obtain ⟨t, hkt, ht, rfl, hz⟩ := hrel
          have Hz : Hid (∀ j, t ≤ j → j < s.size → gap8 (at8 s j) = true) := hz
          clear hz
          by_cases hc : k < t ∧ gap8 (at8 s (t - 1)) = true
          · obtain ⟨hlt2, hg0⟩ := hc
            obtain ⟨u, rfl⟩ : ∃ u, t = u + 1 := ⟨t - 1, by omega⟩
            have hu : u < s.size := by omega
            have hg2 : gapP (s[u].toNat : Int) = true := by rw [at8_eq s u hu]; exact hg0
            have Hg : Hid (gap8 (at8 s u) = true) := hg0
            clear hg0
            go_wp2_with (go_at_call 24; refine (l1white_any _ _).mono ?_; rintro e w' ⟨rfl, rfl⟩)
            go_round
            case rel => exact ⟨u, by omega, by omega, by go_num, all_pred Hz.out Hg.out⟩
            case measure => simp [intOf] <;> omega
          · have HF : Hid (t = k ∨ gap8 (at8 s (t - 1)) = false) := by
              rcases Nat.lt_or_ge k t with h | h
              · right; exact Bool.eq_false_iff.2 (fun hh => hc ⟨h, hh⟩)
              · left; omega
            have hfin : Hid (s.extract k t = trimB s) := trim_of s k t Hall.out HE.out hkt ht Hz.out HF.out
            by_cases hlt2 : k < t
            · obtain ⟨u, rfl⟩ : ∃ u, t = u + 1 := ⟨t - 1, by omega⟩
              have hu : u < s.size := by omega
              have hg2 : gapP (s[u].toNat : Int) = false := by
                rw [at8_eq s u hu]; exact Bool.eq_false_iff.2 (fun hh => hc ⟨hlt2, hh⟩)
              clear hc
              go_wp2_with (go_at_call 24; refine (l1white_any _ _).mono ?_; rintro e w' ⟨rfl, rfl⟩)
              go_ret
              exact ⟨by rw [← hfin.out]; first | rfl | simp, rfl⟩
            · clear hc
              go_wp2_with (go_at_call 24; refine (l1white_any _ _).mono ?_; rintro e w' ⟨rfl, rfl⟩)
              go_ret
              exact ⟨by rw [← hfin.out]; first | rfl | simp, rfl⟩
end Go.Proofs.YtffjpidjhcnnmabDoor
namespace Go.Proofs.YtffjpidjhcnnmabDoor
set_option linter.unusedVariables false
set_option linter.unusedSimpArgs false
open Go.RowKit

def decB (u : Nat) : ByteArray := ⟨(Lib.decDigits u).toArray⟩
theorem decB_list (u : Nat) : (decB u).data.toList = Lib.decDigits u := rfl
def valL (l : List UInt8) : Nat := l.foldl (fun n b => n * 10 + (b.toNat - 48)) 0
theorem valL_snoc (l : List UInt8) (b : UInt8) : valL (l ++ [b]) = valL l * 10 + (b.toNat - 48) := by simp [valL]
def allDig (l : List UInt8) : Bool := l.all dig8
theorem dig8_iff (b : UInt8) : dig8 b = true ↔ 48 ≤ b.toNat ∧ b.toNat ≤ 57 := by
  unfold dig8 digP
  simp
  omega
theorem dig8_no (b : UInt8) (h : dig8 b = false) : b.toNat < 48 ∨ 57 < b.toNat := by
  have : ¬ (48 ≤ b.toNat ∧ b.toNat ≤ 57) := fun hh => by rw [(dig8_iff b).2 hh] at h; cases h
  omega
def rdec (s : ByteArray) : Option Nat := if 0 < s.size ∧ s.size ≤ 15 ∧ allDig s.data.toList = true ∧ Lib.decDigits (valL s.data.toList) = s.data.toList then some (valL s.data.toList) else none

theorem snoc_ind {α : Type} {p : List α → Prop} (h0 : p []) (h1 : ∀ l a, p l → p (l ++ [a])) : ∀ l, p l := by
  intro l
  have : ∀ r : List α, p r.reverse := by
    intro r
    induction r with
    | nil => exact h0
    | cons a r ih => rw [List.reverse_cons]; exact h1 _ _ ih
  simpa using this l.reverse

theorem valL_lt (l : List UInt8) (h : allDig l = true) : valL l < 10 ^ l.length := by
  revert h
  refine snoc_ind (p := fun l => allDig l = true → valL l < 10 ^ l.length) ?_ ?_ l
  · intro _; simp [valL]
  · intro q b ih h
    have hq : allDig q = true := by unfold allDig at h ⊢; rw [List.all_append] at h; simp at h; simpa using h.1
    have hb : dig8 b = true := by unfold allDig at h; rw [List.all_append] at h; simp at h; exact h.2
    have := ih hq
    have hb' := (dig8_iff b).1 hb
    rw [valL_snoc, List.length_append, List.length_singleton, Nat.pow_succ]
    omega
theorem valL_ge (l : List UInt8) (h : allDig l = true) (hl : l ≠ []) (hz : l.head? ≠ some 48) : 10 ^ (l.length - 1) ≤ valL l := by
  revert h hl hz
  refine snoc_ind (p := fun l => allDig l = true → l ≠ [] → l.head? ≠ some 48 → 10 ^ (l.length - 1) ≤ valL l) ?_ ?_ l
  · intro _ h; exact absurd rfl h
  · intro q b ih h _ hz
    have hq : allDig q = true := by unfold allDig at h ⊢; rw [List.all_append] at h; simp at h; simpa using h.1
    have hb : dig8 b = true := by unfold allDig at h; rw [List.all_append] at h; simp at h; exact h.2
    have hb' := (dig8_iff b).1 hb
    rw [valL_snoc, List.length_append, List.length_singleton]
    by_cases e : q = []
    · subst e
      have hne : b.toNat ≠ 48 := by
        intro hh
        apply hz
        have : b = 48 := UInt8.toNat_inj.1 hh
        rw [this]; rfl
      simp [valL]
      omega
    · have hz' : q.head? ≠ some 48 := by
        intro hh; apply hz; rw [List.head?_append, hh]; rfl
      have := ih hq e hz'
      have hlen : q.length + 1 - 1 = (q.length - 1) + 1 := by have := List.length_pos_iff.2 e; omega
      rw [hlen, Nat.pow_succ]
      omega
theorem decDigits_step (u : Nat) (h : ¬ u < 10) : Lib.decDigits u = Lib.decDigits (u / 10) ++ [UInt8.ofNat (48 + u % 10)] := by
  rw [Lib.decDigits, dif_neg h]
theorem ofNat_dig (b : UInt8) (h : 48 ≤ b.toNat) : UInt8.ofNat (48 + (b.toNat - 48)) = b := by
  rw [show 48 + (b.toNat - 48) = b.toNat from by omega]; simp
theorem decDigits_val (l : List UInt8) (h : allDig l = true) (hl : l ≠ []) (hz : l.head? ≠ some 48) : Lib.decDigits (valL l) = l := by
  revert h hl hz
  refine snoc_ind (p := fun l => allDig l = true → l ≠ [] → l.head? ≠ some 48 → Lib.decDigits (valL l) = l) ?_ ?_ l
  · intro _ h; exact absurd rfl h
  · intro q b ih h _ hz
    have hq : allDig q = true := by unfold allDig at h ⊢; rw [List.all_append] at h; simp at h; simpa using h.1
    have hb : dig8 b = true := by unfold allDig at h; rw [List.all_append] at h; simp at h; exact h.2
    have hb' := (dig8_iff b).1 hb
    rw [valL_snoc]
    by_cases e : q = []
    · subst e
      have : valL [] * 10 + (b.toNat - 48) = b.toNat - 48 := by simp [valL]
      rw [this, Lib.decDigits, dif_pos (by omega), ofNat_dig b hb'.1]; rfl
    · have hz' : q.head? ≠ some 48 := by
        intro hh; apply hz; rw [List.head?_append, hh]; rfl
      have h1 := valL_ge q hq e hz'
      have h2 : 1 ≤ 10 ^ (q.length - 1) := Nat.one_le_pow _ _ (by decide)
      rw [decDigits_step _ (by omega)]
      have e1 : (valL q * 10 + (b.toNat - 48)) / 10 = valL q := by omega
      have e2 : (valL q * 10 + (b.toNat - 48)) % 10 = b.toNat - 48 := by omega
      rw [e1, e2, ih hq e hz', ofNat_dig b hb'.1]
theorem decDigits_ne_nil (u : Nat) : Lib.decDigits u ≠ [] := by
  by_cases h : u < 10
  · rw [Lib.decDigits, dif_pos h]; simp
  · rw [decDigits_step u h]; simp
theorem decDigits_head (u : Nat) (h : (Lib.decDigits u).head? = some 48) : u = 0 := by
  induction u using Nat.strongRecOn with
  | _ u ih =>
    by_cases hu : u < 10
    · rw [Lib.decDigits, dif_pos hu] at h
      have h' : UInt8.ofNat (48 + u) = 48 := Option.some.inj h
      have : (UInt8.ofNat (48 + u)).toNat = (48 : UInt8).toNat := by rw [h']
      rw [UInt8.toNat_ofNat'] at this
      have e : (48 : UInt8).toNat = 48 := rfl
      omega
    · rw [decDigits_step u hu, List.head?_append] at h
      have hne := decDigits_ne_nil (u / 10)
      have : (Lib.decDigits (u / 10)).head? = some 48 := by
        cases hq : Lib.decDigits (u / 10) with
        | nil => exact absurd hq hne
        | cons a r => rw [hq] at h; simpa using h
      have := ih (u / 10) (by omega) this
      omega
theorem allDig_dec (u : Nat) : allDig (Lib.decDigits u) = true := by
  induction u using Nat.strongRecOn with
  | _ u ih =>
    have one : ∀ d, d < 10 → dig8 (UInt8.ofNat (48 + d)) = true := by
      intro d hd
      rw [dig8_iff]
      simp
      omega
    by_cases hu : u < 10
    · rw [Lib.decDigits, dif_pos hu]
      show (dig8 (UInt8.ofNat (48 + u)) && true) = true
      rw [one u hu]; rfl
    · rw [decDigits_step u hu]
      unfold allDig
      rw [List.all_append]
      have := ih (u / 10) (by omega)
      unfold allDig at this
      rw [this]
      show (true && (dig8 (UInt8.ofNat (48 + u % 10)) && true)) = true
      rw [one (u % 10) (by omega)]; rfl
theorem valL_dec (u : Nat) : valL (Lib.decDigits u) = u := by
  induction u using Nat.strongRecOn with
  | _ u ih =>
    have one : ∀ d, d < 10 → (UInt8.ofNat (48 + d)).toNat - 48 = d := by
      intro d hd; simp; omega
    by_cases hu : u < 10
    · rw [Lib.decDigits, dif_pos hu]
      have := one u hu
      simp [valL] at this ⊢
      omega
    · rw [decDigits_step u hu, valL_snoc, ih (u / 10) (by omega), one (u % 10) (by omega)]
      omega
theorem decDigits_len (u : Nat) (h : u ≤ 999999999999999) : (Lib.decDigits u).length ≤ 15 := by
  rw [Lib.decDigits_length]
  rcases Nat.lt_or_ge 15 (Lib.nDigits u) with h1 | h1
  · exfalso
    have hl := valL_ge (Lib.decDigits u) (allDig_dec u) (decDigits_ne_nil u) (by
      intro hh
      have := decDigits_head u hh
      subst this
      rw [Lib.nDigits_small (by omega)] at h1
      omega)
    rw [valL_dec, Lib.decDigits_length] at hl
    have h2 : 10 ^ 15 ≤ 10 ^ (Lib.nDigits u - 1) := Nat.pow_le_pow_right (by decide) (by omega)
    have h3 : (10 : Nat) ^ 15 = 1000000000000000 := by decide
    omega
  · exact h1

/-! What the loops of ReadDec come to. -/
theorem allDig_take_succ (s : ByteArray) (k : Nat) (hk : k < s.size) : s.data.toList.take (k + 1) = s.data.toList.take k ++ [at8 s k] := by
  have hl : k < s.data.toList.length := by rw [len_data]; exact hk
  rw [List.take_succ_eq_append_getElem hl]
  simp [at8, List.getD, List.getElem?_eq_getElem hl]
theorem allDig_snoc (l : List UInt8) (b : UInt8) (h : allDig l = true) (hb : dig8 b = true) : allDig (l ++ [b]) = true := by
  unfold allDig at *
  rw [List.all_append, h]
  simp [hb]
theorem allDig_no (s : ByteArray) (k : Nat) (hk : k < s.size) (h : dig8 (at8 s k) = false) : allDig s.data.toList = false := by
  have hl : k < s.data.toList.length := by rw [len_data]; exact hk
  unfold allDig
  rw [List.all_eq_false]
  refine ⟨s.data.toList[k], List.getElem_mem hl, ?_⟩
  simp [at8, List.getD, List.getElem?_eq_getElem hl] at h
  simp [h]
theorem rdec_nodig (s : ByteArray) (k : Nat) (hk : k < s.size) (h : dig8 (at8 s k) = false) : rdec s = none := by
  unfold rdec
  rw [if_neg]
  rintro ⟨_, _, h3, _⟩
  rw [allDig_no s k hk h] at h3
  cases h3
theorem rdec_size (s : ByteArray) (h : s.size = 0 ∨ 15 < s.size) : rdec s = none := by
  unfold rdec
  rw [if_neg]
  rintro ⟨h1, h2, _⟩
  omega
theorem rdec_ne (s : ByteArray) (h : Lib.decDigits (valL s.data.toList) ≠ s.data.toList) : rdec s = none := by
  unfold rdec
  rw [if_neg]
  rintro ⟨_, _, _, h4⟩
  exact h h4
theorem rdec_yes (s : ByteArray) (h0 : 0 < s.size) (h1 : s.size ≤ 15) (h2 : allDig s.data.toList = true) (h3 : Lib.decDigits (valL s.data.toList) = s.data.toList) : rdec s = some (valL s.data.toList) := by
  unfold rdec
  rw [if_pos ⟨h0, h1, h2, h3⟩]
theorem head_at8 (s : ByteArray) (h : 0 < s.size) : s.data.toList.head? = some (at8 s 0) := by
  have hl : 0 < s.data.toList.length := by rw [len_data]; exact h
  rw [List.head?_eq_getElem?]
  simp [at8, List.getD, List.getElem?_eq_getElem hl]
/-- A 0 ahead of other digits. -/
theorem rdec_zero (s : ByteArray) (h : 0 < s.size) (h0 : (at8 s 0).toNat = 48) (hne : s.data.toList ≠ [48]) : rdec s = none := by
  apply rdec_ne
  intro hh
  have h1 := head_at8 s h
  have : at8 s 0 = 48 := UInt8.toNat_inj.1 h0
  rw [this, ← hh] at h1
  have hz := decDigits_head _ h1
  rw [hz] at hh
  apply hne
  rw [← hh, Lib.decDigits, dif_pos (by omega)]
  rfl
/-- Behind the last round. -/
theorem rdec_end (s : ByteArray) (h : 0 < s.size) (hd : allDig s.data.toList = true) (hz : (at8 s 0).toNat ≠ 48 ∨ s.data.toList = [48]) (hm : valL s.data.toList ≤ 999999999999999) : rdec s = some (valL s.data.toList) := by
  have hne : s.data.toList ≠ [] := by
    intro hh; have := len_data s; rw [hh] at this; simp at this; omega
  rcases hz with hz | hz
  · have hh : s.data.toList.head? ≠ some 48 := by
      rw [head_at8 s h]; intro e; apply hz; injection e with e; rw [e]; rfl
    have h1 := valL_ge _ hd hne hh
    refine rdec_yes s h ?_ hd (decDigits_val _ hd hne hh)
    rcases Nat.lt_or_ge 15 s.size with h2 | h2
    · exfalso
      have h3 : 10 ^ 15 ≤ 10 ^ (s.data.toList.length - 1) := Nat.pow_le_pow_right (by decide) (by rw [len_data]; omega)
      have h4 : (10 : Nat) ^ 15 = 1000000000000000 := by decide
      omega
    · exact h2
  · have hs : s.size = 1 := by rw [← len_data, hz]; rfl
    refine rdec_yes s h (by omega) hd ?_
    rw [hz]
    have : valL [48] = 0 := by decide
    rw [this, Lib.decDigits, dif_pos (by omega)]
    rfl
theorem allDig_take (l : List UInt8) (k : Nat) (h : allDig l = true) : allDig (l.take k) = true := by
  unfold allDig at *
  rw [List.all_eq_true] at *
  intro x hx
  exact h x (List.mem_of_mem_take hx)
/-- A value that has passed the bound. -/
theorem rdec_big (s : ByteArray) (k : Nat) (hk : k ≤ s.size) (hd : allDig (s.data.toList.take k) = true) (hm : 999999999999999 < valL (s.data.toList.take k)) : rdec s = none := by
  apply rdec_size
  right
  rcases Nat.lt_or_ge 15 s.size with h2 | h2
  · exact h2
  · exfalso
    have h1 := valL_lt _ hd
    have h3 : 10 ^ (s.data.toList.take k).length ≤ 10 ^ 15 := Nat.pow_le_pow_right (by decide) (by simp; omega)
    have h4 : (10 : Nat) ^ 15 = 1000000000000000 := by decide
    omega
end Go.Proofs.YtffjpidjhcnnmabDoor
namespace Go.Proofs.YtffjpidjhcnnmabDoor
set_option linter.unusedVariables false
set_option linter.unusedSimpArgs false
open Go.RowKit

theorem below_call_alloc {w w1 : World} {o : Obj} (hb : Below w.drew.heap.size w.drew w1) : Below w.heap.size w (w1.alloc o) := by
  have h : Below w.heap.size w w1 := (Below.drew (Below.refl _ w)).trans (hb.mono (by simp))
  exact h.alloc h.size _
theorem below_alloc_call {w w1 : World} {o : Obj} (hb : Below (w.alloc o).drew.heap.size (w.alloc o).drew w1) : Below w.heap.size w w1 :=
  (((Below.refl _ w).alloc (Nat.le_refl _) o).drew).trans (hb.mono (by simp))
/-- One byte's text. -/
theorem conv_one {P : Program} (src e dst : TypeId) (hs : P.underlying src = some (.slice e)) (he : P.underlying e = some (.int .u8)) (hd : P.underlying dst = some .string) (w : World) (b cap : Nat) (x : Int) (hc : w.cell? ⟨b, 0, none⟩ = some (.int .u8 x)) :
    (convert src dst (.slice (some ⟨b, 0, none⟩) 1 cap)).run P w = .ok (.string ⟨#[UInt8.ofNat x.toNat]⟩) w :=
  run_convert_bytes_arg (P := P) w src e hs he b 0 1 cap [x] rfl (fun i hi => by obtain rfl : i = 0 := by omega
                                                                                 exact hc) dst hd
set_option maxHeartbeats 1000000 in
theorem sDecText_nat (u : Nat) (w : World) (hu : u ≤ 999999999999999) :
    Calls Tryd.prog 31 #[.int .i64 (u : Int)] w fun e w' => e = .returned (.string (decB u)) ∧ Below w.heap.size w w' := by
  induction u using Nat.strongRecOn generalizing w with
  | _ u ih =>
    have h1 : ¬ (u : Int) < 0 := by omega
    have h2 : ¬ (999999999999999 : Int) < (u : Int) := by omega
    by_cases h10 : (u : Int) < 10
    · have hfin : Hid (decB u = ⟨#[UInt8.ofNat (48 + u)]⟩) := by
        show decB u = _
        unfold decB
        rw [Lib.decDigits, dif_pos (by omega)]
      have kb := fun (w : World) (b cap : Nat) (x : Int) => conv_one (P := Tryd.prog) 48 5 9 Tryd.underlying48 Tryd.underlying5 Tryd.underlying9 w b cap x
      clear ih
      go_enter Tryd.func31, Tryd.ntmps31
      go_wp2
      go_ret
      exact ⟨ret_str (by rw [hfin.out]; simp), (Below.refl _ _).alloc (Nat.le_refl _) _⟩
    · have kb := fun (w : World) (b cap : Nat) (x : Int) => conv_one (P := Tryd.prog) 48 5 9 Tryd.underlying48 Tryd.underlying5 Tryd.underlying9 w b cap x
      obtain ⟨q, r, hqr, hr, hq⟩ : ∃ q r : Nat, u = 10 * q + r ∧ r < 10 ∧ 1 ≤ q := ⟨u / 10, u % 10, by omega, by omega, by omega⟩
      have Hih : Hid (∀ (w : World), Calls Tryd.prog 31 #[.int .i64 (q : Int)] w fun e w' => e = .returned (.string (decB q)) ∧ Below w.heap.size w w') := fun w => ih q (by omega) w (by omega)
      have e1 : IntKind.i64.wrap ((u : Int) / 10) = (q : Int) := by rw [IntKind.wrap_i64]; omega
      have e2 : ((u : Int)).tmod 10 = (r : Int) := by rw [Int.tmod_eq_emod_of_nonneg (by omega)]; omega
      have e3 : IntKind.i64.wrap (48 + (r : Int)) = 48 + (r : Int) := by rw [IntKind.wrap_i64]; omega
      have e4 : IntKind.u8.wrap (48 + (r : Int)) = 48 + (r : Int) := by rw [IntKind.wrap_u8]; omega
      have HQ : Hid (u = 10 * q + r) := hqr
      have hfin : Hid (decB u = decB q ++ ⟨#[UInt8.ofNat (48 + r)]⟩) := by
        apply bytes_ext
        rw [decB_list, decDigits_step u (by omega), show u / 10 = q from by omega, show u % 10 = r from by omega]
        simp [decB, ByteArray.data_append]
      have hsz : (decB q).size ≤ 15 := decDigits_len q (by omega)
      clear ih hqr
      go_enter Tryd.func31, Tryd.ntmps31
      go_wp2
      go_region_with (go_at_call 31; refine (Hih.out _).mono ?_; rintro e w1 ⟨rfl, hb⟩; obtain ⟨hcc, hff⟩ := bcell hb)
      all_goals (go_wp2; go_ret)
      all_goals refine ⟨ret_str (by rw [hfin.out]; simp), ?_⟩
      · exact below_call_alloc hb
      · exact below_alloc_call hb
      · exact below_alloc_call hb
end Go.Proofs.YtffjpidjhcnnmabDoor
namespace Go.Proofs.YtffjpidjhcnnmabDoor
set_option linter.unusedVariables false
set_option linter.unusedSimpArgs false
open Go.RowKit

def rdecN (s : ByteArray) : Int := ((rdec s).getD 0 : Nat)
def rdecOk (s : ByteArray) : Bool := (rdec s).isSome
theorem rdec_none {s : ByteArray} (h : rdec s = none) : rdecN s = 0 ∧ rdecOk s = false := by simp [rdecN, rdecOk, h]
theorem rdec_some {s : ByteArray} {u : Nat} (h : rdec s = some u) : rdecN s = (u : Int) ∧ rdecOk s = true := by simp [rdecN, rdecOk, h]
theorem ret_ib {k : IntKind} {n m : Int} {a b : Bool} (h : m = n) (h' : b = a) : Ending.returned (.tuple #[.int k n, .bool a]) = .returned (.tuple #[.int k m, .bool b]) := by rw [h, h']

set_option maxHeartbeats 1000000 in
theorem sReadDec_any (s : ByteArray) (w : World) (hs : s.size ≤ maxLen) :
    Calls Tryd.prog 16 #[.string s] w fun e w' => e = .returned (.tuple #[.int .i64 (rdecN s), .bool (rdecOk s)]) ∧ Below w.heap.size w w' := by
  unfold maxLen at hs
  by_cases h0 : s.size = 0
  · have hr := rdec_none (rdec_size s (Or.inl h0))
    have hne : ((s.size : Int) == 0) = true := by rw [beq_iff_eq]; omega
    rw [hr.1, hr.2]
    clear hr
    go_enter Tryd.func16, Tryd.ntmps16
    go_wp2
    go_ret2
    exact ⟨rfl, Below.refl _ _⟩
  · have hne2 : ((s.size : Int) == 0) = false := by rw [Bool.eq_false_iff, ne_eq, beq_iff_eq]; omega
    by_cases hbig : (15 : Int) < (s.size : Int)
    · have hr := rdec_none (rdec_size s (Or.inr (by omega)))
      rw [hr.1, hr.2]
      clear hr
      go_enter Tryd.func16, Tryd.ntmps16
      go_wp2
      go_ret2
      exact ⟨rfl, Below.refl _ _⟩
    · go_enter Tryd.func16, Tryd.ntmps16
      go_wp2
      clear hne2
      go_loop [4, 5] (fun n i => ∃ k : Nat, k ≤ s.size ∧ i = .int .i64 k ∧ n = .int .i64 (valL (s.data.toList.take k) : Nat) ∧ allDig (s.data.toList.take k) = true) (fun _ i => s.size - (intOf i).toNat)
      case atStart => exact ⟨0, Nat.zero_le _, rfl, rfl, rfl⟩
      case round =>
        obtain ⟨k, hk, rfl, rfl, hall⟩ := hrel
        have Hall : Hid (allDig (s.data.toList.take k) = true) := hall
        have hvl : valL (s.data.toList.take k) < 1000000000000000 := by
          have h1 := valL_lt _ hall
          have h3 : 10 ^ (s.data.toList.take k).length ≤ 10 ^ 15 := Nat.pow_le_pow_right (by decide) (by simp; omega)
          have h4 : (10 : Nat) ^ 15 = 1000000000000000 := by decide
          omega
        clear hall
        by_cases hlt : k < s.size
        · cases hg0 : dig8 (at8 s k)
          · have hg : digP (s[k].toNat : Int) = false := by rw [at8_eq s k hlt]; exact hg0
            have hfin : Hid (rdecN s = 0 ∧ rdecOk s = false) := rdec_none (rdec_nodig s k hlt hg0)
            clear hg0
            go_wp2_with (go_at_call 30; refine (l1digit_any _ _).mono ?_; rintro e w' ⟨rfl, rfl⟩)
            go_ret2
            exact ⟨ret_ib hfin.out.1 hfin.out.2, Below.refl _ _⟩
          · have hg : digP (s[k].toNat : Int) = true := by rw [at8_eq s k hlt]; exact hg0
            have hb := (dig8_iff _).1 hg0
            have hval : Hid (valL (s.data.toList.take (k + 1)) = valL (s.data.toList.take k) * 10 + (s[k].toNat - 48)) := by
              show _ = _
              rw [allDig_take_succ s k hlt, valL_snoc, at8_eq s k hlt]
            have Hall2 : Hid (allDig (s.data.toList.take (k + 1)) = true) := by
              show _ = _
              rw [allDig_take_succ s k hlt]; exact allDig_snoc _ _ Hall.out hg0
            have hb1 : 48 ≤ s[k].toNat := by rw [at8_eq s k hlt]; exact hb.1
            have hb2 : s[k].toNat ≤ 57 := by rw [at8_eq s k hlt]; exact hb.2
            clear hg0 hb
            generalize valL (s.data.toList.take k) = v at *
            go_wp2_with (go_at_call 30; refine (l1digit_any _ _).mono ?_; rintro e w' ⟨rfl, rfl⟩)
            go_round
            case rel => exact ⟨k + 1, by omega, by go_num, congrArg (Value.int .i64) (by rw [hval.out]; omega), Hall2.out⟩
            case measure => simp [intOf]; omega
        · obtain rfl : k = s.size := by omega
          have ht : s.data.toList.take s.size = s.data.toList := List.take_of_length_le (by rw [len_data]; exact Nat.le_refl _)
          rw [ht] at Hall hvl ⊢
          have hd := decDigits_len (valL s.data.toList) (by omega)
          have hfin : Hid ((eqB (decB (valL s.data.toList)) s = true ∧ rdecN s = (valL s.data.toList : Nat) ∧ rdecOk s = true) ∨ (eqB (decB (valL s.data.toList)) s = false ∧ rdecN s = 0 ∧ rdecOk s = false)) := by
            show _ ∨ _
            by_cases he : Lib.decDigits (valL s.data.toList) = s.data.toList
            · left
              exact ⟨eqB_iff.2 (bytes_ext he), rdec_some (rdec_yes s (by omega) (by omega) Hall.out he)⟩
            · right
              refine ⟨Bool.eq_false_iff.2 (fun hh => he ?_), rdec_none (rdec_ne s he)⟩
              exact (decB_list _).symm.trans (congrArg (fun x : ByteArray => x.data.toList) (eqB_iff.1 hh))
          clear Hall ht hd
          generalize valL s.data.toList = v at *
          rcases hfin.out with ⟨he, hn, ho⟩ | ⟨he, hn, ho⟩
          all_goals
            have HF : Hid (rdecN s = _ ∧ rdecOk s = _) := ⟨hn, ho⟩
            clear hn ho hfin
            unfold eqB at he
            go_wp2_with (go_at_call 31; refine (sDecText_nat _ _ (by omega)).mono ?_; rintro e w1 ⟨rfl, hb⟩)
            go_ret2
            exact ⟨ret_ib HF.out.1 HF.out.2, hb⟩
set_option maxHeartbeats 1000000 in
theorem ReadDec_any (s : ByteArray) (w : World) (hs : s.size ≤ maxLen) :
    Calls Tryd.prog 40 #[.string s] w fun e w' => e = .returned (.tuple #[.int .i64 (rdecN s), .bool (rdecOk s)]) ∧ w' = w := by
  unfold maxLen at hs
  by_cases h0 : s.size = 0
  · have hr := rdec_none (rdec_size s (Or.inl h0))
    have hne : s.toList.isEmpty = true := by rw [ByteArray.toList_eq, List.isEmpty_iff, ← List.length_eq_zero_iff, Array.length_toList]; exact h0
    rw [hr.1, hr.2]
    clear hr
    go_enter Tryd.func40, Tryd.ntmps40
    go_wp2
    go_ret2
    exact ⟨rfl, rfl⟩
  · have hne : s.toList.isEmpty = false := by
      rw [ByteArray.toList_eq, List.isEmpty_eq_false_iff]
      intro hh
      apply h0
      rw [← len_data, hh]; rfl
    have hpos : 0 < s.size := by omega
    by_cases hz : (at8 s 0).toNat = 48 ∧ s.data.toList ≠ [48]
    · have hr := rdec_none (rdec_zero s hpos hz.1 hz.2)
      have hq1 : ((s[0].toNat : Int) == 48) = true := by rw [beq_iff_eq, at8_eq s 0 hpos]; omega
      have hq2 : (s.toList == [48]) = false := by rw [ByteArray.toList_eq, beq_eq_false_iff_ne]; exact hz.2
      rw [hr.1, hr.2]
      clear hr hz
      go_enter Tryd.func40, Tryd.ntmps40
      go_wp2
      go_ret2
      exact ⟨rfl, rfl⟩
    · have hz' : Hid ((at8 s 0).toNat ≠ 48 ∨ s.data.toList = [48]) := by
        show _ ∨ _
        by_cases h1 : (at8 s 0).toNat = 48
        · right; exact Classical.byContradiction fun h2 => hz ⟨h1, h2⟩
        · left; exact h1
      have hway : (((s[0].toNat : Int) == 48) = false) ∨ (((s[0].toNat : Int) == 48) = true ∧ (s.toList == [48]) = true) := by
        rcases hz'.out with h | h
        · left; rw [beq_eq_false_iff_ne, at8_eq s 0 hpos]; omega
        · by_cases h1 : ((s[0].toNat : Int) == 48) = true
          · right; exact ⟨h1, by rw [ByteArray.toList_eq, h]; rfl⟩
          · left; simpa using h1
      clear hz
      rcases hway with hq1 | ⟨hq1, hq2⟩
      all_goals
        go_enter Tryd.func40, Tryd.ntmps40
        go_wp2
        clear hne
        go_loop [4, 19] (fun n i => ∃ k : Nat, k ≤ s.size ∧ i = .int .i64 k ∧ n = .int .i64 (valL (s.data.toList.take k) : Nat) ∧ allDig (s.data.toList.take k) = true ∧ valL (s.data.toList.take k) ≤ 999999999999999) (fun _ i => s.size - (intOf i).toNat)
        case atStart => exact ⟨0, Nat.zero_le _, rfl, rfl, rfl, by simp [valL]⟩
        case round =>
          obtain ⟨k, hk, rfl, rfl, hall, hvl⟩ := hrel
          have Hall : Hid (allDig (s.data.toList.take k) = true) := hall
          clear hall
          by_cases hlt : k < s.size
          · cases hg0 : dig8 (at8 s k)
            · have hg : digP (s[k].toNat : Int) = false := by rw [at8_eq s k hlt]; exact hg0
              have hfin : Hid (rdecN s = 0 ∧ rdecOk s = false) := rdec_none (rdec_nodig s k hlt hg0)
              clear hg0
              go_wp2_with (go_at_call 55; refine (digitByte_any _ _).mono ?_; rintro e w' ⟨rfl, rfl⟩)
              go_ret2
              exact ⟨ret_ib hfin.out.1 hfin.out.2, rfl⟩
            · have hg : digP (s[k].toNat : Int) = true := by rw [at8_eq s k hlt]; exact hg0
              have hb := (dig8_iff _).1 hg0
              have hval0 : valL (s.data.toList.take (k + 1)) = valL (s.data.toList.take k) * 10 + (s[k].toNat - 48) := by
                rw [allDig_take_succ s k hlt, valL_snoc, at8_eq s k hlt]
              have Hall2 : Hid (allDig (s.data.toList.take (k + 1)) = true) := by
                show _ = _
                rw [allDig_take_succ s k hlt]; exact allDig_snoc _ _ Hall.out hg0
              have hb1 : 48 ≤ s[k].toNat := by rw [at8_eq s k hlt]; exact hb.1
              have hb2 : s[k].toNat ≤ 57 := by rw [at8_eq s k hlt]; exact hb.2
              have hbig : Hid (999999999999999 < valL (s.data.toList.take (k + 1)) → rdecN s = 0 ∧ rdecOk s = false) := fun h => rdec_none (rdec_big s (k + 1) hlt Hall2.out h)
              have hval : Hid (valL (s.data.toList.take (k + 1)) = valL (s.data.toList.take k) * 10 + (s[k].toNat - 48)) := hval0
              clear hg0 hb hval0
              generalize valL (s.data.toList.take k) = v at *
              by_cases hover : (999999999999999 : Int) < (v : Int) * 10 + ((s[k].toNat : Int) - 48)
              · go_wp2_with (go_at_call 55; refine (digitByte_any _ _).mono ?_; rintro e w' ⟨rfl, rfl⟩)
                go_ret2
                have hh := hbig.out (by rw [hval.out]; omega)
                exact ⟨ret_ib hh.1 hh.2, rfl⟩
              · go_wp2_with (go_at_call 55; refine (digitByte_any _ _).mono ?_; rintro e w' ⟨rfl, rfl⟩)
                go_round
                case rel => exact ⟨k + 1, by omega, by go_num, congrArg (Value.int .i64) (by rw [hval.out]; omega), Hall2.out, by rw [hval.out]; omega⟩
                case measure => simp [intOf]; omega
          · obtain rfl : k = s.size := by omega
            have ht : s.data.toList.take s.size = s.data.toList := List.take_of_length_le (by rw [len_data]; exact Nat.le_refl _)
            rw [ht] at Hall hvl ⊢
            have hfin : Hid (rdecN s = (valL s.data.toList : Nat) ∧ rdecOk s = true) := rdec_some (rdec_end s hpos Hall.out hz'.out hvl)
            clear ht
            generalize valL s.data.toList = v at *
            go_wp2
            go_ret2
            exact ⟨ret_ib hfin.out.1 hfin.out.2, rfl⟩
end Go.Proofs.YtffjpidjhcnnmabDoor
