/-
  Plain functions of chapter 1 (bytes): no Go in sight. · Plain functions of chapter 1: gaps and Trim. No Go in sight. · A row of bytes that the call itself makes and appends to, one byte at a time. · What the drawing functions share: a cursor over the code, of which the laws need only that numbers come out of it. No Go text is walked here. · The walks over the drawing functions: what they answer is a number within its bounds, or a text. · The walks over the drawing functions, more. · The walks over the drawing functions: l1bend. · The walks over chapter 1's small functions. · The walks over chapter 1: Fold, SameFold. · The walks over the drawing functions of chapter 1. · A text cut at each byte of one kind, on lists. No Go in sight. · Plain functions of chapter 1: signs of a token. No Go in sight. · Plain functions of chapter 1: decimal numbers. No Go in sight. · Plain functions of chapter 1: numbers in sixteens. No Go in sight. · All bytes of a text are of a kind; a target. No Go in sight.
-/
import Derived.WalkKit
import Derived.WalkSpells
import Derived.WalkLawsBesides
import Derived.Lib.ConvBytes
import Derived.Laws.IdiomStrings
import Derived.Laws.BytesArg
import Derived.Test.YtmhohponikolfaaGreatDoorProg
import Derived.Deep.Quiet
import Derived.Deep.RegionWith
import Derived.Deep.QuietTactic
import Derived.BigQuiet
import Derived.Lib.IndexLaws
import Derived.Lib.Bytealg
import Derived.Lib.SplitLaws
import Derived.Lib.IndexBytes
import Derived.Lib.Join
import Derived.Lib.SmallJoins
import Derived.Lib.ItoaNum
namespace Go.Proofs.YtmhohponikolfaaGreatDoor
set_option linter.unusedVariables false
set_option linter.unusedSimpArgs false
open Go.RowKit

/-- A letter A to Z as its small one, on numbers. -/
def lowI (n : Int) : Int := if 65 ≤ n ∧ n ≤ 90 then n + 32 else n
/-- The same on bytes. -/
def low8 (b : UInt8) : UInt8 := if 65 ≤ b.toNat ∧ b.toNat ≤ 90 then b + 32 else b
def foldL (l : List UInt8) : List UInt8 := l.map low8
def foldB (s : ByteArray) : ByteArray := ⟨(foldL s.data.toList).toArray⟩

theorem low8_toNat (b : UInt8) : ((low8 b).toNat : Int) = lowI (b.toNat : Int) := by
  unfold low8 lowI
  have hb := b.toNat_lt
  by_cases h : 65 ≤ b.toNat ∧ b.toNat ≤ 90
  · rw [if_pos h, if_pos (by omega)]
    rw [UInt8.toNat_add]
    simp
    omega
  · rw [if_neg h, if_neg (by omega)]
theorem lowI_bd (n : Int) (h0 : 0 ≤ n) (h1 : n ≤ 255) : 0 ≤ lowI n ∧ lowI n ≤ 255 := by
  unfold lowI; split <;> omega
theorem foldB_size (s : ByteArray) : (foldB s).size = s.size := by
  show ((s.data.toList.map low8).toArray).size = s.data.size
  simp

theorem ret_bool {a b : Bool} (h : b = a) : Ending.returned (.bool a) = .returned (.bool b) := by rw [h]
theorem ret_int {k : IntKind} {a b : Int} (h : b = a) : Ending.returned (.int k a) = .returned (.int k b) := by rw [h]
theorem ret_str {a b : ByteArray} (h : b = a) : Ending.returned (.string a) = .returned (.string b) := by rw [h]

theorem len_data (s : ByteArray) : s.data.toList.length = s.size := by
  show _ = s.data.size
  simp
theorem u8_lo (b : UInt8) : (0 : Int) ≤ (b.toNat : Int) := Int.natCast_nonneg _
theorem u8_hi (b : UInt8) : (b.toNat : Int) ≤ 255 := by have := b.toNat_lt; omega

/-- Go's '==' on texts. -/
def eqB (a b : ByteArray) : Bool := a.toList == b.toList
theorem eqB_iff {a b : ByteArray} : eqB a b = true ↔ a = b := by
  unfold eqB
  rw [ByteArray.toList_eq, ByteArray.toList_eq, beq_iff_eq]
  constructor
  · intro h
    cases a; cases b
    congr 1
    exact Array.toList_inj.1 h
  · rintro rfl; rfl
theorem eqB_self (a : ByteArray) : eqB a a = true := eqB_iff.2 rfl

/-- A row of bytes at the head of block b: what it holds, and that it may be written. -/
structure Row8 (w : World) (b : Nat) (xs : List Int) : Prop where
  cell : ∀ j, j < xs.length → w.cell? ⟨b, j, none⟩ = some (.int .u8 (xs.getD j 0))
  free : ∀ j, j < xs.length → w.frozen? ⟨b, j, none⟩ = false
  lt : b < w.heap.size

theorem Row8.set {w : World} {b : Nat} {xs : List Int} (h : Row8 w b xs) (k : Nat) (v : Int) (hk : k < xs.length) : Row8 (w.setCell ⟨b, k, none⟩ (.int .u8 v)) b (xs.set k v) := by
  refine ⟨fun j hj => ?_, fun j hj => ?_, by simpa [World.setCell] using h.lt⟩
  · rw [List.length_set] at hj
    by_cases e : j = k
    · subst e
      rw [World.cell?_setCell_same _ _ _ (h.cell j hj)]
      simp [List.getD, hk]
    · rw [World.cell?_setCell_other _ _ _ _ (by intro hh; apply e; injection hh with _ h2; exact h2.symm), h.cell j hj]
      simp [List.getD, Ne.symm e]
  · rw [List.length_set] at hj
    rw [World.frozen?_setCell]
    exact h.free j hj

/-- The numbers of a text's bytes. -/
def nums (s : ByteArray) : List Int := s.data.toList.map fun b => (b.toNat : Int)
theorem nums_length (s : ByteArray) : (nums s).length = s.size := by
  show (s.data.toList.map _).length = s.data.size
  simp
theorem nums_getD (s : ByteArray) (j : Nat) (hj : j < s.size) : (nums s).getD j 0 = ((s.data.toList.getD j 0).toNat : Int) := by
  have hj' : j < s.data.toList.length := by simpa using hj
  simp [nums, List.getD, List.getElem?_eq_getElem hj']
theorem nums_bd (s : ByteArray) (j : Nat) : 0 ≤ (nums s).getD j 0 ∧ (nums s).getD j 0 ≤ 255 := by
  rcases Nat.lt_or_ge j s.size with h | h
  · rw [nums_getD s j h]
    have := (s.data.toList.getD j 0).toNat_lt
    omega
  · have : (nums s).length ≤ j := by rw [nums_length]; exact h
    simp [List.getD, List.getElem?_eq_none this]

theorem row8_bytes (w : World) (e : TypeId) (s : ByteArray) : Row8 (Lib.bytesWorld w e s) w.heap.size (nums s) := by
  refine ⟨fun j hj => ?_, fun j hj => ?_, by rw [Lib.bytesWorld_size]; omega⟩
  · rw [nums_length] at hj
    rw [Lib.bytesWorld_cell w e s j hj, nums_getD s j hj]
  · rw [nums_length] at hj
    have hj' : j < s.data.size := hj
    simp only [World.frozen?, Lib.bytesWorld_at_new]
    have : j < (Lib.bytesCells w e s).size := by simp [Lib.bytesCells]; omega
    simp
    omega

theorem below_bytes (w : World) (e : TypeId) (s : ByteArray) : Below w.heap.size w (Lib.bytesWorld w e s) :=
  ⟨by simp [Lib.bytesWorld, World.freeze, World.alloc, World.drew, -World.alloc_eq, -World.drew_eq], by simp [Lib.bytesWorld, World.freeze, World.alloc, World.drew, -World.alloc_eq, -World.drew_eq],
   by simp [Lib.bytesWorld, World.freeze, World.alloc, World.drew, -World.alloc_eq, -World.drew_eq], by rw [Lib.bytesWorld_size]; omega, fun k hk => Lib.bytesWorld_at_old w e s k hk⟩

/-- The row's text. -/
theorem Row8.text {P : Program} {w : World} {b : Nat} {xs : List Int} (h : Row8 w b xs) (src e dst : TypeId) (n cap : Nat) (hn : xs.length = n) (hs : P.underlying src = some (.slice e)) (he : P.underlying e = some (.int .u8)) (hd : P.underlying dst = some .string) :
    (convert src dst (.slice (some ⟨b, 0, none⟩) n cap)).run P w = .ok (.string (strOfNums xs)) w :=
  run_convert_bytes_arg (P := P) w src e hs he b 0 n cap xs hn (fun i hi => by rw [Nat.zero_add]; exact h.cell i (by omega)) dst hd

/-- After k rounds of folding. -/
def foldTo (s : ByteArray) (k : Nat) : List Int := ((nums s).take k).map lowI ++ (nums s).drop k
theorem foldTo_length (s : ByteArray) (k : Nat) : (foldTo s k).length = s.size := by
  simp only [foldTo, List.length_append, List.length_map, List.length_take, List.length_drop, nums_length]; omega
theorem foldTo_zero (s : ByteArray) : foldTo s 0 = nums s := by simp [foldTo]
theorem foldTo_at (s : ByteArray) (k : Nat) (hk : k < s.size) : (foldTo s k).getD k 0 = (nums s).getD k 0 := by
  have h : ((nums s).take k).length = k := by simp [nums_length]; omega
  unfold foldTo
  rw [List.getD, List.getElem?_append_right (by simp; omega)]
  have e : k - ((nums s).take k |>.map lowI).length = 0 := by rw [List.length_map, h]; omega
  rw [e]
  simp [List.getD]
theorem foldTo_succ (s : ByteArray) (k : Nat) (hk : k < s.size) : foldTo s (k + 1) = (foldTo s k).set k (lowI ((nums s).getD k 0)) := by
  have hl : k < (nums s).length := by rw [nums_length]; exact hk
  unfold foldTo
  rw [List.take_succ_eq_append_getElem hl, List.map_append, List.append_assoc, List.set_append_right _ _ (by simp; omega)]
  have e : k - ((nums s).take k |>.map lowI).length = 0 := by simp; omega
  rw [e]
  have hd := List.drop_eq_getElem_cons hl
  rw [hd]
  simp only [List.map_cons, List.map_nil, List.cons_append, List.nil_append, List.set_cons_zero, List.getD, List.getElem?_eq_getElem hl, Option.getD_some]
theorem foldTo_all (s : ByteArray) : strOfNums (foldTo s s.size) = foldB s := by
  unfold foldTo strOfNums foldB foldL
  have hl : (nums s).length ≤ s.size := by rw [nums_length]; exact Nat.le_refl _
  rw [List.take_of_length_le hl, List.drop_eq_nil_of_le hl, List.append_nil]
  congr 2
  simp only [nums, List.map_map]
  apply List.map_congr_left
  intro b _
  show UInt8.ofNat (lowI (b.toNat : Int)).toNat = low8 b
  rw [← low8_toNat]
  simp
theorem bcell {W w1 : World} (hb : Below W.heap.size W w1) : (∀ b o, b < W.heap.size → w1.cell? ⟨b, o, none⟩ = W.cell? ⟨b, o, none⟩) ∧ (∀ b o, b < W.heap.size → w1.frozen? ⟨b, o, none⟩ = W.frozen? ⟨b, o, none⟩) :=
  ⟨fun b o h => hb.cell (p := ⟨b, o, none⟩) h, fun b o h => hb.frozen (p := ⟨b, o, none⟩) h⟩
end Go.Proofs.YtmhohponikolfaaGreatDoor
namespace Go.Proofs.YtmhohponikolfaaGreatDoor
set_option linter.unusedVariables false
set_option linter.unusedSimpArgs false
open Go.RowKit

def gapP (n : Int) : Bool := n == 32 || n == 9
def gap8 (b : UInt8) : Bool := gapP (b.toNat : Int)
def digP (n : Int) : Bool := decide (48 ≤ n) && decide (n ≤ 57)
def dig8 (b : UInt8) : Bool := digP (b.toNat : Int)
def trimL (l : List UInt8) : List UInt8 := ((l.dropWhile gap8).reverse.dropWhile gap8).reverse
def trimB (s : ByteArray) : ByteArray := ⟨(trimL s.data.toList).toArray⟩

theorem dropWhile_all {α : Type} (p : α → Bool) : ∀ (a b : List α), (∀ x ∈ a, p x = true) → (a ++ b).dropWhile p = b.dropWhile p
  | [], _, _ => rfl
  | x :: a, b, h => by
    have hx : p x = true := h x (by simp)
    rw [List.cons_append, List.dropWhile_cons_of_pos hx]
    exact dropWhile_all p a b (fun y hy => h y (by simp [hy]))
theorem dropWhile_head {α : Type} (p : α → Bool) (x : α) (l : List α) (h : p x = false) : (x :: l).dropWhile p = x :: l := by
  rw [List.dropWhile_cons_of_neg (by simp [h])]
theorem trimL_of (a m z : List UInt8) (ha : ∀ x ∈ a, gap8 x = true) (hz : ∀ x ∈ z, gap8 x = true) (hm : m = [] ∨ ∃ (x y : UInt8) (r q : List UInt8), m = x :: r ∧ m = q ++ [y] ∧ gap8 x = false ∧ gap8 y = false) : trimL (a ++ m ++ z) = m := by
  unfold trimL
  rw [List.append_assoc, dropWhile_all gap8 a (m ++ z) ha]
  rcases hm with rfl | ⟨x, y, r, q, e1, e2, hx, hy⟩
  · rw [List.nil_append]
    have := dropWhile_all gap8 z [] hz
    rw [List.append_nil] at this
    rw [this]
    rfl
  · have h1 : (m ++ z).dropWhile gap8 = m ++ z := by rw [e1, List.cons_append]; exact dropWhile_head gap8 x _ hx
    rw [h1, List.reverse_append, dropWhile_all gap8 z.reverse m.reverse (fun u hu => hz u (by simpa using hu))]
    have h2 : m.reverse = y :: q.reverse := by rw [e2]; simp
    rw [h2, dropWhile_head gap8 y _ hy, ← h2, List.reverse_reverse]

/-- The byte at a place. -/
def at8 (s : ByteArray) (k : Nat) : UInt8 := s.data.toList.getD k 0
theorem at8_eq (s : ByteArray) (k : Nat) (h : k < s.size) : s[k] = at8 s k := by
  have h' : k < s.data.toList.length := by simpa using h
  show s.data[k] = _
  simp [at8, List.getD, List.getElem?_eq_getElem h']

theorem extract_list (s : ByteArray) (k t : Nat) : (s.extract k t).data.toList = (s.data.toList.take t).drop k := by
  rw [ByteArray.data_extract, Array.toList_extract]
  simp only [List.extract]
  rw [List.drop_take]
theorem bytes_ext {a b : ByteArray} (h : a.data.toList = b.data.toList) : a = b := by
  cases a; cases b
  congr 1
  exact Array.toList_inj.1 h

theorem trim_of (s : ByteArray) (k t : Nat) (hk : ∀ j, j < k → gap8 (at8 s j) = true) (he : k = s.size ∨ gap8 (at8 s k) = false) (hkt : k ≤ t) (ht : t ≤ s.size)
    (hz : ∀ j, t ≤ j → j < s.size → gap8 (at8 s j) = true) (hf : t = k ∨ gap8 (at8 s (t - 1)) = false) : s.extract k t = trimB s := by
  apply bytes_ext
  rw [extract_list]
  show _ = trimL s.data.toList
  have hl : s.data.toList.length = s.size := by show _ = s.data.size; simp
  generalize hL : s.data.toList = l at *
  have hat : ∀ j, at8 s j = l.getD j 0 := by intro j; unfold at8; rw [hL]
  have e : l = l.take k ++ (l.take t).drop k ++ l.drop t := by
    have h1 : l.take k = (l.take t).take k := by rw [List.take_take]; congr 1; omega
    rw [h1, List.take_append_drop, List.take_append_drop]
  have hA : ∀ x ∈ l.take k, gap8 x = true := by
    intro x hx
    obtain ⟨j, hj, rfl⟩ := List.mem_iff_getElem.1 hx
    have hj' : j < k ∧ j < l.length := by simp at hj; omega
    have := hk j hj'.1
    rw [hat] at this
    simpa [List.getD, List.getElem?_eq_getElem hj'.2] using this
  have hZ : ∀ x ∈ l.drop t, gap8 x = true := by
    intro x hx
    obtain ⟨j, hj, rfl⟩ := List.mem_iff_getElem.1 hx
    have hj' : t + j < l.length := by simp at hj; omega
    have := hz (t + j) (by omega) (by omega)
    rw [hat] at this
    simpa [List.getD, List.getElem?_eq_getElem hj'] using this
  have hM : (l.take t).drop k = [] ∨ ∃ (x y : UInt8) (r q : List UInt8), (l.take t).drop k = x :: r ∧ (l.take t).drop k = q ++ [y] ∧ gap8 x = false ∧ gap8 y = false := by
    rcases Nat.lt_or_ge k t with h | h
    · right
      have h1 : k < (l.take t).length := by simp; omega
      have h2 : t - 1 < l.length := by omega
      refine ⟨(l.take t)[k], l[t - 1], (l.take t).drop (k + 1), (l.take (t - 1)).drop k, List.drop_eq_getElem_cons h1, ?_, ?_, ?_⟩
      · have e2 : l.take t = l.take (t - 1) ++ [l[t - 1]] := by
          have := List.take_succ_eq_append_getElem h2
          rw [show t - 1 + 1 = t from by omega] at this
          exact this
        rw [e2, List.drop_append_of_le_length (by simp; omega)]
      · rcases he with he | he
        · omega
        · rw [hat] at he
          have h3 : k < l.length := by omega
          simpa [List.getD, List.getElem?_eq_getElem h3, List.getElem_take] using he
      · rcases hf with hf | hf
        · omega
        · rw [hat] at hf
          simpa [List.getD, List.getElem?_eq_getElem h2] using hf
    · left
      apply List.drop_eq_nil_of_le
      simp
      omega
  conv => rhs; rw [e]
  exact (trimL_of _ _ _ hA hZ hM).symm
theorem trimB_size (s : ByteArray) : (trimB s).size ≤ s.size := by
  show (trimL s.data.toList).toArray.size ≤ s.data.size
  have h1 : ∀ (l : List UInt8), (l.dropWhile gap8).length ≤ l.length := fun l => (List.dropWhile_sublist gap8).length_le
  have := h1 s.data.toList
  have h2 := h1 (s.data.toList.dropWhile gap8).reverse
  unfold trimL
  simp at *
  omega
theorem all_succ {p : Nat → Prop} {k : Nat} (h : ∀ j, j < k → p j) (hk : p k) : ∀ j, j < k + 1 → p j := by
  intro j hj
  rcases Nat.lt_or_ge j k with h1 | h1
  · exact h j h1
  · obtain rfl : j = k := by omega
    exact hk
theorem all_pred {p : Nat → Prop} {u n : Nat} (h : ∀ j, u + 1 ≤ j → j < n → p j) (hk : p u) : ∀ j, u ≤ j → j < n → p j := by
  intro j hj hn
  rcases Nat.lt_or_ge u j with h1 | h1
  · exact h j h1 hn
  · obtain rfl : j = u := by omega
    exact hk
theorem u8_beq (a b : UInt8) : ((a.toNat : Int) == (b.toNat : Int)) = (a == b) := by
  rw [Bool.eq_iff_iff, beq_iff_eq, beq_iff_eq]
  constructor
  · intro h; exact UInt8.toNat_inj.1 (by omega)
  · intro h; rw [h]
end Go.Proofs.YtmhohponikolfaaGreatDoor
namespace Go.Proofs.YtmhohponikolfaaGreatDoor
set_option linter.unusedVariables false
set_option linter.unusedSimpArgs false
open Go.RowKit

def c8 (b : UInt8) : Value := .int .u8 (b.toNat : Int)
/-- The value v is a slice of the call's own that holds the bytes l; nothing that was there in w0 has turned. -/
structure Buf (w0 w : World) (v : Value) (l : List UInt8) : Prop where
  below : Below w0.heap.size w0 w
  own : w.ownsRow w0.heap.size 5 1 v l.length (l.map c8)

theorem Tryz.infoU8 : (Tryz.prog.info? 5).map (fun i => (i.zero, i.size, i.bytes)) = some (some (.int .u8 0), 1, 1) := by kernel_rfl

theorem Buf.start (w : World) : Buf w w (.slice none 0 0) [] := ⟨Below.refl _ _, World.ownsRow_nil _ _ _ _⟩
theorem Buf.alloc {w0 w : World} {v : Value} {l : List UInt8} (h : Buf w0 w v l) (o : Obj) : Buf w0 (w.alloc o) v l :=
  ⟨h.below.alloc h.below.size o, h.own.alloc o⟩
theorem Buf.one (w : World) (n : Int) (y : UInt8) (hy : n = (y.toNat : Int)) : Buf w (w.alloc (.cells #[.int .u8 n] 5)) (.slice (some ⟨w.heap.size, 0, none⟩) 1 1) [y] := by
  subst hy
  exact ⟨(Below.refl _ _).alloc (Nat.le_refl _) _, ⟨by simp, .inr ⟨w.heap.size, 1, #[.int .u8 (y.toNat : Int)], rfl, Nat.le_refl _, heap_alloc_new w _, Nat.le_refl _, by decide, by simp, by simp [c8]⟩⟩⟩
theorem Buf.form {w0 w : World} {v : Value} {l : List UInt8} (h : Buf w0 w v l) : ∃ (a : Option Addr) (c : Nat), v = .slice a l.length c := by
  rcases h.own.2 with ⟨h1, h2⟩ | ⟨g, cap, cur, h1, _⟩
  · exact ⟨none, 0, by rw [h1, h2]⟩
  · exact ⟨_, _, h1⟩
theorem Buf.text {w0 w : World} {v : Value} {l : List UInt8} (h : Buf w0 w v l) :
    (convert 22 9 v).run Tryz.prog w = .ok (.string ⟨l.toArray⟩) w := by
  have hl : l.map (fun b => UInt8.ofNat ((b.toNat : Int)).toNat) = l := by
    conv => rhs; rw [← List.map_id l]
    apply List.map_congr_left
    intro b _
    simp
  rcases h.own.2 with ⟨h1, h2⟩ | ⟨g, cap, cur, h1, _, hh, _, _, _, ht⟩
  · have : l = [] := List.length_eq_zero_iff.1 h2
    subst this
    rw [h1]
    exact run_convert_bytes_nil (P := Tryz.prog) w 22 5 Tryz.underlying22 Tryz.underlying5 0 0 9 Tryz.underlying9
  · subst h1
    have hc : ∀ i, i < l.length → w.cell? ⟨g, 0 + i, none⟩ = some (.int .u8 ((l.map fun b => (b.toNat : Int)).getD i 0)) := by
      intro i hi
      have := h.own.cells (g := g) rfl i (.int .u8 ((l[i].toNat : Int))) (by simp [c8, List.getElem?_eq_getElem hi])
      rw [Addr.add_lit] at this
      rw [this]
      simp [List.getD, List.getElem?_eq_getElem hi]
    have := run_convert_bytes_arg (P := Tryz.prog) w 22 5 Tryz.underlying22 Tryz.underlying5 g 0 l.length cap (l.map fun b => (b.toNat : Int)) (by simp) hc 9 Tryz.underlying9
    rw [this]
    simp only [strOfNums, List.map_map]
    exact congrArg (fun x : Array UInt8 => Result.ok (Value.string ⟨x⟩) w) (congrArg List.toArray hl)
theorem wp_app {ops : Array Oper} {rest : List Oper} {o : Oper} {a : Act} {Q : Exit → Act → World → Prop} {w0 W : World} (hgd : o.guard = none) (s x : Operand)
    (ho : o.op = .call { callee := .builtin .append, args := #[s, x], argTypes := #[22, 22] }) (v : Value) (l : List UInt8) (hs : a.eval s = v) (hbuf : Buf w0 W v l)
    (n : Int) (y : UInt8) (hy : n = (y.toNat : Int)) (hx : a.eval x = .slice (some ⟨W.heap.size, 0, none⟩) 1 1) (hlen : l.length ≤ 1099511627776)
    (h : ∀ v' W', Buf w0 W' v' (l ++ [y]) → wpList Tryz.prog ops Q rest (a.put o.dst v') W') :
    wpList Tryz.prog ops Q (o :: rest) a (W.alloc (.cells #[.int .u8 n] 5)) := by
  subst hy
  obtain ⟨i0, hi, hz0, hz1, hz2⟩ := info_parts Tryz.infoU8
  refine wpList_append_own _ hgd s x 22 ho w0.heap.size 5 i0 (.int .u8 0) 1 1 Tryz.underlying22 hi hz0 hz1 hz2 rfl (by decide) v l.length (l.map c8) hs (hbuf.own.alloc _) ⟨W.heap.size, 0, none⟩ 1 1 [c8 y] hx rfl (cell_one_new _ _ _) (fun u hu => by simp at hu; subst hu; rfl) (by unfold maxLen; omega) (by omega) (by have := hbuf.below.size; simp; omega) ?_
  intro v' W' hown hgrow _
  refine h v' W' ⟨?_, ?_⟩
  · refine (hbuf.alloc _).below.grown hgrow (by have := hbuf.below.size; simp; omega) ?_
    intro k hk
    exact (hbuf.own.lt k hk).1
  · rw [List.length_append, List.length_singleton, List.map_append]
    exact hown
end Go.Proofs.YtmhohponikolfaaGreatDoor
namespace Go.Proofs.YtmhohponikolfaaGreatDoor
set_option linter.unusedVariables false
set_option linter.unusedSimpArgs false
open Go.RowKit

/-- The code that came in: nil, or a row of bytes below block p. -/
def CodeRow (w : World) (p : Nat) (a : Option Addr) (len : Nat) : Prop :=
  len = 0 ∨ ∃ b off, a = some ⟨b, off, none⟩ ∧ b < p ∧ ∀ i, i < len → ∃ z : Nat, z ≤ 255 ∧ w.cell? ⟨b, off + i, none⟩ = some (.int .u8 (z : Int))
/-- Block p is the cursor. -/
def Drw (w : World) (p : Nat) : Prop :=
  ∃ (a : Option Addr) (len cap i : Nat) (h : Int), w.heap[p]? = some (.cells #[.slice a len cap, .int .i64 (i : Int), .int .i64 h] 72) ∧ CodeRow w p a len ∧ i ≤ len ∧ len ≤ maxLen
/-- All blocks of w but p stand in w' as they stood. -/
def Kp (p : Nat) (w w' : World) : Prop := w.grownBy w' (some p)

theorem Kp.refl (p : Nat) (w : World) : Kp p w w := ⟨rfl, rfl, rfl, Nat.le_refl _, fun _ _ _ => rfl⟩
theorem Kp.trans {p : Nat} {a b c : World} (h : Kp p a b) (k : Kp p b c) : Kp p a c := World.grownBy.trans h k
theorem Kp.size {p : Nat} {w w' : World} (h : Kp p w w') : w.heap.size ≤ w'.heap.size := World.grownBy.size h
theorem Kp.drew {p : Nat} {a w : World} (h : Kp p a w) : Kp p a w.drew := h.trans (⟨rfl, rfl, rfl, Nat.le_refl _, fun _ _ _ => rfl⟩ : w.grownBy w.drew (some p))
theorem Kp.drewN {p : Nat} {a w : World} (h : Kp p a w) (n : Nat) : Kp p a (w.drewN n) := h.trans (⟨rfl, rfl, rfl, Nat.le_refl _, fun _ _ _ => rfl⟩ : w.grownBy (w.drewN n) (some p))
theorem Kp.alloc {p : Nat} {a w : World} (h : Kp p a w) (o : Obj) : Kp p a (w.alloc o) := h.trans (World.grownBy_alloc w o _)
theorem Kp.setCell {p : Nat} {a w : World} (h : Kp p a w) (off : Nat) (u : Value) : Kp p a (w.setCell ⟨p, off, none⟩ u) :=
  h.trans ⟨rfl, rfl, rfl, by simp [World.setCell], fun k _ hne => Below.heap_setCell _ _ _ _ (fun e => hne (by simp at e; rw [e]))⟩
theorem Kp.below {p : Nat} {w w' : World} (h : Kp p w w') {B : Nat} (hB : B ≤ p) (hp : p ≤ w.heap.size) : Below B w w' :=
  ⟨h.os, h.tape, h.output, World.grownBy.size h, fun k hk => h.block k (by omega) (fun e => by injection e with e; omega)⟩
theorem Kp.of_below {p : Nat} {w w' : World} (h : Below w.heap.size w w') : Kp p w w' := ⟨h.os, h.tape, h.output, h.size, fun k hk _ => h.block k hk⟩
theorem CodeRow.kept {w w' : World} {p : Nat} {a : Option Addr} {len : Nat} (h : CodeRow w p a len) (hb : ∀ k, k < p → w'.heap[k]? = w.heap[k]?) : CodeRow w' p a len := by
  rcases h with h | ⟨b, off, h1, h2, h3⟩
  · exact Or.inl h
  · refine Or.inr ⟨b, off, h1, h2, fun i hi => ?_⟩
    obtain ⟨z, hz, hc⟩ := h3 i hi
    exact ⟨z, hz, (World.cell?_of_block (w := w) (hb b h2)).trans hc⟩
theorem CodeRow.later {w w' : World} {a : Option Addr} {len : Nat} (h : CodeRow w w.heap.size a len) (hb : Below w.heap.size w w') : CodeRow w' w'.heap.size a len := by
  rcases h with h | ⟨b, off, h1, h2, h3⟩
  · exact Or.inl h
  · refine Or.inr ⟨b, off, h1, Nat.lt_of_lt_of_le h2 hb.size, fun i hi => ?_⟩
    obtain ⟨z, hz, hc⟩ := h3 i hi
    exact ⟨z, hz, cell_later hb hc⟩
theorem Drw.lt {w : World} {p : Nat} (h : Drw w p) : p < w.heap.size := by
  obtain ⟨a, len, cap, i, hh, h1, _⟩ := h
  rcases Nat.lt_or_ge p w.heap.size with h | h
  · exact h
  · rw [Array.getElem?_eq_none h] at h1; cases h1
theorem Drw.kept {w w' : World} {p : Nat} (h : Drw w p) (hb : Below w.heap.size w w') : Drw w' p := by
  have hl := h.lt
  obtain ⟨a, len, cap, i, hh, h1, h2, h3⟩ := h
  exact ⟨a, len, cap, i, hh, (hb.block p hl).trans h1, h2.kept (fun k hk => hb.block k (by omega)), h3⟩
theorem Drw.alloc {w : World} {p : Nat} (h : Drw w p) (o : Obj) : Drw (w.alloc o) p := h.kept ((Below.refl _ w).alloc (Nat.le_refl _) o)
theorem Drw.drew {w : World} {p : Nat} (h : Drw w p) : Drw w.drew p := h.kept (Below.refl _ w).drew

theorem Drw.drewN {w : World} {p : Nat} (h : Drw w p) (n : Nat) : Drw (w.drewN n) p := h.kept (⟨rfl, rfl, rfl, Nat.le_refl _, fun _ _ => rfl⟩ : Below w.heap.size w (w.drewN n))
theorem and255 (y : Int) : ∃ n : Nat, n ≤ 255 ∧ bits .and .i64 y 255 = (n : Int) := by
  refine ⟨((BitVec.ofInt 64 y) &&& (BitVec.ofInt 64 255)).toNat, ?_, ?_⟩
  · rw [BitVec.toNat_and]
    exact Nat.and_le_right
  · show IntKind.i64.wrap _ = _
    have h : (((BitVec.ofInt 64 y) &&& (BitVec.ofInt 64 255)).toNat : Int) ≤ 255 := by
      have : ((BitVec.ofInt 64 y) &&& (BitVec.ofInt 64 255)).toNat ≤ 255 := by rw [BitVec.toNat_and]; exact Nat.and_le_right
      omega
    rw [IntKind.wrap_i64]
    show ((((BitVec.ofInt 64 y) &&& (BitVec.ofInt 64 255)).toNat : Int) + 9223372036854775808) % 18446744073709551616 - 9223372036854775808 = _
    omega
theorem ret255 (y : Int) : ∃ n : Nat, n ≤ 255 ∧ Ending.returned (.int .i64 (bits .and .i64 y 255)) = .returned (.int .i64 (n : Int)) := by
  obtain ⟨n, hn, he⟩ := and255 y
  exact ⟨n, hn, by rw [he]⟩
/-- A row of bytes that grows while numbers are drawn. -/
structure DBuf (p : Nat) (w0 w : World) (v : Value) (l : List UInt8) : Prop where
  kp : Kp p w0 w
  own : w.ownsRow w0.heap.size 5 1 v l.length (l.map c8)
  st : Drw w p
  lt : p < w0.heap.size
theorem DBuf.start {p : Nat} {w : World} (h : Drw w p) : DBuf p w w (.slice none 0 0) [] := ⟨Kp.refl _ _, World.ownsRow_nil _ _ _ _, h, h.lt⟩
theorem DBuf.draw {p : Nat} {w0 w w' : World} {v : Value} {l : List UInt8} (h : DBuf p w0 w v l) (hk : Kp p w w') (hd : Drw w' p) : DBuf p w0 w' v l := by
  refine ⟨h.kp.trans hk, h.own.kept hk ?_, hd, h.lt⟩
  cases hv : v.ownBlock with
  | none => exact Or.inl rfl
  | some g =>
    right
    intro e
    injection e with e
    have := (h.own.lt g hv).1
    have := h.lt
    omega
theorem DBuf.text {p : Nat} {w0 w : World} {v : Value} {l : List UInt8} (h : DBuf p w0 w v l) : (convert 22 9 v).run Tryz.prog w = .ok (.string ⟨l.toArray⟩) w := by
  have hl : l.map (fun b => UInt8.ofNat ((b.toNat : Int)).toNat) = l := by
    conv => rhs; rw [← List.map_id l]
    apply List.map_congr_left
    intro b _
    simp
  rcases h.own.2 with ⟨h1, h2⟩ | ⟨g, cap, cur, h1, _, hh, _, _, _, ht⟩
  · have : l = [] := List.length_eq_zero_iff.1 h2
    subst this
    rw [h1]
    exact run_convert_bytes_nil (P := Tryz.prog) w 22 5 Tryz.underlying22 Tryz.underlying5 0 0 9 Tryz.underlying9
  · subst h1
    have hc : ∀ i, i < l.length → w.cell? ⟨g, 0 + i, none⟩ = some (.int .u8 ((l.map fun b => (b.toNat : Int)).getD i 0)) := by
      intro i hi
      have := h.own.cells (g := g) rfl i (.int .u8 ((l[i].toNat : Int))) (by simp [c8, List.getElem?_eq_getElem hi])
      rw [Addr.add_lit] at this
      rw [this]
      simp [List.getD, List.getElem?_eq_getElem hi]
    have := run_convert_bytes_arg (P := Tryz.prog) w 22 5 Tryz.underlying22 Tryz.underlying5 g 0 l.length cap (l.map fun b => (b.toNat : Int)) (by simp) hc 9 Tryz.underlying9
    rw [this]
    simp only [strOfNums, List.map_map]
    exact congrArg (fun x : Array UInt8 => Result.ok (Value.string ⟨x⟩) w) (congrArg List.toArray hl)
theorem wp_dapp {ops : Array Oper} {rest : List Oper} {o : Oper} {a : Act} {Q : Exit → Act → World → Prop} {p : Nat} {w0 W : World} (hgd : o.guard = none) (s x : Operand)
    (ho : o.op = .call { callee := .builtin .append, args := #[s, x], argTypes := #[22, 22] }) (v : Value) (l : List UInt8) (hs : a.eval s = v) (hbuf : DBuf p w0 W v l)
    (n : Int) (y : UInt8) (hy : n = (y.toNat : Int)) (hx : a.eval x = .slice (some ⟨W.heap.size, 0, none⟩) 1 1) (hlen : l.length ≤ 1099511627776)
    (h : ∀ v' W', DBuf p w0 W' v' (l ++ [y]) → wpList Tryz.prog ops Q rest (a.put o.dst v') W') :
    wpList Tryz.prog ops Q (o :: rest) a (W.alloc (.cells #[.int .u8 n] 5)) := by
  subst hy
  obtain ⟨i0, hi, hz0, hz1, hz2⟩ := info_parts Tryz.infoU8
  have hsz := hbuf.kp.size
  refine wpList_append_own _ hgd s x 22 ho w0.heap.size 5 i0 (.int .u8 0) 1 1 Tryz.underlying22 hi hz0 hz1 hz2 rfl (by decide) v l.length (l.map c8) hs (hbuf.own.alloc _) ⟨W.heap.size, 0, none⟩ 1 1 [c8 y] hx rfl (cell_one_new _ _ _) (fun u hu => by simp at hu; subst hu; rfl) (by unfold maxLen; omega) (by omega) (by simp; omega) ?_
  intro v' W' hown hgrow _
  have hne : ∀ k, v.ownBlock = some k → w0.heap.size ≤ k := fun k hk => (hbuf.own.lt k hk).1
  have hlt := hbuf.lt
  have hstlt := hbuf.st.lt
  refine h v' W' ⟨?_, ?_, ?_, hlt⟩
  · refine ⟨hgrow.os.trans (hbuf.kp.alloc _).os, hgrow.tape.trans (hbuf.kp.alloc _).tape, hgrow.output.trans (hbuf.kp.alloc _).output, Nat.le_trans (hbuf.kp.alloc _).size hgrow.size, fun k hk hkne => ?_⟩
    refine (hgrow.block k ?_ ?_).trans ((hbuf.kp.alloc _).block k hk hkne)
    · simp; omega
    · intro e; have := hne k e.symm; omega
  · rw [List.length_append, List.length_singleton, List.map_append]
    exact hown
  · obtain ⟨a1, len, cap, i, hh, h1, h2, h3⟩ := hbuf.st
    have old : ∀ k, k < w0.heap.size → W'.heap[k]? = W.heap[k]? := by
      intro k hk
      rw [hgrow.block k (by simp; omega) (fun e => by have := hne k e.symm; omega)]
      exact Below.heap_alloc _ _ _ (by omega)
    exact ⟨a1, len, cap, i, hh, (old p hlt).trans h1, h2.kept (fun k hk => old k (by omega)), h3⟩
end Go.Proofs.YtmhohponikolfaaGreatDoor
namespace Go.Proofs.YtmhohponikolfaaGreatDoor
set_option linter.unusedVariables false
set_option linter.unusedSimpArgs false
open Go.RowKit

theorem drw_cells {w : World} {p : Nat} {a : Option Addr} {len cap i : Nat} {h : Int} (h1 : w.heap[p]? = some (.cells #[.slice a len cap, .int .i64 (i : Int), .int .i64 h] 72)) :
    w.cell? ⟨p, 0, none⟩ = some (.slice a len cap) ∧ w.cell? ⟨p, 1, none⟩ = some (.int .i64 (i : Int)) ∧ w.cell? ⟨p, 2, none⟩ = some (.int .i64 h) ∧ w.frozen? ⟨p, 1, none⟩ = false ∧ w.frozen? ⟨p, 2, none⟩ = false := by
  simp [World.cell?, World.frozen?, h1]
theorem heap_setCell_same {w : World} {p : Nat} {c : Array Value} {t : TypeId} {fr : Nat × Nat} (h : w.heap[p]? = some (.cells c t fr)) (j : Nat) (u : Value) :
    (w.setCell ⟨p, j, none⟩ u).heap[p]? = some (.cells (c.setIfInBounds j u) t fr) := by
  simp [World.setCell, Array.getElem?_modify, h]
theorem drw_set {w : World} {p : Nat} {a : Option Addr} {len cap i : Nat} {h H : Int} (h1 : w.heap[p]? = some (.cells #[.slice a len cap, .int .i64 (i : Int), .int .i64 h] 72)) (hcode : CodeRow w p a len) (hi : i ≤ len) (hlen : len ≤ maxLen) :
    Kp p w (w.setCell ⟨p, 2, none⟩ (.int .i64 H)) ∧ Drw (w.setCell ⟨p, 2, none⟩ (.int .i64 H)) p := by
  refine ⟨(Kp.refl p w).setCell 2 _, a, len, cap, i, H, ?_, hcode.kept (fun k hk => Below.heap_setCell _ _ _ _ (by simp; omega)), hi, hlen⟩
  rw [heap_setCell_same h1]; rfl
theorem drw_set2 {w : World} {p : Nat} {a : Option Addr} {len cap i : Nat} {h H : Int} (h1 : w.heap[p]? = some (.cells #[.slice a len cap, .int .i64 (i : Int), .int .i64 h] 72)) (hcode : CodeRow w p a len) (hi : i < len) (hlen : len ≤ maxLen) :
    Kp p w ((w.setCell ⟨p, 2, none⟩ (.int .i64 H)).setCell ⟨p, 1, none⟩ (.int .i64 ((i : Int) + 1))) ∧ Drw ((w.setCell ⟨p, 2, none⟩ (.int .i64 H)).setCell ⟨p, 1, none⟩ (.int .i64 ((i : Int) + 1))) p := by
  refine ⟨((Kp.refl p w).setCell 2 _).setCell 1 _, a, len, cap, i + 1, H, ?_, hcode.kept (fun k hk => ?_), hi, hlen⟩
  · rw [heap_setCell_same (heap_setCell_same h1 2 _) 1 _]; rfl
  · rw [Below.heap_setCell _ _ _ _ (by simp; omega), Below.heap_setCell _ _ _ _ (by simp; omega)]
set_option maxHeartbeats 1000000 in
theorem l1Byte_any (p : Nat) (w : World) (hd : Drw w p) :
    Calls Tryz.prog 93 #[.pointer (some ⟨p, 0, none⟩)] w fun e w' => (∃ n : Nat, n ≤ 255 ∧ e = .returned (.int .i64 (n : Int))) ∧ Kp p w w' ∧ Drw w' p := by
  obtain ⟨a, len, cap, i, h, h1, hcode, hi, hlen⟩ := hd
  obtain ⟨c0, c1, c2, f1, f2⟩ := drw_cells h1
  have hlen' := hlen
  unfold maxLen at hlen'
  have S1 : Hid (∀ H : Int, Kp p w (w.setCell ⟨p, 2, none⟩ (.int .i64 H)) ∧ Drw (w.setCell ⟨p, 2, none⟩ (.int .i64 H)) p) := fun H => drw_set h1 hcode hi hlen
  by_cases hlt : i < len
  · rcases hcode with hl0 | ⟨b, off, rfl, hbp, hc⟩
    · omega
    · have S2 : Hid (∀ H : Int, Kp p w ((w.setCell ⟨p, 2, none⟩ (.int .i64 H)).setCell ⟨p, 1, none⟩ (.int .i64 ((i : Int) + 1))) ∧ Drw ((w.setCell ⟨p, 2, none⟩ (.int .i64 H)).setCell ⟨p, 1, none⟩ (.int .i64 ((i : Int) + 1))) p) := fun H => drw_set2 h1 (Or.inr ⟨b, off, rfl, hbp, hc⟩) hlt hlen
      obtain ⟨z, hz, hcz⟩ := hc i hlt
      have hltI : (i : Int) < (len : Int) := by omega
      have hne : b ≠ p := by omega
      have hne2 : p ≠ b := by omega
      have hlt0 : (0 : Int) ≤ (i : Int) := by omega
      clear hc h1
      go_enter Tryz.func93, Tryz.ntmps93
      go_wp2
      go_quiet (fail)
      generalize wrap64 (wrap64 (h * 6364136223846793005) + 1442695040888963407) = H at *
      go_wp2
      go_quiet (fail)
      go_wp2
      go_quiet (fail)
      go_wp2
      go_ret
      exact ⟨ret255 _, (S2.out H).1.drewN _, (S2.out H).2.drewN _⟩
  · have hltI : decide ((i : Int) < (len : Int)) = false := by simp; omega
    clear hcode h1
    go_enter Tryz.func93, Tryz.ntmps93
    go_wp2
    go_quiet (fail)
    generalize wrap64 (wrap64 (h * 6364136223846793005) + 1442695040888963407) = H at *
    go_wp2
    go_quiet (fail)
    go_wp2
    go_ret
    exact ⟨ret255 _, by repeat (first | exact (S1.out H).1 | refine Kp.drewN ?_ _), by repeat (first | exact (S1.out H).2 | refine Drw.drewN ?_ _)⟩
end Go.Proofs.YtmhohponikolfaaGreatDoor
namespace Go.Proofs.YtmhohponikolfaaGreatDoor
set_option linter.unusedVariables false
set_option linter.unusedSimpArgs false
open Go.RowKit

set_option maxHeartbeats 1000000 in
theorem l1Below_any (p : Nat) (n : Int) (w : World) (hd : Drw w p) (hn : n ≤ 1099511627776) :
    Calls Tryz.prog 49 #[.pointer (some ⟨p, 0, none⟩), .int .i64 n] w fun e w' => (∃ m : Nat, (0 < n → (m : Int) < n) ∧ (n ≤ 0 → m = 0) ∧ m ≤ 4294967295 ∧ e = .returned (.int .i64 (m : Int))) ∧ Kp p w w' ∧ Drw w' p := by
  by_cases h0 : n ≤ 0
  · go_enter Tryz.func49, Tryz.ntmps49
    go_wp2
    go_ret
    exact ⟨⟨0, fun h => by omega, fun _ => rfl, by omega, rfl⟩, Kp.refl _ _, hd⟩
  · by_cases h1 : n ≤ 256
    · go_enter Tryz.func49, Tryz.ntmps49
      go_wp2_with fail
      refine (l1Byte_any p _ hd).mono ?_
      rintro e w1 ⟨⟨n1, hn1, rfl⟩, hk1, hd1⟩
      obtain ⟨q, hq⟩ : ∃ q : Nat, (n1 : Int) % n = (q : Int) := ⟨((n1 : Int) % n).toNat, by have := Int.emod_nonneg (n1 : Int) (show n ≠ 0 by omega); omega⟩
      have hlt := Int.emod_lt_of_pos (n1 : Int) (show 0 < n by omega)
      have hQ : Hid ((n1 : Int) % n = (q : Int)) := hq
      have hz : (n == 0) = false := by rw [beq_eq_false_iff_ne]; omega
      go_wp2
      go_ret
      exact ⟨⟨q, fun _ => by rw [← hQ.out]; exact hlt, fun h => by omega, by have := hQ.out; omega, by first | rfl | exact ret_int hQ.out.symm⟩, hk1, hd1⟩
    · go_enter Tryz.func49, Tryz.ntmps49
      go_wp2_with fail
      refine (l1Byte_any p _ hd).mono ?_
      rintro e w1 ⟨⟨n1, hn1, rfl⟩, hk1, hd1⟩
      go_wp2_with fail
      refine (l1Byte_any p _ hd1).mono ?_
      rintro e w2 ⟨⟨n2, hn2, rfl⟩, hk2, hd2⟩
      go_wp2_with fail
      refine (l1Byte_any p _ hd2).mono ?_
      rintro e w3 ⟨⟨n3, hn3, rfl⟩, hk3, hd3⟩
      go_wp2_with fail
      refine (l1Byte_any p _ hd3).mono ?_
      rintro e w4 ⟨⟨n4, hn4, rfl⟩, hk4, hd4⟩
      have hlt := Int.emod_lt_of_pos ((n1 : Int) * 16777216 + (n2 : Int) * 65536 + (n3 : Int) * 256 + (n4 : Int)) (show 0 < n by omega)
      have hge := Int.emod_nonneg ((n1 : Int) * 16777216 + (n2 : Int) * 65536 + (n3 : Int) * 256 + (n4 : Int)) (show n ≠ 0 by omega)
      have hle : ((n1 : Int) * 16777216 + (n2 : Int) * 65536 + (n3 : Int) * 256 + (n4 : Int)) % n ≤ 4294967295 := by
        have hX : 0 ≤ (n1 : Int) * 16777216 + (n2 : Int) * 65536 + (n3 : Int) * 256 + (n4 : Int) := by omega
        have hY : (n1 : Int) * 16777216 + (n2 : Int) * 65536 + (n3 : Int) * 256 + (n4 : Int) ≤ 4294967295 := by omega
        generalize (n1 : Int) * 16777216 + (n2 : Int) * 65536 + (n3 : Int) * 256 + (n4 : Int) = X at *
        have h5 := Int.emod_add_mul_ediv X n
        have h6 : 0 ≤ n * (X / n) := Int.mul_nonneg (by omega) (Int.ediv_nonneg hX (by omega))
        omega
      obtain ⟨q, hq⟩ : ∃ q : Nat, ((n1 : Int) * 16777216 + (n2 : Int) * 65536 + (n3 : Int) * 256 + (n4 : Int)) % n = (q : Int) := ⟨(((n1 : Int) * 16777216 + (n2 : Int) * 65536 + (n3 : Int) * 256 + (n4 : Int)) % n).toNat, by omega⟩
      have hQ : Hid (((n1 : Int) * 16777216 + (n2 : Int) * 65536 + (n3 : Int) * 256 + (n4 : Int)) % n = (q : Int)) := hq
      have hz : (n == 0) = false := by rw [beq_eq_false_iff_ne]; omega
      go_wp2
      go_ret
      exact ⟨⟨q, fun _ => by rw [← hQ.out]; exact hlt, fun h => by omega, by have := hQ.out; omega, by first | rfl | exact ret_int hQ.out.symm⟩, ((hk1.trans hk2).trans hk3).trans hk4, hd4⟩
theorem mem_snoc {l m : List UInt8} {y : UInt8} (h : ∀ x ∈ l, x ∈ m) (hy : y ∈ m) : ∀ x ∈ l ++ [y], x ∈ m := by
  intro x hx
  rcases List.mem_append.1 hx with h1 | h1
  · exact h x h1
  · simp at h1
    subst h1
    exact hy
set_option maxHeartbeats 1000000 in
theorem l1Once_any (p : Nat) (n : Int) (w : World) (hd : Drw w p) (hn : n ≤ 1099511627776) :
    Calls Tryz.prog 64 #[.pointer (some ⟨p, 0, none⟩), .int .i64 n] w fun e w' => (∃ b : Bool, e = .returned (.bool b)) ∧ Kp p w w' ∧ Drw w' p := by
  go_enter Tryz.func64, Tryz.ntmps64
  go_wp2_with fail
  refine (l1Below_any p n _ hd hn).mono ?_
  rintro e w1 ⟨⟨m, _, _, _, rfl⟩, hk1, hd1⟩
  go_wp2
  go_ret
  exact ⟨⟨_, rfl⟩, hk1, hd1⟩
set_option maxHeartbeats 1000000 in
theorem l1of_any (p n : Nat) (s : ByteArray) (w : World) (hd : Drw w p) (hn : n ≤ 1048576) (hs0 : 0 < s.size) (hs1 : s.size ≤ 1048576) :
    Calls Tryz.prog 51 #[.pointer (some ⟨p, 0, none⟩), .int .i64 (n : Int), .string s] w fun e w' => (∃ l : List UInt8, l.length = n ∧ (∀ x ∈ l, x ∈ s.data.toList) ∧ e = .returned (.string ⟨l.toArray⟩)) ∧ Kp p w w' ∧ Drw w' p := by
  go_enter Tryz.func51, Tryz.ntmps51
  go_wp2_with fail
  go_loopw [7, 8] (fun v i wr => ∃ (l : List UInt8), l.length ≤ n ∧ i = .int .i64 (l.length : Int) ∧ (∀ x ∈ l, x ∈ s.data.toList) ∧ DBuf p w wr v l) (fun _ i _ => n - (intOf i).toNat)
  case atStart => exact ⟨[], by simp, rfl, (by intro x hx; cases hx), DBuf.start hd⟩
  case round =>
    obtain ⟨l, hl, rfl, hmem, hbuf⟩ := hrel
    have Hmem : Hid (∀ x ∈ l, x ∈ s.data.toList) := hmem
    clear hmem hd
    by_cases hlt : l.length < n
    · go_wp2_with fail
      refine (l1Below_any p (s.size : Int) _ hbuf.st (by omega)).mono ?_
      rintro e w1 ⟨⟨m, hm, _, _, rfl⟩, hk1, hd1⟩
      have hb1 := hbuf.draw hk1 hd1
      have hms : m < s.size := by have := hm (by omega); omega
      clear hm hbuf
      have HX : Hid (s[m] ∈ s.data.toList) := by
        show s.data[m] ∈ s.data.toList
        simp
      go_wp2_with (at_builtin; refine wp_dapp rfl (.tmp 14) (.tmp 21) rfl _ _ rfl hb1 _ s[m] rfl rfl (by omega) ?_; intro v2 W2 hbuf2)
      go_roundw
      case rel => exact ⟨l ++ [s[m]], by simp; omega, by simp, mem_snoc Hmem.out HX.out, hbuf2⟩
      case measure => simp [intOf]; omega
    · have kb := hbuf.text
      go_wp2
      go_ret
      exact ⟨⟨l, by omega, Hmem.out, rfl⟩, hbuf.kp, hbuf.st⟩
set_option maxRecDepth 100000 in
set_option maxHeartbeats 1000000 in
theorem l1New_any (a : Option Addr) (len cap : Nat) (w : World) (hcode : CodeRow w w.heap.size a len) (hlen : len ≤ maxLen) :
    Calls Tryz.prog 26 #[.slice a len cap] w fun e w' => e = .returned (.pointer (some ⟨w.heap.size, 0, none⟩)) ∧ Below w.heap.size w w' ∧ Drw w' w.heap.size := by
  go_enter Tryz.func26, Tryz.ntmps26
  go_wp2_with fail
  go_loop [3, 4] (fun h i => ∃ (k : Nat) (x : Int), k ≤ len ∧ i = .int .i64 (k : Int) ∧ h = .int .i64 x) (fun _ i => len - (intOf i).toNat)
  case atStart => exact ⟨0, _, Nat.zero_le _, rfl, rfl⟩
  case round =>
    obtain ⟨k, x, hk, rfl, rfl⟩ := hrel
    have Hcode : Hid (CodeRow w w.heap.size a len) := hcode
    by_cases hlt : k < len ∧ k < 4000
    · obtain ⟨hl1, hl2⟩ := hlt
      rcases hcode with hl0 | ⟨b, off, rfl, hbp, hc⟩
      · omega
      · obtain ⟨z, hz, hcz⟩ := hc k hl1
        have hI : (k : Int) < (len : Int) := by omega
        clear hc
        go_wp2
        go_round
        case rel => exact ⟨k + 1, _, by omega, by go_num, rfl⟩
        case measure => simp [intOf]; omega
    · have hend : Hid (Drw (w.alloc (.cells #[.slice a len cap, .int .i64 0, .int .i64 x] 72)) w.heap.size) :=
        ⟨a, len, cap, 0, x, heap_alloc_new w _, hcode.kept (fun k hk => Below.heap_alloc _ _ _ hk), Nat.zero_le _, hlen⟩
      have hway : (¬ k < len) ∨ (k < len ∧ ¬ k < 4000 ∧ decide ((k : Int) < 4000) = false) := by
        by_cases h : k < len
        · right; exact ⟨h, by omega, by simp; omega⟩
        · left; exact h
      clear hcode hlt
      rcases hway with h | ⟨h, h', h''⟩
      · have hd : decide ((k : Int) < (len : Int)) = false := by simp; omega
        go_wp2
        go_ret
        exact ⟨rfl, (Below.refl _ _).alloc (Nat.le_refl _) _, hend.out⟩
      · have hI : (k : Int) < (len : Int) := by omega
        go_wp2
        go_ret
        exact ⟨rfl, (Below.refl _ _).alloc (Nat.le_refl _) _, hend.out⟩
end Go.Proofs.YtmhohponikolfaaGreatDoor
namespace Go.Proofs.YtmhohponikolfaaGreatDoor
set_option linter.unusedVariables false
set_option linter.unusedSimpArgs false
open Go.RowKit

theorem conv1 {P : Program} (src e dst : TypeId) (hs : P.underlying src = some (.slice e)) (he : P.underlying e = some (.int .u8)) (hd : P.underlying dst = some .string) (w : World) (b cap : Nat) (x : Int) (hc : w.cell? ⟨b, 0, none⟩ = some (.int .u8 x)) :
    (convert src dst (.slice (some ⟨b, 0, none⟩) 1 cap)).run P w = .ok (.string ⟨#[UInt8.ofNat x.toNat]⟩) w :=
  run_convert_bytes_arg (P := P) w src e hs he b 0 1 cap [x] rfl (fun i hi => by obtain rfl : i = 0 := by omega
                                                                                 exact hc) dst hd
theorem Kp.cell {p : Nat} {w w' : World} (h : Kp p w w') {a : Addr} {v : Value} (hc : w.cell? a = some v) (hne : a.block ≠ p) : w'.cell? a = some v :=
  World.grownBy.cell h hc (fun e => hne (by injection e))
theorem Kp.of_drew {p : Nat} {w w' : World} (h : Kp p w.drew w') : Kp p w w' := (Kp.refl p w).drew.trans h
theorem bend_size (s : ByteArray) (a : Nat) (x : UInt8) (ha : a ≤ s.size) : (s.extract 0 a ++ ⟨#[x]⟩ ++ s.extract a s.size).size ≤ s.size + 1 := by
  have e : (ByteArray.mk #[x]).size = 1 := rfl
  rw [ByteArray.size_append, ByteArray.size_append, ByteArray.size_extract, ByteArray.size_extract, e]
  omega
theorem Kp.setNew {p : Nat} {a w : World} (h : Kp p a w) {g : Nat} (hg : a.heap.size ≤ g) (off : Nat) (u : Value) : Kp p a (w.setCell ⟨g, off, none⟩ u) :=
  ⟨h.os, h.tape, h.output, by have := h.size; simpa [World.setCell] using this, fun k hk hne => (Below.heap_setCell _ _ _ _ (by simp; omega)).trans (h.block k hk hne)⟩
theorem Drw.setNew {w : World} {p : Nat} (h : Drw w p) {g : Nat} (hg : p < g) (off : Nat) (u : Value) : Drw (w.setCell ⟨g, off, none⟩ u) p := by
  obtain ⟨a, len, cap, i, hh, h1, h2, h3⟩ := h
  exact ⟨a, len, cap, i, hh, (Below.heap_setCell _ _ _ _ (by simp; omega)).trans h1, h2.kept (fun k hk => Below.heap_setCell _ _ _ _ (by simp; omega)), h3⟩
theorem Row8.kp {p : Nat} {w w' : World} {b : Nat} {xs : List Int} (h : Row8 w b xs) (hk : Kp p w w') (hne : b ≠ p) : Row8 w' b xs :=
  ⟨fun j hj => hk.cell (h.cell j hj) hne, fun j hj => (World.frozen?_of_block (w := w) (hk.block b h.lt (fun e => hne (by injection e)))).trans (h.free j hj), Nat.lt_of_lt_of_le h.lt hk.size⟩

set_option maxHeartbeats 2000000 in
theorem l1bend_any (p : Nat) (s : ByteArray) (w : World) (hd : Drw w p) (hs : s.size ≤ 1048576) :
    Calls Tryz.prog 50 #[.pointer (some ⟨p, 0, none⟩), .string s] w fun e w' => (∃ t : ByteArray, t.size ≤ s.size + 1 ∧ e = .returned (.string t)) ∧ Kp p w w' ∧ Drw w' p := by
  have kb := fun (w : World) (b cap : Nat) (x : Int) => conv1 (P := Tryz.prog) 22 5 9 Tryz.underlying22 Tryz.underlying5 Tryz.underlying9 w b cap x
  go_enter Tryz.func50, Tryz.ntmps50
  go_wp2_with fail
  refine (l1Below_any p ((s.size : Int) + 1) _ hd (by omega)).mono ?_
  rintro e w1 ⟨⟨at', hat, _, _, rfl⟩, hk1, hd1⟩
  have hat1 : at' ≤ s.size := by have := hat (by omega); omega
  clear hat hd
  go_wp2_with fail
  refine (l1Below_any p 4 _ hd1 (by omega)).mono ?_
  rintro e w2 ⟨⟨m, hm, _, _, rfl⟩, hk2, hd2⟩
  have hm4 : m < 4 := by have := hm (by omega); omega
  have hk := hk1.trans hk2
  clear hm hd1 hk1 hk2
  by_cases h0 : m = 0
  · subst h0
    go_wp2_with fail
    go_region_with (go_at_call 93; refine (l1Byte_any p _ hd2.drew).mono ?_; rintro e w3 ⟨⟨z, hz, rfl⟩, hk3, hd3⟩)
    all_goals
      go_wp2
      go_ret
      refine ⟨⟨_, ?_, rfl⟩, ?_, ?_⟩
      · exact bend_size s at' _ hat1
      · exact (hk.trans (Kp.of_drew hk3)).alloc _
      · exact hd3.alloc _
  · have g0 : ((m : Int) == 0) = false := by rw [beq_eq_false_iff_ne]; omega
    by_cases h1 : m = 1
    · subst h1
      clear g0
      go_wp2
      go_ret
      refine ⟨⟨_, ?_, rfl⟩, hk, hd2⟩
      simp [ByteArray.size_extract]; omega
    · have g1 : ((m : Int) == 1) = false := by rw [beq_eq_false_iff_ne]; omega
      by_cases h2 : m = 2 ∧ at' < s.size
      · obtain ⟨rfl, hlt⟩ := h2
        clear g0 g1 h0 h1
        have hI : (at' : Int) < (s.size : Int) := by omega
        go_wp2
        go_quiet (fail)
        go_wp2
        go_ret
        refine ⟨⟨_, ?_, rfl⟩, hk.drewN _, hd2.drewN _⟩
        simp [ByteArray.size_append, ByteArray.size_extract]; omega
      · have hway : (m = 2 ∧ ¬ at' < s.size) ∨ (m = 3 ∧ ¬ at' < s.size) ∨ (m = 3 ∧ at' < s.size) := by omega
        clear h2
        rcases hway with ⟨rfl, hlt⟩ | ⟨rfl, hlt⟩ | ⟨rfl, hlt⟩
        · clear g0 g1
          go_wp2
          go_ret
          refine ⟨⟨_, ?_, rfl⟩, hk, hd2⟩
          simp [ByteArray.size_append]; simp [ByteArray.size]
        · clear g0 g1
          go_wp2
          go_ret
          refine ⟨⟨_, ?_, rfl⟩, hk, hd2⟩
          simp [ByteArray.size_append]; simp [ByteArray.size]
        · clear g0 g1 h0 h1 kb
          have hI : (at' : Int) < (s.size : Int) := by omega
          have kc := fun w => Lib.run_convert_string_bytes (P := Tryz.prog) w 9 22 5 s Tryz.underlying9 Tryz.underlying22 Tryz.underlying5
          have R0 := row8_bytes w2 5 s
          have B0 := below_bytes w2 5 s
          have hd4 := hd2.kept B0
          have hk4 : Kp p w (Lib.bytesWorld w2 5 s) := hk.trans (Kp.of_below B0)
          have hpw : p < w2.heap.size := hd2.lt
          have hwg : w.heap.size ≤ w2.heap.size := hk.size
          go_wp2
          generalize Lib.bytesWorld w2 5 s = X at *
          generalize w2.heap.size = g at *
          clear kc B0 hk
          have hne : g ≠ p := by omega
          have hc0 := R0.cell at' (by rw [nums_length]; exact hlt)
          have hf0 := R0.free at' (by rw [nums_length]; exact hlt)
          go_region_with (go_at_call 49; refine (l1Below_any p 8 _ hd4.drew (by omega)).mono ?_; rintro e w3 ⟨⟨m3, hm3, _, hm4, rfl⟩, hk3, hd3⟩; have hX3 := Kp.of_drew hk3; have hc3 := hX3.cell hc0 hne; have hf3 := (R0.kp hX3 hne).free at' (by rw [nums_length]; exact hlt); have hm8 := hm3 (by omega))
          all_goals
            have kt := fun (V : Int) => ((R0.kp hX3 hne).set at' V (by rw [nums_length]; exact hlt)).text (P := Tryz.prog) 22 5 9 s.size (grownCap w2 s.size 0 5) (by rw [List.length_set, nums_length]) Tryz.underlying22 Tryz.underlying5 Tryz.underlying9
            go_wp2
            go_ret
            refine ⟨⟨_, ?_, rfl⟩, (hk4.trans hX3).setNew hwg _ _, hd3.setNew (by omega) _ _⟩
            rw [strOfNums_size, List.length_set, nums_length]
            omega
end Go.Proofs.YtmhohponikolfaaGreatDoor
namespace Go.Proofs.YtmhohponikolfaaGreatDoor
set_option linter.unusedVariables false
set_option linter.unusedSimpArgs false
open Go.RowKit

set_option maxHeartbeats 400000 in
theorem smallByte_any (n : Int) (w : World) (h0 : 0 ≤ n) (h1 : n ≤ 255) :
    Calls Tryz.prog 89 #[.int .u8 n] w fun e w' => e = .returned (.int .u8 (lowI n)) ∧ w' = w := by
  unfold lowI
  by_cases ha : 65 ≤ n
  · by_cases hb : n ≤ 90
    · rw [if_pos ⟨ha, hb⟩]
      go_enter Tryz.func89, Tryz.ntmps89
      go_wp2
      go_ret
      exact ⟨rfl, rfl⟩
    · rw [if_neg (by omega)]
      go_enter Tryz.func89, Tryz.ntmps89
      go_wp2
      go_ret
      exact ⟨rfl, rfl⟩
  · rw [if_neg (by omega)]
    go_enter Tryz.func89, Tryz.ntmps89
    go_wp2
    go_ret
    exact ⟨rfl, rfl⟩
set_option maxHeartbeats 400000 in
theorem l1lower_any (n : Int) (w : World) (h0 : 0 ≤ n) (h1 : n ≤ 255) :
    Calls Tryz.prog 76 #[.int .u8 n] w fun e w' => e = .returned (.int .u8 (lowI n)) ∧ w' = w := by
  unfold lowI
  by_cases ha : 65 ≤ n
  · by_cases hb : n ≤ 90
    · rw [if_pos ⟨ha, hb⟩]
      go_enter Tryz.func76, Tryz.ntmps76
      go_wp2
      go_ret
      exact ⟨rfl, rfl⟩
    · rw [if_neg (by omega)]
      go_enter Tryz.func76, Tryz.ntmps76
      go_wp2
      go_ret
      exact ⟨rfl, rfl⟩
  · rw [if_neg (by omega)]
    go_enter Tryz.func76, Tryz.ntmps76
    go_wp2
    go_ret
    exact ⟨rfl, rfl⟩
end Go.Proofs.YtmhohponikolfaaGreatDoor
namespace Go.Proofs.YtmhohponikolfaaGreatDoor
set_option linter.unusedVariables false
set_option linter.unusedSimpArgs false
open Go.RowKit

theorem fold_round {s : ByteArray} {k : Nat} {w wr : World} (hlt : k < s.size) (hrow : Hid (Row8 wr w.heap.size (foldTo s k))) (hbel : Hid (Below w.heap.size w wr)) :
    Row8 (wr.setCell ⟨w.heap.size, k, none⟩ (.int .u8 (lowI ((nums s).getD k 0)))) w.heap.size (foldTo s (k + 1)) ∧ Below w.heap.size w (wr.setCell ⟨w.heap.size, k, none⟩ (.int .u8 (lowI ((nums s).getD k 0)))) := by
  refine ⟨?_, hbel.out.setCell (by simp) _⟩
  rw [foldTo_succ s k hlt]
  exact hrow.out.set k _ (by rw [foldTo_length]; exact hlt)

set_option maxHeartbeats 1000000 in
theorem Fold_any (s : ByteArray) (w : World) (hs : s.size ≤ maxLen) :
    Calls Tryz.prog 44 #[.string s] w fun e w' => e = .returned (.string (foldB s)) ∧ Below w.heap.size w w' := by
  unfold maxLen at hs
  have kc := fun w => Lib.run_convert_string_bytes (P := Tryz.prog) w 9 22 5 s Tryz.underlying9 Tryz.underlying22 Tryz.underlying5
  have HR : Hid (Row8 (Lib.bytesWorld w 5 s) w.heap.size (nums s)) := row8_bytes w 5 s
  have HB : Hid (Below w.heap.size w (Lib.bytesWorld w 5 s)) := below_bytes w 5 s
  go_enter Tryz.func44, Tryz.ntmps44
  go_wp2
  generalize Lib.bytesWorld w 5 s = W1 at HR HB
  clear kc
  go_loopw [9] (fun i wr => ∃ k : Nat, k ≤ s.size ∧ i = .int .i64 k ∧ Row8 wr w.heap.size (foldTo s k) ∧ Below w.heap.size w wr) (fun i _ => s.size - (intOf i).toNat)
  case atStart => exact ⟨0, Nat.zero_le _, rfl, by rw [foldTo_zero]; exact HR.out, HB.out⟩
  case round =>
    obtain ⟨k, hk, rfl, hrow, hbel⟩ := hrel
    clear HR HB
    by_cases hlt : k < s.size
    · have hc := hrow.cell k (by rw [foldTo_length]; exact hlt)
      have hf := hrow.free k (by rw [foldTo_length]; exact hlt)
      rw [foldTo_at s k hlt] at hc
      have hbd := nums_bd s k
      have R := fold_round hlt hrow hbel
      have HRR : Hid (Row8 (wr.setCell ⟨w.heap.size, k, none⟩ (.int .u8 (lowI ((nums s).getD k 0)))) w.heap.size (foldTo s (k + 1)) ∧ Below w.heap.size w (wr.setCell ⟨w.heap.size, k, none⟩ (.int .u8 (lowI ((nums s).getD k 0))))) := R
      clear hrow hbel R
      generalize (nums s).getD k 0 = x at *
      go_wp2_with (go_at_call 89; refine (smallByte_any _ _ (by omega) (by omega)).mono ?_; rintro e w' ⟨rfl, rfl⟩)
      go_roundw
      case rel => exact ⟨k + 1, by omega, by go_num, HRR.out.1, HRR.out.2⟩
      case measure => simp [intOf]; omega
    · obtain rfl : k = s.size := by omega
      have kb := hrow.text (P := Tryz.prog) 22 5 9 s.size (grownCap w s.size 0 5) (foldTo_length s s.size) Tryz.underlying22 Tryz.underlying5 Tryz.underlying9
      rw [foldTo_all] at kb
      go_wp2
      go_ret
      exact ⟨rfl, hbel⟩
set_option maxHeartbeats 1000000 in
theorem sFold_any (s : ByteArray) (w : World) (hs : s.size ≤ maxLen) :
    Calls Tryz.prog 34 #[.string s] w fun e w' => e = .returned (.string (foldB s)) ∧ Below w.heap.size w w' := by
  unfold maxLen at hs
  have kc := fun w => Lib.run_convert_string_bytes (P := Tryz.prog) w 9 22 5 s Tryz.underlying9 Tryz.underlying22 Tryz.underlying5
  have HR : Hid (Row8 (Lib.bytesWorld w 5 s) w.heap.size (nums s)) := row8_bytes w 5 s
  have HB : Hid (Below w.heap.size w (Lib.bytesWorld w 5 s)) := below_bytes w 5 s
  go_enter Tryz.func34, Tryz.ntmps34
  go_wp2
  generalize Lib.bytesWorld w 5 s = W1 at HR HB
  clear kc
  go_loopw [4] (fun i wr => ∃ k : Nat, k ≤ s.size ∧ i = .int .i64 k ∧ Row8 wr w.heap.size (foldTo s k) ∧ Below w.heap.size w wr) (fun i _ => s.size - (intOf i).toNat)
  case atStart => exact ⟨0, Nat.zero_le _, rfl, by rw [foldTo_zero]; exact HR.out, HB.out⟩
  case round =>
    obtain ⟨k, hk, rfl, hrow, hbel⟩ := hrel
    clear HR HB
    by_cases hlt : k < s.size
    · have hc := hrow.cell k (by rw [foldTo_length]; exact hlt)
      have hf := hrow.free k (by rw [foldTo_length]; exact hlt)
      rw [foldTo_at s k hlt] at hc
      have hbd := nums_bd s k
      have R := fold_round hlt hrow hbel
      have HRR : Hid (Row8 (wr.setCell ⟨w.heap.size, k, none⟩ (.int .u8 (lowI ((nums s).getD k 0)))) w.heap.size (foldTo s (k + 1)) ∧ Below w.heap.size w (wr.setCell ⟨w.heap.size, k, none⟩ (.int .u8 (lowI ((nums s).getD k 0))))) := R
      clear hrow hbel R
      generalize (nums s).getD k 0 = x at *
      go_wp2_with (go_at_call 76; refine (l1lower_any _ _ (by omega) (by omega)).mono ?_; rintro e w' ⟨rfl, rfl⟩)
      go_roundw
      case rel => exact ⟨k + 1, by omega, by go_num, HRR.out.1, HRR.out.2⟩
      case measure => simp [intOf]; omega
    · obtain rfl : k = s.size := by omega
      have kb := hrow.text (P := Tryz.prog) 22 5 9 s.size (grownCap w s.size 0 5) (foldTo_length s s.size) Tryz.underlying22 Tryz.underlying5 Tryz.underlying9
      rw [foldTo_all] at kb
      go_wp2
      go_ret
      exact ⟨rfl, hbel⟩
set_option maxHeartbeats 1000000 in
theorem SameFold_any (a b : ByteArray) (w : World) (ha : a.size ≤ maxLen) (hb : b.size ≤ maxLen) :
    Calls Tryz.prog 120 #[.string a, .string b] w fun e w' => e = .returned (.bool (eqB (foldB a) (foldB b))) ∧ Below w.heap.size w w' := by
  go_enter Tryz.func120, Tryz.ntmps120
  go_wp2_with fail
  refine (Fold_any a _ ha).mono ?_
  rintro e w1 ⟨rfl, hb1⟩
  go_wp2_with fail
  refine (Fold_any b _ hb).mono ?_
  rintro e w2 ⟨rfl, hb2⟩
  go_wp2
  go_ret
  exact ⟨rfl, hb1.trans (hb2.mono hb1.size)⟩
set_option maxHeartbeats 1000000 in
theorem sSameFold_any (a b : ByteArray) (w : World) (ha : a.size ≤ maxLen) (hb : b.size ≤ maxLen) :
    Calls Tryz.prog 11 #[.string a, .string b] w fun e w' => e = .returned (.bool (eqB (foldB a) (foldB b))) ∧ Below w.heap.size w w' := by
  go_enter Tryz.func11, Tryz.ntmps11
  go_wp2_with fail
  refine (sFold_any a _ ha).mono ?_
  rintro e w1 ⟨rfl, hb1⟩
  go_wp2_with fail
  refine (sFold_any b _ hb).mono ?_
  rintro e w2 ⟨rfl, hb2⟩
  go_wp2
  go_ret
  exact ⟨rfl, hb1.trans (hb2.mono hb1.size)⟩
end Go.Proofs.YtmhohponikolfaaGreatDoor
namespace Go.Proofs.YtmhohponikolfaaGreatDoor
set_option linter.unusedVariables false
set_option linter.unusedSimpArgs false
open Go.RowKit

/-- What the laws tell of their code. -/
structure Code (w : World) (a : Option Addr) (len : Nat) : Prop where
  row : CodeRow w w.heap.size a len
  max : len ≤ maxLen
theorem Code.later {w w' : World} {a : Option Addr} {len : Nat} (h : Code w a len) (hb : Below w.heap.size w w') : Code w' a len := ⟨h.row.later hb, h.max⟩

end Go.Proofs.YtmhohponikolfaaGreatDoor
namespace Go.Proofs.YtmhohponikolfaaGreatDoor
set_option linter.unusedVariables false
set_option linter.unusedSimpArgs false
open Go.RowKit
/-- Where the first byte c stands, or -1. -/
def idxS (c : UInt8) (s : ByteArray) : Int := Lib.indexByte s.data.toList c
theorem idxS_some {c : UInt8} {s : ByteArray} {i : Nat} (h : idxS c s = (i : Int)) : i < s.size ∧ at8 s i = c ∧ ∀ j, j < i → at8 s j ≠ c := by
  obtain ⟨h1, h2⟩ := Lib.indexByte_some h
  have hi : i < s.data.toList.length := (List.getElem?_eq_some_iff.1 h1).1
  have hi' : i < s.size := by rw [len_data] at hi; exact hi
  refine ⟨hi', by unfold at8; rw [List.getD, h1]; rfl, fun j hj he => h2 j hj ?_⟩
  have hj' : j < s.data.toList.length := by rw [len_data]; omega
  unfold at8 at he
  rw [List.getD, List.getElem?_eq_getElem hj'] at he
  rw [List.getElem?_eq_getElem hj']
  simpa using he
theorem idxS_none {c : UInt8} {s : ByteArray} (h : idxS c s = -1) : ∀ j, j < s.size → at8 s j ≠ c := by
  intro j hj he
  have hj' : j < s.data.toList.length := by rw [len_data]; omega
  refine Lib.indexByte_none h j ?_
  unfold at8 at he
  rw [List.getD, List.getElem?_eq_getElem hj'] at he
  rw [List.getElem?_eq_getElem hj']
  simpa using he
theorem idxS_cases (c : UInt8) (s : ByteArray) : idxS c s = -1 ∨ ∃ i : Nat, idxS c s = (i : Int) ∧ i < s.size := by
  have h := Lib.indexByte_ge s.data.toList c
  by_cases h1 : idxS c s = -1
  · exact .inl h1
  · right
    have h2 : -1 ≤ idxS c s := h
    have h3 : idxS c s = ((idxS c s).toNat : Int) := by omega
    exact ⟨(idxS c s).toNat, h3, (idxS_some h3).1⟩
theorem idxS_of {c : UInt8} {s : ByteArray} {i : Nat} (h1 : i < s.size) (h2 : at8 s i = c) (h3 : ∀ j, j < i → at8 s j ≠ c) : idxS c s = (i : Int) := by
  rcases idxS_cases c s with h | ⟨k, hk, _⟩
  · exact absurd h2 (idxS_none h i h1)
  · obtain ⟨g1, g2, g3⟩ := idxS_some hk
    rcases Nat.lt_trichotomy k i with h | h | h
    · exact absurd g2 (h3 k h)
    · rw [hk, h]
    · exact absurd h2 (g3 i h)
theorem idxS_miss {c : UInt8} {s : ByteArray} (h : ∀ j, j < s.size → at8 s j ≠ c) : idxS c s = -1 := by
  rcases idxS_cases c s with h1 | ⟨k, hk, _⟩
  · exact h1
  · obtain ⟨g1, g2, _⟩ := idxS_some hk
    exact absurd g2 (h k g1)
theorem idxS_B (c : UInt8) (s : ByteArray) : Lib.indexB s ⟨#[c]⟩ = idxS c s := by
  show Lib.index s.data.toList [c] = _
  exact Lib.index_one _ _
/-- How many there are, and the pieces between them. -/
def cntS (c : UInt8) (s : ByteArray) : Nat := Lib.countB s ⟨#[c]⟩
def splS (c : UInt8) (s : ByteArray) : List ByteArray := Lib.splitB ⟨#[c]⟩ 0 (cntS c s) s
theorem splS_none {c : UInt8} {s : ByteArray} (h : idxS c s = -1) : cntS c s = 0 ∧ splS c s = [s] := by
  have h1 : cntS c s = 0 := Lib.countB_miss s _ (by rw [idxS_B]; exact h)
  exact ⟨h1, by unfold splS; rw [h1]; rfl⟩
theorem splS_some {c : UInt8} {s : ByteArray} {i : Nat} (h : idxS c s = (i : Int)) : cntS c s = 1 + cntS c (s.extract (i + 1) s.size) ∧ splS c s = s.extract 0 i :: splS c (s.extract (i + 1) s.size) := by
  have h0 : Lib.indexB s ⟨#[c]⟩ = (i : Int) := by rw [idxS_B]; exact h
  have h1 := Lib.countB_hit s ⟨#[c]⟩ i (Nat.le_refl _) h0
  have e : (⟨#[c]⟩ : ByteArray).size = 1 := rfl
  rw [e] at h1
  refine ⟨h1, ?_⟩
  unfold splS
  rw [show cntS c s = 1 + cntS c (s.extract (i + 1) s.size) from h1, Nat.add_comm, Lib.splitB_hit _ _ _ _ i h0, e, Nat.add_zero]
theorem splS_len (c : UInt8) (s : ByteArray) : (splS c s).length = cntS c s + 1 := Lib.splitB_all _ (Nat.le_refl _) 0 _ s rfl
theorem splS_cnt (c : UInt8) (s : ByteArray) : cntS c s ≤ s.size := Lib.countB_le ⟨#[c]⟩ (Nat.le_refl _) s.size s (Nat.le_refl _)
theorem splS_ne (c : UInt8) (s : ByteArray) : splS c s ≠ [] := by
  intro h
  have := splS_len c s
  rw [h] at this
  simp at this
theorem at8_extS {s : ByteArray} {a b j : Nat} (hb : b ≤ s.size) (hj : a + j < b) : at8 (s.extract a b) j = at8 s (a + j) := by
  unfold at8
  rw [Lib.extract_data]
  simp only [List.getD]
  rw [List.getElem?_take_of_lt (by omega), List.getElem?_drop]
/-- The pieces and what parts them make no more than the text. -/
def sumS (l : List ByteArray) : Nat := (l.map ByteArray.size).sum
theorem splS_sum (c : UInt8) : ∀ (n : Nat) (s : ByteArray), s.size ≤ n → sumS (splS c s) + cntS c s = s.size
  | n, s, hn => by
    rcases idxS_cases c s with h | ⟨i, h, hi⟩
    · obtain ⟨h1, h2⟩ := splS_none h
      rw [h1, h2]; simp [sumS]
    · obtain ⟨h1, h2⟩ := splS_some h
      cases n with
      | zero => omega
      | succ n =>
        have e : (s.extract (i + 1) s.size).size = s.size - (i + 1) := by rw [ByteArray.size_extract]; omega
        have e0 : (s.extract 0 i).size = i := by rw [ByteArray.size_extract]; omega
        have ih := splS_sum c n (s.extract (i + 1) s.size) (by omega)
        rw [h1, h2]
        have : sumS (s.extract 0 i :: splS c (s.extract (i + 1) s.size)) = i + sumS (splS c (s.extract (i + 1) s.size)) := by simp [sumS, e0]
        omega
theorem sumS_mem {l : List ByteArray} {x : ByteArray} (h : x ∈ l) : x.size ≤ sumS l := by
  induction l with
  | nil => cases h
  | cons y r ih =>
    have e : sumS (y :: r) = y.size + sumS r := by simp [sumS]
    rcases List.mem_cons.1 h with rfl | h
    · omega
    · have := ih h; omega
theorem splS_mem {c : UInt8} {s x : ByteArray} (h : x ∈ splS c s) : x.size ≤ s.size := by
  have h1 := sumS_mem h
  have h2 := splS_sum c s.size s (Nat.le_refl _)
  omega
/-- Cut by one loop that goes on byte by byte. -/
theorem splS_step {c : UInt8} {s : ByteArray} {f i : Nat} (hf : f ≤ i) (hi : i < s.size) (h : at8 s i = c) (h0 : ∀ j, f ≤ j → j < i → at8 s j ≠ c) : splS c (s.extract f s.size) = s.extract f i :: splS c (s.extract (i + 1) s.size) := by
  have e : (s.extract f s.size).size = s.size - f := by rw [ByteArray.size_extract]; omega
  have hx : idxS c (s.extract f s.size) = ((i - f : Nat) : Int) := by
    refine idxS_of (by omega) ?_ ?_
    · rw [at8_extS (Nat.le_refl _) (by omega), show f + (i - f) = i by omega]; exact h
    · intro j hj
      rw [at8_extS (Nat.le_refl _) (by omega)]
      exact h0 _ (by omega) (by omega)
  rw [(splS_some hx).2, e, ByteArray.extract_extract, ByteArray.extract_extract]
  congr 2
  · congr 1 <;> omega
  · congr 1 <;> omega
theorem splS_end {c : UInt8} {s : ByteArray} {f : Nat} (h0 : ∀ j, f ≤ j → j < s.size → at8 s j ≠ c) : splS c (s.extract f s.size) = [s.extract f s.size] := by
  refine (splS_none (idxS_miss ?_)).2
  intro j hj
  have e : (s.extract f s.size).size = s.size - f := by rw [ByteArray.size_extract]; omega
  rw [at8_extS (Nat.le_refl _) (by omega)]
  exact h0 _ (by omega) (by omega)
/-- The texts with a byte ahead of each. -/
def tailS (c : UInt8) (l : List ByteArray) : List UInt8 := Lib.joinTail [c] (l.map (·.data.toList))
def joinS (c : UInt8) (l : List ByteArray) : ByteArray := ⟨(Lib.join (l.map (·.data.toList)) [c]).toArray⟩
theorem tailS_nil (c : UInt8) : tailS c [] = [] := rfl
theorem tailS_cons (c : UInt8) (x : ByteArray) (r : List ByteArray) : tailS c (x :: r) = c :: (x.data.toList ++ tailS c r) := by simp [tailS, Lib.joinTail]
theorem tailS_snoc (c : UInt8) (x : ByteArray) (l : List ByteArray) : tailS c (l ++ [x]) = tailS c l ++ c :: x.data.toList := by simp [tailS, Lib.joinTail]
theorem joinS_tail (c : UInt8) (x : ByteArray) (r : List ByteArray) : c :: (joinS c (x :: r)).data.toList = tailS c (x :: r) := by
  rw [tailS_cons]
  show c :: Lib.join ((x :: r).map (·.data.toList)) [c] = _
  rw [List.map_cons, Lib.join_cons]
  rfl
theorem tailS_len (c : UInt8) (l : List ByteArray) : (tailS c l).length = l.length + sumS l := by
  induction l with
  | nil => rfl
  | cons x r ih =>
    have e : sumS (x :: r) = x.size + sumS r := by simp [sumS]
    rw [tailS_cons, List.length_cons, List.length_append, ih, len_data, List.length_cons, e]; omega
end Go.Proofs.YtmhohponikolfaaGreatDoor
namespace Go.Proofs.YtmhohponikolfaaGreatDoor
set_option linter.unusedVariables false
set_option linter.unusedSimpArgs false
open Go.RowKit

def inL (l : List UInt8) (n : Int) : Bool := l.any fun b => (b.toNat : Int) == n
def letP (n : Int) : Bool := decide (97 ≤ lowI n) && decide (lowI n ≤ 122)
def tokSigns : List UInt8 := [33, 35, 36, 37, 38, 39, 42, 43, 45, 46, 94, 95, 124, 126, 96]
def tokSigns14 : List UInt8 := [33, 35, 36, 37, 38, 39, 42, 43, 45, 46, 94, 95, 124, 126]
def tokP (n : Int) : Bool := letP n || digP n || inL tokSigns n
def tok8 (b : UInt8) : Bool := tokP (b.toNat : Int)
def tokB (s : ByteArray) : Bool := decide (0 < s.size) && decide (s.size ≤ 4000) && s.data.toList.all tok8

theorem tokP_let {n : Int} (h : letP n = true) : tokP n = true := by simp [tokP, h]
theorem tokP_dig {n : Int} (h : digP n = true) : tokP n = true := by simp [tokP, h]
theorem tokP_sig {n : Int} (h1 : letP n = false) (h2 : digP n = false) : tokP n = inL tokSigns n := by simp [tokP, h1, h2]
theorem tokP_96 {n : Int} (h1 : letP n = false) (h2 : digP n = false) (h3 : (n == 96) = true) : tokP n = true := by
  rw [tokP_sig h1 h2]
  rw [beq_iff_eq] at h3
  subst h3
  decide
theorem tokP_14 {n : Int} (h1 : letP n = false) (h2 : digP n = false) (h3 : (n == 96) = false) : tokP n = inL tokSigns14 n := by
  rw [tokP_sig h1 h2]
  have h4 : ((96 : Int) == n) = false := by rw [Bool.eq_false_iff, ne_eq, beq_iff_eq] at h3 ⊢; omega
  show (tokSigns14 ++ [96]).any _ = tokSigns14.any _
  rw [List.any_append]
  have h5 : ([96] : List UInt8).any (fun b => (b.toNat : Int) == n) = false := by
    show ((96 : Int) == n || false) = false
    rw [h4]; rfl
  rw [h5, Bool.or_false]
theorem inL_hit {l : List UInt8} {n : Int} {k : Nat} (hk : k < l.length) (h : (l[k].toNat : Int) = n) : inL l n = true := by
  unfold inL
  rw [List.any_eq_true]
  exact ⟨l[k], List.getElem_mem hk, by simp [h]⟩
theorem inL_miss {l : List UInt8} {n : Int} (h : ∀ j, j < l.length → ((l.getD j 0).toNat : Int) ≠ n) : inL l n = false := by
  unfold inL
  rw [List.any_eq_false]
  intro x hx
  obtain ⟨j, hj, rfl⟩ := List.mem_iff_getElem.1 hx
  have := h j hj
  rw [List.getD, List.getElem?_eq_getElem hj] at this
  simpa using this
theorem tokB_no {s : ByteArray} {k : Nat} (hk : k < s.size) (h : tok8 (at8 s k) = false) : tokB s = false := by
  unfold tokB
  have hl : k < s.data.toList.length := by simpa using hk
  have : s.data.toList.all tok8 = false := by
    rw [List.all_eq_false]
    refine ⟨s.data.toList[k], List.getElem_mem hl, ?_⟩
    simp [at8, List.getD, List.getElem?_eq_getElem hl] at h
    simp [h]
  simp [this]
theorem tokB_yes {s : ByteArray} (h0 : 0 < s.size) (h1 : s.size ≤ 4000) (h : ∀ j, j < s.size → tok8 (at8 s j) = true) : tokB s = true := by
  unfold tokB
  have : s.data.toList.all tok8 = true := by
    rw [List.all_eq_true]
    intro x hx
    obtain ⟨j, hj, rfl⟩ := List.mem_iff_getElem.1 hx
    have := h j (by simpa using hj)
    simpa [at8, List.getD, List.getElem?_eq_getElem hj] using this
  simp [this, h0, h1]
theorem tokB_size {s : ByteArray} (h : s.size = 0 ∨ 4000 < s.size) : tokB s = false := by
  unfold tokB
  rcases h with h | h
  · simp [h]
  · simp [show ¬ s.size ≤ 4000 by omega]
end Go.Proofs.YtmhohponikolfaaGreatDoor
namespace Go.Proofs.YtmhohponikolfaaGreatDoor
set_option linter.unusedVariables false
set_option linter.unusedSimpArgs false
open Go.RowKit

def decB (u : Nat) : ByteArray := ⟨(Lib.decDigits u).toArray⟩
theorem decB_list (u : Nat) : (decB u).data.toList = Lib.decDigits u := rfl
def valL (l : List UInt8) : Nat := l.foldl (fun n b => n * 10 + (b.toNat - 48)) 0
theorem valL_snoc (l : List UInt8) (b : UInt8) : valL (l ++ [b]) = valL l * 10 + (b.toNat - 48) := by simp [valL]
def allDig (l : List UInt8) : Bool := l.all dig8
theorem dig8_iff (b : UInt8) : dig8 b = true ↔ 48 ≤ b.toNat ∧ b.toNat ≤ 57 := by
  unfold dig8 digP
  simp
  omega
theorem dig8_no (b : UInt8) (h : dig8 b = false) : b.toNat < 48 ∨ 57 < b.toNat := by
  have : ¬ (48 ≤ b.toNat ∧ b.toNat ≤ 57) := fun hh => by rw [(dig8_iff b).2 hh] at h; cases h
  omega
def rdec (s : ByteArray) : Option Nat := if 0 < s.size ∧ s.size ≤ 15 ∧ allDig s.data.toList = true ∧ Lib.decDigits (valL s.data.toList) = s.data.toList then some (valL s.data.toList) else none

theorem snoc_ind {α : Type} {p : List α → Prop} (h0 : p []) (h1 : ∀ l a, p l → p (l ++ [a])) : ∀ l, p l := by
  intro l
  have : ∀ r : List α, p r.reverse := by
    intro r
    induction r with
    | nil => exact h0
    | cons a r ih => rw [List.reverse_cons]; exact h1 _ _ ih
  simpa using this l.reverse

theorem valL_lt (l : List UInt8) (h : allDig l = true) : valL l < 10 ^ l.length := by
  revert h
  refine snoc_ind (p := fun l => allDig l = true → valL l < 10 ^ l.length) ?_ ?_ l
  · intro _; simp [valL]
  · intro q b ih h
    have hq : allDig q = true := by unfold allDig at h ⊢; rw [List.all_append] at h; simp at h; simpa using h.1
    have hb : dig8 b = true := by unfold allDig at h; rw [List.all_append] at h; simp at h; exact h.2
    have := ih hq
    have hb' := (dig8_iff b).1 hb
    rw [valL_snoc, List.length_append, List.length_singleton, Nat.pow_succ]
    omega
theorem valL_ge (l : List UInt8) (h : allDig l = true) (hl : l ≠ []) (hz : l.head? ≠ some 48) : 10 ^ (l.length - 1) ≤ valL l := by
  revert h hl hz
  refine snoc_ind (p := fun l => allDig l = true → l ≠ [] → l.head? ≠ some 48 → 10 ^ (l.length - 1) ≤ valL l) ?_ ?_ l
  · intro _ h; exact absurd rfl h
  · intro q b ih h _ hz
    have hq : allDig q = true := by unfold allDig at h ⊢; rw [List.all_append] at h; simp at h; simpa using h.1
    have hb : dig8 b = true := by unfold allDig at h; rw [List.all_append] at h; simp at h; exact h.2
    have hb' := (dig8_iff b).1 hb
    rw [valL_snoc, List.length_append, List.length_singleton]
    by_cases e : q = []
    · subst e
      have hne : b.toNat ≠ 48 := by
        intro hh
        apply hz
        have : b = 48 := UInt8.toNat_inj.1 hh
        rw [this]; rfl
      simp [valL]
      omega
    · have hz' : q.head? ≠ some 48 := by
        intro hh; apply hz; rw [List.head?_append, hh]; rfl
      have := ih hq e hz'
      have hlen : q.length + 1 - 1 = (q.length - 1) + 1 := by have := List.length_pos_iff.2 e; omega
      rw [hlen, Nat.pow_succ]
      omega
theorem decDigits_step (u : Nat) (h : ¬ u < 10) : Lib.decDigits u = Lib.decDigits (u / 10) ++ [UInt8.ofNat (48 + u % 10)] := by
  rw [Lib.decDigits, dif_neg h]
theorem ofNat_dig (b : UInt8) (h : 48 ≤ b.toNat) : UInt8.ofNat (48 + (b.toNat - 48)) = b := by
  rw [show 48 + (b.toNat - 48) = b.toNat from by omega]; simp
theorem decDigits_val (l : List UInt8) (h : allDig l = true) (hl : l ≠ []) (hz : l.head? ≠ some 48) : Lib.decDigits (valL l) = l := by
  revert h hl hz
  refine snoc_ind (p := fun l => allDig l = true → l ≠ [] → l.head? ≠ some 48 → Lib.decDigits (valL l) = l) ?_ ?_ l
  · intro _ h; exact absurd rfl h
  · intro q b ih h _ hz
    have hq : allDig q = true := by unfold allDig at h ⊢; rw [List.all_append] at h; simp at h; simpa using h.1
    have hb : dig8 b = true := by unfold allDig at h; rw [List.all_append] at h; simp at h; exact h.2
    have hb' := (dig8_iff b).1 hb
    rw [valL_snoc]
    by_cases e : q = []
    · subst e
      have : valL [] * 10 + (b.toNat - 48) = b.toNat - 48 := by simp [valL]
      rw [this, Lib.decDigits, dif_pos (by omega), ofNat_dig b hb'.1]; rfl
    · have hz' : q.head? ≠ some 48 := by
        intro hh; apply hz; rw [List.head?_append, hh]; rfl
      have h1 := valL_ge q hq e hz'
      have h2 : 1 ≤ 10 ^ (q.length - 1) := Nat.one_le_pow _ _ (by decide)
      rw [decDigits_step _ (by omega)]
      have e1 : (valL q * 10 + (b.toNat - 48)) / 10 = valL q := by omega
      have e2 : (valL q * 10 + (b.toNat - 48)) % 10 = b.toNat - 48 := by omega
      rw [e1, e2, ih hq e hz', ofNat_dig b hb'.1]
theorem decDigits_ne_nil (u : Nat) : Lib.decDigits u ≠ [] := by
  by_cases h : u < 10
  · rw [Lib.decDigits, dif_pos h]; simp
  · rw [decDigits_step u h]; simp
theorem decDigits_head (u : Nat) (h : (Lib.decDigits u).head? = some 48) : u = 0 := by
  induction u using Nat.strongRecOn with
  | _ u ih =>
    by_cases hu : u < 10
    · rw [Lib.decDigits, dif_pos hu] at h
      have h' : UInt8.ofNat (48 + u) = 48 := Option.some.inj h
      have : (UInt8.ofNat (48 + u)).toNat = (48 : UInt8).toNat := by rw [h']
      rw [UInt8.toNat_ofNat'] at this
      have e : (48 : UInt8).toNat = 48 := rfl
      omega
    · rw [decDigits_step u hu, List.head?_append] at h
      have hne := decDigits_ne_nil (u / 10)
      have : (Lib.decDigits (u / 10)).head? = some 48 := by
        cases hq : Lib.decDigits (u / 10) with
        | nil => exact absurd hq hne
        | cons a r => rw [hq] at h; simpa using h
      have := ih (u / 10) (by omega) this
      omega
theorem allDig_dec (u : Nat) : allDig (Lib.decDigits u) = true := by
  induction u using Nat.strongRecOn with
  | _ u ih =>
    have one : ∀ d, d < 10 → dig8 (UInt8.ofNat (48 + d)) = true := by
      intro d hd
      rw [dig8_iff]
      simp
      omega
    by_cases hu : u < 10
    · rw [Lib.decDigits, dif_pos hu]
      show (dig8 (UInt8.ofNat (48 + u)) && true) = true
      rw [one u hu]; rfl
    · rw [decDigits_step u hu]
      unfold allDig
      rw [List.all_append]
      have := ih (u / 10) (by omega)
      unfold allDig at this
      rw [this]
      show (true && (dig8 (UInt8.ofNat (48 + u % 10)) && true)) = true
      rw [one (u % 10) (by omega)]; rfl
theorem valL_dec (u : Nat) : valL (Lib.decDigits u) = u := by
  induction u using Nat.strongRecOn with
  | _ u ih =>
    have one : ∀ d, d < 10 → (UInt8.ofNat (48 + d)).toNat - 48 = d := by
      intro d hd; simp; omega
    by_cases hu : u < 10
    · rw [Lib.decDigits, dif_pos hu]
      have := one u hu
      simp [valL] at this ⊢
      omega
    · rw [decDigits_step u hu, valL_snoc, ih (u / 10) (by omega), one (u % 10) (by omega)]
      omega
theorem decDigits_len (u : Nat) (h : u ≤ 999999999999999) : (Lib.decDigits u).length ≤ 15 := by
  rw [Lib.decDigits_length]
  rcases Nat.lt_or_ge 15 (Lib.nDigits u) with h1 | h1
  · exfalso
    have hl := valL_ge (Lib.decDigits u) (allDig_dec u) (decDigits_ne_nil u) (by
      intro hh
      have := decDigits_head u hh
      subst this
      rw [Lib.nDigits_small (by omega)] at h1
      omega)
    rw [valL_dec, Lib.decDigits_length] at hl
    have h2 : 10 ^ 15 ≤ 10 ^ (Lib.nDigits u - 1) := Nat.pow_le_pow_right (by decide) (by omega)
    have h3 : (10 : Nat) ^ 15 = 1000000000000000 := by decide
    omega
  · exact h1

/-! What the loops of ReadDec come to. -/
theorem allDig_take_succ (s : ByteArray) (k : Nat) (hk : k < s.size) : s.data.toList.take (k + 1) = s.data.toList.take k ++ [at8 s k] := by
  have hl : k < s.data.toList.length := by rw [len_data]; exact hk
  rw [List.take_succ_eq_append_getElem hl]
  simp [at8, List.getD, List.getElem?_eq_getElem hl]
theorem allDig_snoc (l : List UInt8) (b : UInt8) (h : allDig l = true) (hb : dig8 b = true) : allDig (l ++ [b]) = true := by
  unfold allDig at *
  rw [List.all_append, h]
  simp [hb]
theorem allDig_no (s : ByteArray) (k : Nat) (hk : k < s.size) (h : dig8 (at8 s k) = false) : allDig s.data.toList = false := by
  have hl : k < s.data.toList.length := by rw [len_data]; exact hk
  unfold allDig
  rw [List.all_eq_false]
  refine ⟨s.data.toList[k], List.getElem_mem hl, ?_⟩
  simp [at8, List.getD, List.getElem?_eq_getElem hl] at h
  simp [h]
theorem rdec_nodig (s : ByteArray) (k : Nat) (hk : k < s.size) (h : dig8 (at8 s k) = false) : rdec s = none := by
  unfold rdec
  rw [if_neg]
  rintro ⟨_, _, h3, _⟩
  rw [allDig_no s k hk h] at h3
  cases h3
theorem rdec_size (s : ByteArray) (h : s.size = 0 ∨ 15 < s.size) : rdec s = none := by
  unfold rdec
  rw [if_neg]
  rintro ⟨h1, h2, _⟩
  omega
theorem rdec_ne (s : ByteArray) (h : Lib.decDigits (valL s.data.toList) ≠ s.data.toList) : rdec s = none := by
  unfold rdec
  rw [if_neg]
  rintro ⟨_, _, _, h4⟩
  exact h h4
theorem rdec_yes (s : ByteArray) (h0 : 0 < s.size) (h1 : s.size ≤ 15) (h2 : allDig s.data.toList = true) (h3 : Lib.decDigits (valL s.data.toList) = s.data.toList) : rdec s = some (valL s.data.toList) := by
  unfold rdec
  rw [if_pos ⟨h0, h1, h2, h3⟩]
theorem head_at8 (s : ByteArray) (h : 0 < s.size) : s.data.toList.head? = some (at8 s 0) := by
  have hl : 0 < s.data.toList.length := by rw [len_data]; exact h
  rw [List.head?_eq_getElem?]
  simp [at8, List.getD, List.getElem?_eq_getElem hl]
/-- A 0 ahead of other digits. -/
theorem rdec_zero (s : ByteArray) (h : 0 < s.size) (h0 : (at8 s 0).toNat = 48) (hne : s.data.toList ≠ [48]) : rdec s = none := by
  apply rdec_ne
  intro hh
  have h1 := head_at8 s h
  have : at8 s 0 = 48 := UInt8.toNat_inj.1 h0
  rw [this, ← hh] at h1
  have hz := decDigits_head _ h1
  rw [hz] at hh
  apply hne
  rw [← hh, Lib.decDigits, dif_pos (by omega)]
  rfl
/-- Behind the last round. -/
theorem rdec_end (s : ByteArray) (h : 0 < s.size) (hd : allDig s.data.toList = true) (hz : (at8 s 0).toNat ≠ 48 ∨ s.data.toList = [48]) (hm : valL s.data.toList ≤ 999999999999999) : rdec s = some (valL s.data.toList) := by
  have hne : s.data.toList ≠ [] := by
    intro hh; have := len_data s; rw [hh] at this; simp at this; omega
  rcases hz with hz | hz
  · have hh : s.data.toList.head? ≠ some 48 := by
      rw [head_at8 s h]; intro e; apply hz; injection e with e; rw [e]; rfl
    have h1 := valL_ge _ hd hne hh
    refine rdec_yes s h ?_ hd (decDigits_val _ hd hne hh)
    rcases Nat.lt_or_ge 15 s.size with h2 | h2
    · exfalso
      have h3 : 10 ^ 15 ≤ 10 ^ (s.data.toList.length - 1) := Nat.pow_le_pow_right (by decide) (by rw [len_data]; omega)
      have h4 : (10 : Nat) ^ 15 = 1000000000000000 := by decide
      omega
    · exact h2
  · have hs : s.size = 1 := by rw [← len_data, hz]; rfl
    refine rdec_yes s h (by omega) hd ?_
    rw [hz]
    have : valL [48] = 0 := by decide
    rw [this, Lib.decDigits, dif_pos (by omega)]
    rfl
theorem allDig_take (l : List UInt8) (k : Nat) (h : allDig l = true) : allDig (l.take k) = true := by
  unfold allDig at *
  rw [List.all_eq_true] at *
  intro x hx
  exact h x (List.mem_of_mem_take hx)
/-- A value that has passed the bound. -/
theorem rdec_big (s : ByteArray) (k : Nat) (hk : k ≤ s.size) (hd : allDig (s.data.toList.take k) = true) (hm : 999999999999999 < valL (s.data.toList.take k)) : rdec s = none := by
  apply rdec_size
  right
  rcases Nat.lt_or_ge 15 s.size with h2 | h2
  · exact h2
  · exfalso
    have h1 := valL_lt _ hd
    have h3 : 10 ^ (s.data.toList.take k).length ≤ 10 ^ 15 := Nat.pow_le_pow_right (by decide) (by simp; omega)
    have h4 : (10 : Nat) ^ 15 = 1000000000000000 := by decide
    omega
end Go.Proofs.YtmhohponikolfaaGreatDoor
namespace Go.Proofs.YtmhohponikolfaaGreatDoor
set_option linter.unusedVariables false
set_option linter.unusedSimpArgs false
open Go.RowKit

/-- The value of a digit of sixteen, -1 for any other byte. -/
def hexV (n : Int) : Int := if digP n = true then n - 48 else if 97 ≤ lowI n ∧ lowI n ≤ 102 then lowI n - 87 else -1
def hex8 (b : UInt8) : Int := hexV (b.toNat : Int)
def hval (l : List UInt8) : Int := l.foldl (fun n b => n * 16 + hex8 b) 0
def allHex (l : List UInt8) : Bool := l.all fun b => decide (0 ≤ hex8 b)
def rhexOk (s : ByteArray) : Bool := decide (0 < s.size) && decide (s.size ≤ 7) && allHex s.data.toList
def rhexN (s : ByteArray) : Int := if rhexOk s = true then hval s.data.toList else 0

theorem digP_iff {n : Int} : digP n = true ↔ 48 ≤ n ∧ n ≤ 57 := by unfold digP; simp
theorem hexV_dig {n : Int} (h : digP n = true) : hexV n = n - 48 := by unfold hexV; rw [if_pos h]
theorem hexV_let {n : Int} (h : digP n = false) (h1 : 97 ≤ lowI n) (h2 : lowI n ≤ 102) : hexV n = lowI n - 87 := by
  unfold hexV; rw [if_neg (by simp [h]), if_pos ⟨h1, h2⟩]
theorem hexV_no {n : Int} (h : digP n = false) (h1 : lowI n < 97 ∨ 102 < lowI n) : hexV n = -1 := by
  unfold hexV; rw [if_neg (by simp [h]), if_neg (by omega)]
theorem hexV_bd (n : Int) : -1 ≤ hexV n ∧ hexV n ≤ 15 := by
  unfold hexV
  split
  · rename_i h; rw [digP_iff] at h; omega
  · split <;> omega
theorem digP_low (n : Int) (h0 : 0 ≤ n) : digP (lowI n) = digP n := by
  unfold digP lowI
  by_cases h : 65 ≤ n ∧ n ≤ 90
  · rw [if_pos h]
    have h1 : ¬ n ≤ 57 := by omega
    have h2 : ¬ n + 32 ≤ 57 := by omega
    simp [h1, h2]
  · rw [if_neg h]
theorem lowI_dig {n : Int} (h : digP n = true) : lowI n = n := by
  rw [digP_iff] at h; unfold lowI; rw [if_neg (by omega)]
theorem hval_snoc (l : List UInt8) (b : UInt8) : hval (l ++ [b]) = hval l * 16 + hex8 b := by simp [hval]
theorem hval_bd (l : List UInt8) (h : allHex l = true) : 0 ≤ hval l ∧ hval l < 16 ^ l.length := by
  revert h
  refine snoc_ind (p := fun l => allHex l = true → 0 ≤ hval l ∧ hval l < 16 ^ l.length) ?_ ?_ l
  · intro _; simp [hval]
  · intro q b ih h
    have hq : allHex q = true := by unfold allHex at h ⊢; rw [List.all_append] at h; simp at h; simpa using h.1
    have hb : 0 ≤ hex8 b := by unfold allHex at h; rw [List.all_append] at h; simp at h; exact h.2
    have hb2 := (hexV_bd (b.toNat : Int)).2
    have := ih hq
    have hb3 : hex8 b ≤ 15 := hb2
    rw [hval_snoc, List.length_append, List.length_singleton, Int.pow_succ]
    omega
theorem allHex_snoc (l : List UInt8) (b : UInt8) (h : allHex l = true) (hb : 0 ≤ hex8 b) : allHex (l ++ [b]) = true := by
  unfold allHex at *
  rw [List.all_append, h]
  simp [hb]
theorem allHex_no (s : ByteArray) (k : Nat) (hk : k < s.size) (h : hex8 (at8 s k) < 0) : allHex s.data.toList = false := by
  have hl : k < s.data.toList.length := by rw [len_data]; exact hk
  unfold allHex
  rw [List.all_eq_false]
  refine ⟨s.data.toList[k], List.getElem_mem hl, ?_⟩
  simp [at8, List.getD, List.getElem?_eq_getElem hl] at h
  simpa using h
theorem rhex_size {s : ByteArray} (h : s.size = 0 ∨ 7 < s.size) : rhexN s = 0 ∧ rhexOk s = false := by
  have : rhexOk s = false := by
    unfold rhexOk
    rcases h with h | h
    · simp [h]
    · simp [show ¬ s.size ≤ 7 by omega]
  exact ⟨by simp [rhexN, this], this⟩
theorem rhex_no {s : ByteArray} {k : Nat} (hk : k < s.size) (h : hex8 (at8 s k) < 0) : rhexN s = 0 ∧ rhexOk s = false := by
  have : rhexOk s = false := by unfold rhexOk; simp [allHex_no s k hk h]
  exact ⟨by simp [rhexN, this], this⟩
theorem rhex_yes {s : ByteArray} (h0 : 0 < s.size) (h1 : s.size ≤ 7) (h : allHex s.data.toList = true) : rhexN s = hval s.data.toList ∧ rhexOk s = true := by
  have : rhexOk s = true := by unfold rhexOk; simp [h0, h1, h]
  exact ⟨by simp [rhexN, this], this⟩
theorem hval_small (s : ByteArray) (k : Nat) (hk : k ≤ 7) (h : allHex (s.data.toList.take k) = true) : 0 ≤ hval (s.data.toList.take k) ∧ hval (s.data.toList.take k) < 268435456 := by
  have h1 := hval_bd _ h
  have h2 : (s.data.toList.take k).length ≤ 7 := by simp; omega
  have h3' : (16 : Nat) ^ (s.data.toList.take k).length ≤ 16 ^ 7 := Nat.pow_le_pow_right (by decide) h2
  have h3 : (16 : Int) ^ (s.data.toList.take k).length ≤ 16 ^ 7 := by exact_mod_cast h3'
  have h4 : (16 : Int) ^ 7 = 268435456 := by decide
  omega
end Go.Proofs.YtmhohponikolfaaGreatDoor
namespace Go.Proofs.YtmhohponikolfaaGreatDoor
set_option linter.unusedVariables false
set_option linter.unusedSimpArgs false
open Go.RowKit
/-- All bytes are of a kind. -/
def allB (p : UInt8 → Bool) (s : ByteArray) : Bool := s.data.toList.all p
theorem allB_no {p : UInt8 → Bool} {s : ByteArray} {k : Nat} (hk : k < s.size) (h : p (at8 s k) = false) : allB p s = false := by
  unfold allB
  have hl : k < s.data.toList.length := by simpa using hk
  rw [List.all_eq_false]
  refine ⟨s.data.toList[k], List.getElem_mem hl, ?_⟩
  simp [at8, List.getD, List.getElem?_eq_getElem hl] at h
  simp [h]
theorem allB_yes {p : UInt8 → Bool} {s : ByteArray} (h : ∀ j, j < s.size → p (at8 s j) = true) : allB p s = true := by
  unfold allB
  rw [List.all_eq_true]
  intro x hx
  obtain ⟨j, hj, rfl⟩ := List.mem_iff_getElem.1 hx
  have := h j (by simpa using hj)
  simpa [at8, List.getD, List.getElem?_eq_getElem hj] using this
/-- A byte that may stand in a target. -/
def visP (n : Int) : Bool := decide (33 ≤ n) && decide (n ≤ 126)
def vis8 (b : UInt8) : Bool := visP (b.toNat : Int)
def targQ (s : ByteArray) : Bool := decide (1 ≤ (s.size : Int)) && decide ((s.size : Int) ≤ 200) && allB vis8 s
theorem targQ_iff {s : ByteArray} : targQ s = true ↔ 1 ≤ s.size ∧ s.size ≤ 200 ∧ allB vis8 s = true := by
  unfold targQ; rw [Bool.and_eq_true, Bool.and_eq_true, decide_eq_true_eq, decide_eq_true_eq, and_assoc]
  constructor
  · rintro ⟨a, b, c⟩; exact ⟨by omega, by omega, c⟩
  · rintro ⟨a, b, c⟩; exact ⟨by omega, by omega, c⟩
end Go.Proofs.YtmhohponikolfaaGreatDoor
