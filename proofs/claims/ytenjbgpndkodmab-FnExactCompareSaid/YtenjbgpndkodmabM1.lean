/-
  Plain functions of chapter 1 (bytes): no Go in sight.
-/
import Derived.WalkKit
import Derived.WalkSpells
import Derived.WalkLawsBesides
import Derived.Lib.ConvBytes
import Derived.Laws.IdiomStrings
import Derived.Laws.BytesArg
namespace Go.Proofs.Ytenjbgpndkodmab
set_option linter.unusedVariables false
set_option linter.unusedSimpArgs false
open Go.RowKit

/-- A letter A to Z as its small one, on numbers. -/
def lowI (n : Int) : Int := if 65 ≤ n ∧ n ≤ 90 then n + 32 else n
/-- The same on bytes. -/
def low8 (b : UInt8) : UInt8 := if 65 ≤ b.toNat ∧ b.toNat ≤ 90 then b + 32 else b
def foldL (l : List UInt8) : List UInt8 := l.map low8
def foldB (s : ByteArray) : ByteArray := ⟨(foldL s.data.toList).toArray⟩

theorem low8_toNat (b : UInt8) : ((low8 b).toNat : Int) = lowI (b.toNat : Int) := by
  unfold low8 lowI
  have hb := b.toNat_lt
  by_cases h : 65 ≤ b.toNat ∧ b.toNat ≤ 90
  · rw [if_pos h, if_pos (by omega)]
    rw [UInt8.toNat_add]
    simp
    omega
  · rw [if_neg h, if_neg (by omega)]
theorem lowI_bd (n : Int) (h0 : 0 ≤ n) (h1 : n ≤ 255) : 0 ≤ lowI n ∧ lowI n ≤ 255 := by
  unfold lowI; split <;> omega
theorem foldB_size (s : ByteArray) : (foldB s).size = s.size := by
  show ((s.data.toList.map low8).toArray).size = s.data.size
  simp

theorem ret_bool {a b : Bool} (h : b = a) : Ending.returned (.bool a) = .returned (.bool b) := by rw [h]
theorem ret_int {k : IntKind} {a b : Int} (h : b = a) : Ending.returned (.int k a) = .returned (.int k b) := by rw [h]
theorem ret_str {a b : ByteArray} (h : b = a) : Ending.returned (.string a) = .returned (.string b) := by rw [h]

theorem len_data (s : ByteArray) : s.data.toList.length = s.size := by
  show _ = s.data.size
  simp
theorem u8_lo (b : UInt8) : (0 : Int) ≤ (b.toNat : Int) := Int.natCast_nonneg _
theorem u8_hi (b : UInt8) : (b.toNat : Int) ≤ 255 := by have := b.toNat_lt; omega

/-- Go's '==' on texts. -/
def eqB (a b : ByteArray) : Bool := a.toList == b.toList
theorem eqB_iff {a b : ByteArray} : eqB a b = true ↔ a = b := by
  unfold eqB
  rw [ByteArray.toList_eq, ByteArray.toList_eq, beq_iff_eq]
  constructor
  · intro h
    cases a; cases b
    congr 1
    exact Array.toList_inj.1 h
  · rintro rfl; rfl
theorem eqB_self (a : ByteArray) : eqB a a = true := eqB_iff.2 rfl

/-- A row of bytes at the head of block b: what it holds, and that it may be written. -/
structure Row8 (w : World) (b : Nat) (xs : List Int) : Prop where
  cell : ∀ j, j < xs.length → w.cell? ⟨b, j, none⟩ = some (.int .u8 (xs.getD j 0))
  free : ∀ j, j < xs.length → w.frozen? ⟨b, j, none⟩ = false
  lt : b < w.heap.size

theorem Row8.set {w : World} {b : Nat} {xs : List Int} (h : Row8 w b xs) (k : Nat) (v : Int) (hk : k < xs.length) : Row8 (w.setCell ⟨b, k, none⟩ (.int .u8 v)) b (xs.set k v) := by
  refine ⟨fun j hj => ?_, fun j hj => ?_, by simpa [World.setCell] using h.lt⟩
  · rw [List.length_set] at hj
    by_cases e : j = k
    · subst e
      rw [World.cell?_setCell_same _ _ _ (h.cell j hj)]
      simp [List.getD, hk]
    · rw [World.cell?_setCell_other _ _ _ _ (by intro hh; apply e; injection hh with _ h2; exact h2.symm), h.cell j hj]
      simp [List.getD, Ne.symm e]
  · rw [List.length_set] at hj
    rw [World.frozen?_setCell]
    exact h.free j hj

/-- The numbers of a text's bytes. -/
def nums (s : ByteArray) : List Int := s.data.toList.map fun b => (b.toNat : Int)
theorem nums_length (s : ByteArray) : (nums s).length = s.size := by
  show (s.data.toList.map _).length = s.data.size
  simp
theorem nums_getD (s : ByteArray) (j : Nat) (hj : j < s.size) : (nums s).getD j 0 = ((s.data.toList.getD j 0).toNat : Int) := by
  have hj' : j < s.data.toList.length := by simpa using hj
  simp [nums, List.getD, List.getElem?_eq_getElem hj']
theorem nums_bd (s : ByteArray) (j : Nat) : 0 ≤ (nums s).getD j 0 ∧ (nums s).getD j 0 ≤ 255 := by
  rcases Nat.lt_or_ge j s.size with h | h
  · rw [nums_getD s j h]
    have := (s.data.toList.getD j 0).toNat_lt
    omega
  · have : (nums s).length ≤ j := by rw [nums_length]; exact h
    simp [List.getD, List.getElem?_eq_none this]

theorem row8_bytes (w : World) (e : TypeId) (s : ByteArray) : Row8 (Lib.bytesWorld w e s) w.heap.size (nums s) := by
  refine ⟨fun j hj => ?_, fun j hj => ?_, by rw [Lib.bytesWorld_size]; omega⟩
  · rw [nums_length] at hj
    rw [Lib.bytesWorld_cell w e s j hj, nums_getD s j hj]
  · rw [nums_length] at hj
    have hj' : j < s.data.size := hj
    simp only [World.frozen?, Lib.bytesWorld_at_new]
    have : j < (Lib.bytesCells w e s).size := by simp [Lib.bytesCells]; omega
    simp
    omega

theorem below_bytes (w : World) (e : TypeId) (s : ByteArray) : Below w.heap.size w (Lib.bytesWorld w e s) :=
  ⟨by simp [Lib.bytesWorld, World.freeze, World.alloc, World.drew, -World.alloc_eq, -World.drew_eq], by simp [Lib.bytesWorld, World.freeze, World.alloc, World.drew, -World.alloc_eq, -World.drew_eq],
   by simp [Lib.bytesWorld, World.freeze, World.alloc, World.drew, -World.alloc_eq, -World.drew_eq], by rw [Lib.bytesWorld_size]; omega, fun k hk => Lib.bytesWorld_at_old w e s k hk⟩

/-- The row's text. -/
theorem Row8.text {P : Program} {w : World} {b : Nat} {xs : List Int} (h : Row8 w b xs) (src e dst : TypeId) (n cap : Nat) (hn : xs.length = n) (hs : P.underlying src = some (.slice e)) (he : P.underlying e = some (.int .u8)) (hd : P.underlying dst = some .string) :
    (convert src dst (.slice (some ⟨b, 0, none⟩) n cap)).run P w = .ok (.string (strOfNums xs)) w :=
  run_convert_bytes_arg (P := P) w src e hs he b 0 n cap xs hn (fun i hi => by rw [Nat.zero_add]; exact h.cell i (by omega)) dst hd

/-- After k rounds of folding. -/
def foldTo (s : ByteArray) (k : Nat) : List Int := ((nums s).take k).map lowI ++ (nums s).drop k
theorem foldTo_length (s : ByteArray) (k : Nat) : (foldTo s k).length = s.size := by
  simp only [foldTo, List.length_append, List.length_map, List.length_take, List.length_drop, nums_length]; omega
theorem foldTo_zero (s : ByteArray) : foldTo s 0 = nums s := by simp [foldTo]
theorem foldTo_at (s : ByteArray) (k : Nat) (hk : k < s.size) : (foldTo s k).getD k 0 = (nums s).getD k 0 := by
  have h : ((nums s).take k).length = k := by simp [nums_length]; omega
  unfold foldTo
  rw [List.getD, List.getElem?_append_right (by simp; omega)]
  have e : k - ((nums s).take k |>.map lowI).length = 0 := by rw [List.length_map, h]; omega
  rw [e]
  simp [List.getD]
theorem foldTo_succ (s : ByteArray) (k : Nat) (hk : k < s.size) : foldTo s (k + 1) = (foldTo s k).set k (lowI ((nums s).getD k 0)) := by
  have hl : k < (nums s).length := by rw [nums_length]; exact hk
  unfold foldTo
  rw [List.take_succ_eq_append_getElem hl, List.map_append, List.append_assoc, List.set_append_right _ _ (by simp; omega)]
  have e : k - ((nums s).take k |>.map lowI).length = 0 := by simp; omega
  rw [e]
  have hd := List.drop_eq_getElem_cons hl
  rw [hd]
  simp only [List.map_cons, List.map_nil, List.cons_append, List.nil_append, List.set_cons_zero, List.getD, List.getElem?_eq_getElem hl, Option.getD_some]
theorem foldTo_all (s : ByteArray) : strOfNums (foldTo s s.size) = foldB s := by
  unfold foldTo strOfNums foldB foldL
  have hl : (nums s).length ≤ s.size := by rw [nums_length]; exact Nat.le_refl _
  rw [List.take_of_length_le hl, List.drop_eq_nil_of_le hl, List.append_nil]
  congr 2
  simp only [nums, List.map_map]
  apply List.map_congr_left
  intro b _
  show UInt8.ofNat (lowI (b.toNat : Int)).toNat = low8 b
  rw [← low8_toNat]
  simp
theorem bcell {W w1 : World} (hb : Below W.heap.size W w1) : (∀ b o, b < W.heap.size → w1.cell? ⟨b, o, none⟩ = W.cell? ⟨b, o, none⟩) ∧ (∀ b o, b < W.heap.size → w1.frozen? ⟨b, o, none⟩ = W.frozen? ⟨b, o, none⟩) :=
  ⟨fun b o h => hb.cell (p := ⟨b, o, none⟩) h, fun b o h => hb.frozen (p := ⟨b, o, none⟩) h⟩
end Go.Proofs.Ytenjbgpndkodmab
