/-
  The walks over chapter 3: the ending of a text, the bytes of five words (impl).
-/
import Derived.Test.YtohdfdbpmmeidabD9
namespace Go.Proofs.Ytohdfdbpmmeidab
set_option linter.unusedVariables false
set_option linter.unusedSimpArgs false
open Go.RowKit
theorem row8_made {w w' : World} {n : Nat} (h : w'.ownsRow w.heap.size 5 1 (.slice (some ⟨w.heap.size, 0, none⟩) n n) n (List.replicate n (.int .u8 0))) : Row8 w' w.heap.size (List.replicate n 0) := by
  refine ⟨fun j hj => ?_, fun j hj => h.frozenAt j, (h.lt w.heap.size rfl).2⟩
  rw [List.length_replicate] at hj
  have := h.cells (g := w.heap.size) rfl j (.int .u8 0) (by simp [hj])
  rw [Addr.add_lit, Nat.zero_add] at this
  rw [this]; simp [List.getD, hj]
theorem wp_mkB {ops : Array Oper} {rest : List Oper} {o : Oper} {a : Act} {Q : Exit → Act → World → Prop} {w : World} (hg : o.guard = none) (l c : Operand) (hop : o.op = Op.makeSlice 68 l c)
    (n : Nat) (L C : Int) (hl : a.eval l = .int .i64 L) (hc : a.eval c = .int .i64 C) (hL : L = (n : Int)) (hC : C = (n : Int)) (hn : n ≤ 1000000)
    (hK : ∀ w', Row8 w' w.heap.size (List.replicate n 0) → Below w.heap.size w w' → wpList Try.prog ops Q rest (a.put o.dst (.slice (some ⟨w.heap.size, 0, none⟩) n n)) w') :
    wpList Try.prog ops Q (o :: rest) a w := by
  obtain ⟨i0, hi, hz0, hz1, hz2⟩ := info_parts Try.infoU8d
  refine wpList_make_full w hg l c 68 hop w.heap.size 5 i0 (.int .u8 0) 1 Try.underlying68 hi hz0 hz1 .i64 .i64 L C n hl hc hL hC (by rw [hz2]; omega) (by unfold maxLen; omega) (Nat.le_refl _) ?_
  intro w' hown hgr
  refine hK w' (row8_made ?_) ⟨hgr.os, hgr.tape, hgr.output, hgr.size, fun k hk => hgr.block k hk (by simp)⟩
  have e : (madeCells (Value.int .u8 0).cells (n * 1)).toList = List.replicate n (.int .u8 0) := by
    rw [Nat.mul_one]; exact toList_madeCells_one _ _
  rw [e] at hown
  exact hown
theorem nZero_is {size z : Nat} (h : z ≤ nZero size) : (size + (9 + z)) % 64 = 0 ↔ z = nZero size := by unfold nZero at *; omega
theorem nZero_le (size : Nat) : nZero size ≤ 63 := by unfold nZero; omega
/-- The ending while the length goes in, i bytes of it so far, the lowest first. -/
def endR (z n i : Nat) : List Int := (List.range (9 + z)).map fun p => if p = 0 then 128 else if p ≤ z then 0 else if 8 + z - p < i then ((n / 256 ^ (8 + z - p) % 256 : Nat) : Int) else 0
theorem endR_len (z n i : Nat) : (endR z n i).length = 9 + z := by simp [endR]
theorem endR_start (z n : Nat) : endR z n 0 = (List.replicate (9 + z) (0 : Int)).set 0 128 := by
  have e : List.replicate (9 + z) (0 : Int) = (List.range (9 + z)).map fun _ => 0 := by rw [List.map_const', List.length_range]
  rw [e]
  exact map_range_set (9 + z) 0 _ _ _ rfl (fun j hj => by simp [hj])
theorem map_range_setB {α : Type} (n k : Nat) (f g : Nat → α) (v : α) (hk : g k = v) (ho : ∀ j, j < n → j ≠ k → g j = f j) : (List.range n).map g = ((List.range n).map f).set k v := by
  apply List.ext_getElem?
  intro j
  by_cases hj : j < n
  · by_cases e : j = k
    · subst e
      rw [List.getElem?_set_self (by simp [hj])]
      simp [hj, hk]
    · rw [List.getElem?_set_ne (Ne.symm e)]
      simp [hj, ho j hj e]
  · rw [List.getElem?_eq_none (by simp; omega), List.getElem?_eq_none (by simp; omega)]
theorem endR_step (z n i : Nat) (hi : i < 8) : endR z n (i + 1) = (endR z n i).set (8 + z - i) ((n / 256 ^ i % 256 : Nat) : Int) := by
  refine map_range_setB (9 + z) (8 + z - i) _ _ _ ?_ ?_
  · show (if 8 + z - i = 0 then _ else _) = _
    rw [if_neg (by omega), if_neg (by omega), if_pos (by omega), show 8 + z - (8 + z - i) = i by omega]
  · intro j hjn hj
    show (if j = 0 then _ else if j ≤ z then _ else if 8 + z - j < i + 1 then _ else _) = (if j = 0 then _ else if j ≤ z then _ else if 8 + z - j < i then _ else _)
    by_cases h0 : j = 0
    · rw [if_pos h0, if_pos h0]
    · rw [if_neg h0, if_neg h0]
      by_cases h1 : j ≤ z
      · rw [if_pos h1, if_pos h1]
      · rw [if_neg h1, if_neg h1]
        by_cases h2 : 8 + z - j < i
        · rw [if_pos (by omega), if_pos h2]
        · rw [if_neg (by omega), if_neg h2]
theorem ofNat_mod8 (x : Nat) : UInt8.ofNat (x % 256) = UInt8.ofNat x := by
  apply UInt8.toNat_inj.1
  simp
theorem endR_all (size : Nat) : strOfNums (endR (nZero size) (8 * size) 8) = ⟨(endL size).toArray⟩ := by
  unfold strOfNums
  congr 2
  unfold endR endL be8
  apply List.ext_getElem?
  intro p
  generalize nZero size = z
  generalize 8 * size = n
  by_cases hp : p < 9 + z
  · simp only [List.getElem?_map]
    rw [List.getElem?_range hp]
    simp only [Option.map_some]
    cases p with
    | zero => rfl
    | succ p =>
      rw [List.getElem?_cons_succ, if_neg (by omega)]
      by_cases h1 : p < z
      · rw [List.getElem?_append_left (by simp; exact h1), List.getElem?_replicate, if_pos h1, if_pos (by omega)]
        rfl
      · rw [List.getElem?_append_right (by simp; omega), List.length_replicate, List.getElem?_map, List.getElem?_range (by omega), if_neg (by omega), if_pos (by omega), show 8 + z - (p + 1) = 7 - (p - z) by omega, Int.toNat_natCast, ofNat_mod8]
        rfl
  · rw [List.getElem?_eq_none (by simp; omega), List.getElem?_eq_none (by simp; omega)]
theorem pow_256 (i : Nat) : (2 : Int) ^ (8 * i) = ((256 ^ i : Nat) : Int) := by
  rw [Int.pow_mul]; simp
theorem end_val (size i : Nat) : (size : Int) * 8 / 2 ^ (8 * i) % 256 = (((8 * size) / 256 ^ i % 256 : Nat) : Int) := by
  have e1 : (size : Int) * 8 = ((8 * size : Nat) : Int) := by omega
  rw [e1, pow_256]
  rfl
theorem cB_set (l : List UInt8) (j : Nat) (v : UInt8) : (cB l).setIfInBounds j (.int .u8 (v.toNat : Int)) = cB (l.set j v) := by
  simp [cB, List.map_set]
def z20 : List UInt8 := List.replicate 20 0
end Go.Proofs.Ytohdfdbpmmeidab
