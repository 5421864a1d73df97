/-
  Chapter 6: a text cut at its first ';'. · Plain functions of chapter 1: numbers in sixteens. No Go in sight. · The walks over chapter 1: cursors. · The walks over chapter 1: a cursor's methods. · The walks over chapter 1: TakeN. · Chapter 6: a body out of its chunks, on lists. No Go in sight. · A region that draws its order, whose first operations leave the world inside a class of worlds (they read; their callees may draw, or make memory of their own) and whose last ones wait for all of these (a store): one walk in the order of the text serves every order. Leans on the library's lemmas on 'qOp', 'HeadInv' and 'wpAny_of_seq'. · The class of the worlds that have grown out of one: for regions that draw their order and whose callees make memory of their own. · The marks of the exact laws: their texts; worlds that have grown but for one block. · The exact laws' marks over rows of texts. · Rows of texts that are written to: marks; what the exact laws do with them. · Contracts of the library's functions at this program, laid off the kit's shelf in plain words. · Plain functions of chapter 1: the elements of a list. No Go in sight. And: a scope with several labels. · The walks over chapter 1: withPiece, Elements. · The walks over chapter 1: impl.Elements, a machine of three labels.
-/
import Derived.Test.YthdgeepedofleaaGreatDoorJ2
import Derived.Test.YthdgeepedofleaaGreatDoorJ1
import Derived.Test.YthdgeepedofleaaGreatDoorProg
import Derived.Deep.RegionWith
import Derived.StillTail
import Derived.Deep.Quiet
import Derived.BigQuiet
import Derived.Test.YthdgeepedofleaaGreatDoorJ0
import Derived.Lib.ConvBytes
import Derived.Lib.SmallJoins
import Derived.Deep.QuietTactic
import Derived.Shelf.Strings.OnBuilder
import Derived.Scope
import Derived.ScopeJumps
namespace Go.Proofs.YthdgeepedofleaaGreatDoor
set_option linter.unusedVariables false
set_option linter.unusedSimpArgs false
open Go.RowKit
/-- Where the first ';' stands, or -1. -/
def idxSc (s : ByteArray) : Int := Lib.indexByte s.data.toList 59
theorem idxSc_some {s : ByteArray} {i : Nat} (h : idxSc s = (i : Int)) : i < s.size ∧ at8 s i = 59 ∧ ∀ j, j < i → at8 s j ≠ 59 := by
  obtain ⟨h1, h2⟩ := Lib.indexByte_some h
  have hi : i < s.data.toList.length := (List.getElem?_eq_some_iff.1 h1).1
  rw [len_data] at hi
  refine ⟨hi, by unfold at8; rw [List.getD, h1]; rfl, fun j hj he => h2 j hj ?_⟩
  have hj' : j < s.data.toList.length := by rw [len_data]; omega
  unfold at8 at he
  rw [List.getD, List.getElem?_eq_getElem hj'] at he
  rw [List.getElem?_eq_getElem hj']
  simpa using he
theorem idxSc_none {s : ByteArray} (h : idxSc s = -1) : ∀ j, j < s.size → at8 s j ≠ 59 := by
  intro j hj he
  have hj' : j < s.data.toList.length := by rw [len_data]; omega
  refine Lib.indexByte_none h j ?_
  unfold at8 at he
  rw [List.getD, List.getElem?_eq_getElem hj'] at he
  rw [List.getElem?_eq_getElem hj']
  simpa using he
theorem idxSc_cases (s : ByteArray) : idxSc s = -1 ∨ ∃ i : Nat, idxSc s = (i : Int) ∧ i < s.size := by
  have h := Lib.indexByte_ge s.data.toList 59
  by_cases h1 : idxSc s = -1
  · exact .inl h1
  · right
    have h2 : -1 ≤ idxSc s := h
    have h3 : idxSc s = ((idxSc s).toNat : Int) := by omega
    exact ⟨(idxSc s).toNat, h3, (idxSc_some h3).1⟩
theorem idxSc_of {s : ByteArray} {i : Nat} (h1 : i < s.size) (h2 : at8 s i = 59) (h3 : ∀ j, j < i → at8 s j ≠ 59) : idxSc s = (i : Int) := by
  rcases idxSc_cases s with h | ⟨k, hk, _⟩
  · exact absurd h2 (idxSc_none h i h1)
  · obtain ⟨g1, g2, g3⟩ := idxSc_some hk
    rcases Nat.lt_trichotomy k i with h | h | h
    · exact absurd g2 (h3 k h)
    · rw [hk, h]
    · exact absurd h2 (g3 i h)
set_option maxRecDepth 100000 in
set_option maxHeartbeats 1000000 in
theorem Index1S_any (s : ByteArray) (w : World) :
    Calls Tryz.prog 94 #[.string s, .string ⟨#[59]⟩] w fun e w' => e = .returned (.int .i64 (idxSc s)) ∧ w' = w := by
  cases h : eqB ⟨#[59]⟩ s
  · have h1 : (([59] : List UInt8) == s.toList) = false := by
      rw [show ([59] : List UInt8) = (⟨#[59]⟩ : ByteArray).toList by rw [ByteArray.toList_eq]]
      exact h
    have HI := hideB2 (fun W => IndexByte_any s 59 W)
    clear h
    go_enter Tryz.func94, Tryz.ntmps94
    go_wp2_with (go_at_call 114; refine (HI.out _).mono ?_; rintro e w' ⟨rfl, rfl⟩)
    go_ret
    exact ⟨rfl, rfl⟩
  · have h1 : (([59] : List UInt8) == s.toList) = true := by
      rw [show ([59] : List UInt8) = (⟨#[59]⟩ : ByteArray).toList by rw [ByteArray.toList_eq]]
      exact h
    have HE := hideB2 (show idxSc s = 0 by rw [← eqB_iff.1 h]; unfold idxSc; simp [Lib.indexByte])
    clear h
    go_enter Tryz.func94, Tryz.ntmps94
    go_wp2
    go_ret
    exact ⟨ret_int HE.out, rfl⟩
set_option maxHeartbeats 1000000 in
theorem Cut0S_none (s : ByteArray) (w : World) (hi : idxSc s = -1) :
    Calls Tryz.prog 260 #[.string s, .string ⟨#[59]⟩] w fun e w' => e = .returned (.tuple #[.string s, .string ⟨#[]⟩, .bool false]) ∧ Below w.heap.size w w' := by
  have HI := hideB2 hi
  clear hi
  go_enter Tryz.func260, Tryz.ntmps260
  go_wp2_with (go_at_call 94; refine (Index1S_any _ _).mono ?_; rintro e w' ⟨rfl, rfl⟩; rw [HI.out])
  go_ret3
  exact ⟨rfl, Below.refl _ _⟩
set_option maxHeartbeats 1000000 in
theorem Cut0S_some (s : ByteArray) (i : Nat) (w : World) (hi : idxSc s = (i : Int)) (hlt : i < s.size) (hs : s.size ≤ maxLen) :
    Calls Tryz.prog 260 #[.string s, .string ⟨#[59]⟩] w fun e w' => e = .returned (.tuple #[.string (s.extract 0 i), .string (s.extract (i + 1) s.size), .bool true]) ∧ Below w.heap.size w w' := by
  have HI := hideB2 hi
  unfold maxLen at hs
  clear hi
  have e1 : IntKind.i64.wrap ((i : Int) + 1) = (i : Int) + 1 := by rw [IntKind.wrap_i64]; omega
  have c0 : (0 : Int) ≤ (i : Int) := by omega
  have c1 : (i : Int) ≤ (s.size : Int) := by omega
  have c2 : (0 : Int) ≤ (i : Int) + 1 := by omega
  have c3 : (i : Int) + 1 ≤ (s.size : Int) := by omega
  go_enter Tryz.func260, Tryz.ntmps260
  go_wp2_with (go_at_call 94; refine (Index1S_any _ _).mono ?_; rintro e w' ⟨rfl, rfl⟩; rw [HI.out])
  go_region
  go_wp2
  go_ret3
  exact ⟨rfl, (Below.refl _ _).drew⟩
set_option maxHeartbeats 1000000 in
theorem CutS_none (s : ByteArray) (w : World) (hi : idxSc s = -1) :
    Calls Tryz.prog 224 #[.string s, .string ⟨#[59]⟩] w fun e w' => e = .returned (.tuple #[.string s, .string ⟨#[]⟩, .bool false]) ∧ Below w.heap.size w w' := by
  have HC := hideB2 (fun W => Cut0S_none s W hi)
  clear hi
  go_enter Tryz.func224, Tryz.ntmps224
  go_wp2_with (go_at_call 260; refine (HC.out _).mono ?_; rintro e w' ⟨rfl, hb⟩)
  go_ret3
  exact ⟨rfl, hb⟩
set_option maxHeartbeats 1000000 in
theorem CutS_some (s : ByteArray) (i : Nat) (w : World) (hi : idxSc s = (i : Int)) (hlt : i < s.size) (hs : s.size ≤ maxLen) :
    Calls Tryz.prog 224 #[.string s, .string ⟨#[59]⟩] w fun e w' => e = .returned (.tuple #[.string (s.extract 0 i), .string (s.extract (i + 1) s.size), .bool true]) ∧ Below w.heap.size w w' := by
  have HC := hideB2 (fun W => Cut0S_some s i W hi hlt hs)
  clear hi
  generalize s.extract 0 i = x at *
  generalize s.extract (i + 1) s.size = y at *
  go_enter Tryz.func224, Tryz.ntmps224
  go_wp2_with (go_at_call 260; refine (HC.out _).mono ?_; rintro e w' ⟨rfl, hb⟩)
  go_ret3
  exact ⟨rfl, hb⟩
end Go.Proofs.YthdgeepedofleaaGreatDoor
namespace Go.Proofs.YthdgeepedofleaaGreatDoor
set_option linter.unusedVariables false
set_option linter.unusedSimpArgs false
open Go.RowKit

/-- The value of a digit of sixteen, -1 for any other byte. -/
def hexV (n : Int) : Int := if digP n = true then n - 48 else if 97 ≤ lowI n ∧ lowI n ≤ 102 then lowI n - 87 else -1
def hex8 (b : UInt8) : Int := hexV (b.toNat : Int)
def hval (l : List UInt8) : Int := l.foldl (fun n b => n * 16 + hex8 b) 0
def allHex (l : List UInt8) : Bool := l.all fun b => decide (0 ≤ hex8 b)
def rhexOk (s : ByteArray) : Bool := decide (0 < s.size) && decide (s.size ≤ 7) && allHex s.data.toList
def rhexN (s : ByteArray) : Int := if rhexOk s = true then hval s.data.toList else 0

theorem digP_iff {n : Int} : digP n = true ↔ 48 ≤ n ∧ n ≤ 57 := by unfold digP; simp
theorem hexV_dig {n : Int} (h : digP n = true) : hexV n = n - 48 := by unfold hexV; rw [if_pos h]
theorem hexV_let {n : Int} (h : digP n = false) (h1 : 97 ≤ lowI n) (h2 : lowI n ≤ 102) : hexV n = lowI n - 87 := by
  unfold hexV; rw [if_neg (by simp [h]), if_pos ⟨h1, h2⟩]
theorem hexV_no {n : Int} (h : digP n = false) (h1 : lowI n < 97 ∨ 102 < lowI n) : hexV n = -1 := by
  unfold hexV; rw [if_neg (by simp [h]), if_neg (by omega)]
theorem hexV_bd (n : Int) : -1 ≤ hexV n ∧ hexV n ≤ 15 := by
  unfold hexV
  split
  · rename_i h; rw [digP_iff] at h; omega
  · split <;> omega
theorem digP_low (n : Int) (h0 : 0 ≤ n) : digP (lowI n) = digP n := by
  unfold digP lowI
  by_cases h : 65 ≤ n ∧ n ≤ 90
  · rw [if_pos h]
    have h1 : ¬ n ≤ 57 := by omega
    have h2 : ¬ n + 32 ≤ 57 := by omega
    simp [h1, h2]
  · rw [if_neg h]
theorem lowI_dig {n : Int} (h : digP n = true) : lowI n = n := by
  rw [digP_iff] at h; unfold lowI; rw [if_neg (by omega)]
theorem hval_snoc (l : List UInt8) (b : UInt8) : hval (l ++ [b]) = hval l * 16 + hex8 b := by simp [hval]
theorem hval_bd (l : List UInt8) (h : allHex l = true) : 0 ≤ hval l ∧ hval l < 16 ^ l.length := by
  revert h
  refine snoc_ind (p := fun l => allHex l = true → 0 ≤ hval l ∧ hval l < 16 ^ l.length) ?_ ?_ l
  · intro _; simp [hval]
  · intro q b ih h
    have hq : allHex q = true := by unfold allHex at h ⊢; rw [List.all_append] at h; simp at h; simpa using h.1
    have hb : 0 ≤ hex8 b := by unfold allHex at h; rw [List.all_append] at h; simp at h; exact h.2
    have hb2 := (hexV_bd (b.toNat : Int)).2
    have := ih hq
    have hb3 : hex8 b ≤ 15 := hb2
    rw [hval_snoc, List.length_append, List.length_singleton, Int.pow_succ]
    omega
theorem allHex_snoc (l : List UInt8) (b : UInt8) (h : allHex l = true) (hb : 0 ≤ hex8 b) : allHex (l ++ [b]) = true := by
  unfold allHex at *
  rw [List.all_append, h]
  simp [hb]
theorem allHex_no (s : ByteArray) (k : Nat) (hk : k < s.size) (h : hex8 (at8 s k) < 0) : allHex s.data.toList = false := by
  have hl : k < s.data.toList.length := by rw [len_data]; exact hk
  unfold allHex
  rw [List.all_eq_false]
  refine ⟨s.data.toList[k], List.getElem_mem hl, ?_⟩
  simp [at8, List.getD, List.getElem?_eq_getElem hl] at h
  simpa using h
theorem rhex_size {s : ByteArray} (h : s.size = 0 ∨ 7 < s.size) : rhexN s = 0 ∧ rhexOk s = false := by
  have : rhexOk s = false := by
    unfold rhexOk
    rcases h with h | h
    · simp [h]
    · simp [show ¬ s.size ≤ 7 by omega]
  exact ⟨by simp [rhexN, this], this⟩
theorem rhex_no {s : ByteArray} {k : Nat} (hk : k < s.size) (h : hex8 (at8 s k) < 0) : rhexN s = 0 ∧ rhexOk s = false := by
  have : rhexOk s = false := by unfold rhexOk; simp [allHex_no s k hk h]
  exact ⟨by simp [rhexN, this], this⟩
theorem rhex_yes {s : ByteArray} (h0 : 0 < s.size) (h1 : s.size ≤ 7) (h : allHex s.data.toList = true) : rhexN s = hval s.data.toList ∧ rhexOk s = true := by
  have : rhexOk s = true := by unfold rhexOk; simp [h0, h1, h]
  exact ⟨by simp [rhexN, this], this⟩
theorem hval_small (s : ByteArray) (k : Nat) (hk : k ≤ 7) (h : allHex (s.data.toList.take k) = true) : 0 ≤ hval (s.data.toList.take k) ∧ hval (s.data.toList.take k) < 268435456 := by
  have h1 := hval_bd _ h
  have h2 : (s.data.toList.take k).length ≤ 7 := by simp; omega
  have h3' : (16 : Nat) ^ (s.data.toList.take k).length ≤ 16 ^ 7 := Nat.pow_le_pow_right (by decide) h2
  have h3 : (16 : Int) ^ (s.data.toList.take k).length ≤ 16 ^ 7 := by exact_mod_cast h3'
  have h4 : (16 : Int) ^ 7 = 268435456 := by decide
  omega
end Go.Proofs.YthdgeepedofleaaGreatDoor
namespace Go.Proofs.YthdgeepedofleaaGreatDoor
set_option linter.unusedVariables false
set_option linter.unusedSimpArgs false
open Go.RowKit

theorem keep2 {W w1 : World} (hb : Below W.heap.size W w1) {b : Nat} {x y : Value} (h0 : W.cell? ⟨b, 0, none⟩ = some x) (h1 : W.cell? ⟨b, 1, none⟩ = some y) :
    w1.cell? ⟨b, 0, none⟩ = some x ∧ w1.cell? ⟨b, 1, none⟩ = some y ∧ b < w1.heap.size :=
  ⟨cell_later hb h0, cell_later hb h1, Nat.lt_of_lt_of_le (World.block_lt_of_cell? _ _ h0) hb.size⟩
set_option maxHeartbeats 400000 in
theorem inside_any (s : ByteArray) (n : Int) (w : World) :
    Calls Tryz.prog 277 #[.agg #[.string s, .int .i64 n]] w fun e w' => e = .returned (.bool (curOk s n)) ∧ w' = w.alloc (.cells #[.string s, .int .i64 n] 183) := by
  by_cases h : 0 ≤ n
  · rw [curOk_pos h]
    go_enter Tryz.func277, Tryz.ntmps277
    go_wp2
    go_ret
    exact ⟨rfl, rfl⟩
  · rw [curOk_neg h]
    have h' : decide (0 ≤ n) = false := by simpa using h
    go_enter Tryz.func277, Tryz.ntmps277
    go_wp2
    go_ret
    exact ⟨rfl, rfl⟩
set_option maxHeartbeats 400000 in
theorem sCurOk_any (s : ByteArray) (n : Int) (w : World) :
    Calls Tryz.prog 202 #[.agg #[.string s, .int .i64 n]] w fun e w' => e = .returned (.bool (curOk s n)) ∧ w' = w.alloc (.cells #[.string s, .int .i64 n] 183) := by
  by_cases h : 0 ≤ n
  · rw [curOk_pos h]
    go_enter Tryz.func202, Tryz.ntmps202
    go_wp2
    go_ret
    exact ⟨rfl, rfl⟩
  · rw [curOk_neg h]
    have h' : decide (0 ≤ n) = false := by simpa using h
    go_enter Tryz.func202, Tryz.ntmps202
    go_wp2
    go_ret
    exact ⟨rfl, rfl⟩
end Go.Proofs.YthdgeepedofleaaGreatDoor
namespace Go.Proofs.YthdgeepedofleaaGreatDoor
set_option linter.unusedVariables false
set_option linter.unusedSimpArgs false
open Go.RowKit

set_option maxHeartbeats 400000 in
theorem left_any (s : ByteArray) (k : Nat) (w : World) (hs : s.size ≤ maxLen) (hk : k ≤ s.size) :
    Calls Tryz.prog 258 #[.agg #[.string s, .int .i64 (k : Int)]] w fun e w' => e = .returned (.int .i64 ((s.size : Int) - k)) ∧ w' = w.alloc (.cells #[.string s, .int .i64 (k : Int)] 183) := by
  unfold maxLen at hs
  go_enter Tryz.func258, Tryz.ntmps258
  go_wp2
  go_ret
  exact ⟨rfl, rfl⟩
set_option maxHeartbeats 400000 in
theorem next_any (s : ByteArray) (k : Nat) (w : World) (hs : s.size ≤ maxLen) (hk : k < s.size) :
    Calls Tryz.prog 280 #[.agg #[.string s, .int .i64 (k : Int)]] w fun e w' => e = .returned (.int .u8 (s[k].toNat : Int)) ∧ w' = w.alloc (.cells #[.string s, .int .i64 (k : Int)] 183) := by
  unfold maxLen at hs
  go_enter Tryz.func280, Tryz.ntmps280
  go_wp2
  go_ret
  exact ⟨rfl, rfl⟩
set_option maxHeartbeats 400000 in
theorem part_any (s : ByteArray) (k m : Nat) (w : World) (hs : s.size ≤ maxLen) (hk : k + m ≤ s.size) :
    Calls Tryz.prog 281 #[.agg #[.string s, .int .i64 (k : Int)], .int .i64 (m : Int)] w fun e w' => e = .returned (.string (s.extract k (k + m))) ∧ w' = w.alloc (.cells #[.string s, .int .i64 (k : Int)] 183) := by
  unfold maxLen at hs
  have hk2 : k ≤ k + m := by omega
  go_enter Tryz.func281, Tryz.ntmps281
  go_wp2
  go_ret
  exact ⟨rfl, rfl⟩
set_option maxHeartbeats 400000 in
theorem behind_any (s : ByteArray) (k m : Nat) (w : World) (hs : s.size ≤ maxLen) (hk : k + m ≤ s.size) :
    Calls Tryz.prog 279 #[.agg #[.string s, .int .i64 (k : Int)], .int .i64 (m : Int)] w fun e w' => e = .returned (.agg #[.string s, .int .i64 ((k : Int) + m)]) ∧ Below w.heap.size w w' := by
  unfold maxLen at hs
  go_enter Tryz.func279, Tryz.ntmps279
  go_wp2
  exact bodyPost_ret (v := .agg #[.string s, .int .i64 ((k : Int) + m)]) (by simp [results, Tryz.results279, go_sem]) rfl ⟨rfl, (by repeat (first | exact Below.refl _ _ | refine Below.drew ?_ | refine Below.alloc ?_ (by simp <;> omega) _ | refine Below.setCell ?_ (by simp <;> omega) _))⟩
set_option maxHeartbeats 1000000 in
theorem beforeLineEnd_any (s : ByteArray) (k : Nat) (w : World) (hs : s.size ≤ maxLen) (hk : k ≤ s.size) :
    Calls Tryz.prog 278 #[.agg #[.string s, .int .i64 (k : Int)]] w fun e w' => e = .returned (.int .i64 (eolLen s k : Nat)) ∧ Below w.heap.size w w' := by
  have hs' := hs
  unfold maxLen at hs'
  go_enter Tryz.func278, Tryz.ntmps278
  go_wp2_with fail
  go_loopw [3] (fun i wr => ∃ m : Nat, k + m ≤ s.size ∧ i = .int .i64 (m : Int) ∧ wr.cell? ⟨w.heap.size, 0, none⟩ = some (.string s) ∧ wr.cell? ⟨w.heap.size, 1, none⟩ = some (.int .i64 (k : Int)) ∧ w.heap.size < wr.heap.size ∧ Below w.heap.size w wr ∧ ∀ j, j < m → eol8 (at8 s (k + j)) = false) (fun i _ => s.size - (intOf i).toNat)
  case atStart => exact ⟨0, by omega, rfl, by simp, by simp, by simp, (Below.refl _ _).alloc (Nat.le_refl _) _, fun j hj => by omega⟩
  case round =>
    obtain ⟨m, hkm, rfl, q0, q1, qz, hbel, hall⟩ := hrel
    have Hall : Hid (∀ j, j < m → eol8 (at8 s (k + j)) = false) := hall
    clear hall
    have hbel2 : Below w.heap.size w (wr.alloc (.cells #[.string s, .int .i64 (k : Int)] 183)) := hbel.alloc hbel.size _
    by_cases hlt : k + m < s.size
    · have hd : (m : Int) < (s.size : Int) - (k : Int) := by omega
      by_cases h13 : ((at8 s (k + m)).toNat : Int) = 13
      · have g13 : ((s[k + m].toNat : Int) != 13) = false := by rw [at8_eq s (k + m) hlt]; simpa using h13
        have hfin : Hid (eolLen s k = m) := eolLen_of s k m hkm Hall.out (Or.inr (eolP_iff.2 (Or.inl h13)))
        clear h13
        go_wp2_with (go_at_call 258; refine (left_any s k _ hs hk).mono ?_; rintro e w' ⟨rfl, rfl⟩)
        go_ret
        exact ⟨ret_int (by rw [hfin.out]), hbel2⟩
      · have g13 : ((s[k + m].toNat : Int) != 13) = true := by rw [at8_eq s (k + m) hlt]; simpa using h13
        by_cases h10 : ((at8 s (k + m)).toNat : Int) = 10
        · have g10 : ((s[k + m].toNat : Int) != 10) = false := by rw [at8_eq s (k + m) hlt]; simpa using h10
          have hfin : Hid (eolLen s k = m) := eolLen_of s k m hkm Hall.out (Or.inr (eolP_iff.2 (Or.inr h10)))
          clear h13 h10
          go_wp2_with (go_at_call 258; refine (left_any s k _ hs hk).mono ?_; rintro e w' ⟨rfl, rfl⟩)
          go_ret
          exact ⟨ret_int (by rw [hfin.out]), hbel2⟩
        · have g10 : ((s[k + m].toNat : Int) != 10) = true := by rw [at8_eq s (k + m) hlt]; simpa using h10
          have hnew : Hid (eol8 (at8 s (k + m)) = false) := eolP_no.2 ⟨h13, h10⟩
          have r0 : (wr.alloc (.cells #[.string s, .int .i64 (k : Int)] 183)).cell? ⟨w.heap.size, 0, none⟩ = some (.string s) := cell_later ((Below.refl _ wr).alloc (Nat.le_refl _) _) q0
          have r1 : (wr.alloc (.cells #[.string s, .int .i64 (k : Int)] 183)).cell? ⟨w.heap.size, 1, none⟩ = some (.int .i64 (k : Int)) := cell_later ((Below.refl _ wr).alloc (Nat.le_refl _) _) q1
          have R0 : Hid _ := r0
          have R1 : Hid _ := r1
          clear h13 h10 r0 r1
          go_wp2_with (go_at_call 258; refine (left_any s k _ hs hk).mono ?_; rintro e w' ⟨rfl, rfl⟩)
          go_roundw
          case rel => exact ⟨m + 1, by omega, by go_num, R0.out, R1.out, by simp; omega, hbel2, all_succ Hall.out hnew.out⟩
          case measure => simp [intOf]; omega
    · have hd : decide ((m : Int) < (s.size : Int) - (k : Int)) = false := by simp; omega
      have hfin : Hid (eolLen s k = m) := eolLen_of s k m hkm Hall.out (Or.inl (by omega))
      go_wp2_with (go_at_call 258; refine (left_any s k _ hs hk).mono ?_; rintro e w' ⟨rfl, rfl⟩)
      go_ret
      exact ⟨ret_int (by rw [hfin.out]), hbel2⟩
end Go.Proofs.YthdgeepedofleaaGreatDoor
namespace Go.Proofs.YthdgeepedofleaaGreatDoor
set_option linter.unusedVariables false
set_option linter.unusedSimpArgs false
open Go.RowKit

/-- What TakeN answers. -/
def tnOk (s : ByteArray) (n m : Int) : Bool := curOk s n && decide (0 ≤ m) && decide (m ≤ (s.size : Int) - n)
def tnV (s : ByteArray) (n m : Int) : Value := if tnOk s n m = true then .tuple #[.string (s.extract n.toNat (n.toNat + m.toNat)), .agg #[.string s, .int .i64 (n + m)], .bool true] else .tuple #[.string ⟨#[]⟩, curZ, .bool false]
theorem tnV_no {s : ByteArray} {n m : Int} (h : tnOk s n m = false) : tnV s n m = .tuple #[.string ⟨#[]⟩, curZ, .bool false] := by simp [tnV, h]
theorem tnV_yes {s : ByteArray} {k m : Nat} (h : k + m ≤ s.size) : tnV s (k : Int) (m : Int) = .tuple #[.string (s.extract k (k + m)), .agg #[.string s, .int .i64 ((k : Int) + m)], .bool true] := by
  have : tnOk s (k : Int) (m : Int) = true := by
    unfold tnOk
    simp [curOk]
    omega
  unfold tnV
  rw [if_pos this, Int.toNat_natCast, Int.toNat_natCast]

set_option maxHeartbeats 1000000 in
theorem sTakeN_any (s : ByteArray) (n m : Int) (w : World) (hs : s.size ≤ maxLen) (hm : m ≤ 9223372036854775807) :
    Calls Tryz.prog 209 #[.agg #[.string s, .int .i64 n], .int .i64 m] w fun e w' => e = .returned (tnV s n m) ∧ Below w.heap.size w w' := by
  have hs' := hs
  unfold maxLen at hs'
  cases hc : curOk s n
  · rw [tnV_no (by simp [tnOk, hc])]
    go_enter Tryz.func209, Tryz.ntmps209
    go_wp2_with (go_at_call 202; refine (sCurOk_any s n _).mono ?_; rintro e w' ⟨rfl, rfl⟩)
    refine bodyPost_ret (v := .tuple #[.string ⟨#[]⟩, curZ, .bool false]) (by simp [results, Tryz.results209, go_sem, curZ]) rfl ⟨rfl, ?_⟩
    exact (by repeat (first | exact Below.refl _ _ | refine Below.drew ?_ | refine Below.alloc ?_ (by simp <;> omega) _ | refine Below.setCell ?_ (by simp <;> omega) _))
  · obtain ⟨h0, h1⟩ := curOk_iff.1 hc
    obtain ⟨k, rfl⟩ := Int.eq_ofNat_of_zero_le h0
    have hk : k ≤ s.size := by omega
    by_cases hm0 : m < 0
    · rw [tnV_no (by simp [tnOk]; omega)]
      go_enter Tryz.func209, Tryz.ntmps209
      go_wp2_with (go_at_call 202; refine (sCurOk_any s k _).mono ?_; rintro e w' ⟨rfl, rfl⟩)
      refine bodyPost_ret (v := .tuple #[.string ⟨#[]⟩, curZ, .bool false]) (by simp [results, Tryz.results209, go_sem, curZ]) rfl ⟨rfl, ?_⟩
      exact (by repeat (first | exact Below.refl _ _ | refine Below.drew ?_ | refine Below.alloc ?_ (by simp <;> omega) _ | refine Below.setCell ?_ (by simp <;> omega) _))
    · obtain ⟨j, rfl⟩ := Int.eq_ofNat_of_zero_le (show 0 ≤ m by omega)
      by_cases hbig : (s.size : Int) - (k : Int) < (j : Int)
      · rw [tnV_no (by simp [tnOk]; omega)]
        go_enter Tryz.func209, Tryz.ntmps209
        go_wp2_with (go_at_call 202; refine (sCurOk_any s k _).mono ?_; rintro e w' ⟨rfl, rfl⟩)
        refine bodyPost_ret (v := .tuple #[.string ⟨#[]⟩, curZ, .bool false]) (by simp [results, Tryz.results209, go_sem, curZ]) rfl ⟨rfl, ?_⟩
        exact (by repeat (first | exact Below.refl _ _ | refine Below.drew ?_ | refine Below.alloc ?_ (by simp <;> omega) _ | refine Below.setCell ?_ (by simp <;> omega) _))
      · rw [tnV_yes (by omega)]
        have e1 : IntKind.i64.wrap ((k : Int) + (j : Int)) = (k : Int) + (j : Int) := by rw [IntKind.wrap_i64]; omega
        have hkj : k ≤ k + j := by omega
        have hkj2 : k + j ≤ s.size := by omega
        go_enter Tryz.func209, Tryz.ntmps209
        go_wp2_with (go_at_call 202; refine (sCurOk_any s k _).mono ?_; rintro e w' ⟨rfl, rfl⟩)
        go_region
        go_wp2
        refine bodyPost_ret (v := .tuple #[.string (s.extract k (k + j)), .agg #[.string s, .int .i64 ((k : Int) + j)], .bool true]) (by simp [results, Tryz.results209, go_sem]) rfl ⟨rfl, ?_⟩
        exact (by repeat (first | exact Below.refl _ _ | refine Below.drew ?_ | refine Below.alloc ?_ (by simp <;> omega) _ | refine Below.setCell ?_ (by simp <;> omega) _))
end Go.Proofs.YthdgeepedofleaaGreatDoor
namespace Go.Proofs.YthdgeepedofleaaGreatDoor
set_option linter.unusedVariables false
set_option linter.unusedSimpArgs false
open Go.RowKit
/-- A line of a chunked body may be taken. -/
def lnQ (s : ByteArray) (k : Nat) : Bool := decide (tlC s k = 0) && decide (tlE s k - k ≤ 300)
theorem lnQ_iff {s : ByteArray} {k : Nat} : lnQ s k = true ↔ tlC s k = 0 ∧ tlE s k - k ≤ 300 := by unfold lnQ; simp
/-- What stands ahead of the first ';'. -/
def uptoS (s : ByteArray) : ByteArray := if idxSc s = -1 then s else s.extract 0 (idxSc s).toNat
theorem uptoS_none {s : ByteArray} (h : idxSc s = -1) : uptoS s = s := by unfold uptoS; rw [if_pos h]
theorem uptoS_some {s : ByteArray} {i : Nat} (h : idxSc s = (i : Int)) : uptoS s = s.extract 0 i := by
  unfold uptoS; rw [if_neg (by omega), h, Int.toNat_natCast]
theorem uptoS_size (s : ByteArray) : (uptoS s).size ≤ s.size := by
  unfold uptoS
  split
  · exact Nat.le_refl _
  · rw [ByteArray.size_extract]; omega
/-- Where the lines behind the last chunk end. -/
def trE (s : ByteArray) : Nat → Nat → Option Nat
  | 0, _ => none
  | n + 1, k => if lnQ s k = true then (if tlE s k = k then some (k + 2) else if readO (lineAt s k) = true then trE s n (tlE s k + 2) else none) else none
/-- So many bytes stand at p, and CRLF behind them. -/
def datQ (s : ByteArray) (p z : Nat) : Bool := decide (p + z + 2 ≤ s.size) && eqB (s.extract (p + z) (p + z + 2)) ⟨#[13, 10]⟩
def ckR (s : ByteArray) : Nat → Nat → ByteArray → Except Int ByteArray
  | 0, _, _ => .error 400
  | n + 1, k, body =>
    if lnQ s k = false then .error 400
    else if rhexOk (uptoS (lineAt s k)) = false then .error 400
    else if 600 < (body.size : Int) + rhexN (uptoS (lineAt s k)) then .error 413
    else if rhexN (uptoS (lineAt s k)) = 0 then (if trE s 21 (tlE s k + 2) = some s.size then .ok body else .error 400)
    else if datQ s (tlE s k + 2) (rhexN (uptoS (lineAt s k))).toNat = true then ckR s n (tlE s k + 2 + (rhexN (uptoS (lineAt s k))).toNat + 2) (body ++ s.extract (tlE s k + 2) (tlE s k + 2 + (rhexN (uptoS (lineAt s k))).toNat))
    else .error 400
def ckX (s : ByteArray) : Except Int ByteArray := ckR s 601 0 ⟨#[]⟩
def exB : Except Int ByteArray → ByteArray
  | .ok b => b
  | .error _ => ⟨#[]⟩
def exC {α : Type} : Except Int α → Int
  | .ok _ => 0
  | .error c => c
theorem ck_bad1 {s : ByteArray} {n k : Nat} {body : ByteArray} (h : lnQ s k = false) : ckR s (n + 1) k body = .error 400 := by
  rw [ckR, if_pos h]
theorem ck_bad2 {s : ByteArray} {n k : Nat} {body : ByteArray} (h0 : lnQ s k = true) (h : rhexOk (uptoS (lineAt s k)) = false) : ckR s (n + 1) k body = .error 400 := by
  rw [ckR, if_neg (by rw [h0]; simp), if_pos h]
theorem ck_bad3 {s : ByteArray} {n k : Nat} {body : ByteArray} (h0 : lnQ s k = true) (h1 : rhexOk (uptoS (lineAt s k)) = true) (h : 600 < (body.size : Int) + rhexN (uptoS (lineAt s k))) : ckR s (n + 1) k body = .error 413 := by
  rw [ckR, if_neg (by rw [h0]; simp), if_neg (by rw [h1]; simp), if_pos h]
theorem ck_end {s : ByteArray} {n k : Nat} {body : ByteArray} (h0 : lnQ s k = true) (h1 : rhexOk (uptoS (lineAt s k)) = true) (h2 : ¬ 600 < (body.size : Int) + rhexN (uptoS (lineAt s k))) (h : rhexN (uptoS (lineAt s k)) = 0) : ckR s (n + 1) k body = if trE s 21 (tlE s k + 2) = some s.size then .ok body else .error 400 := by
  rw [ckR, if_neg (by rw [h0]; simp), if_neg (by rw [h1]; simp), if_neg h2, if_pos h]
theorem ck_bad4 {s : ByteArray} {n k z : Nat} {body : ByteArray} (h0 : lnQ s k = true) (h1 : rhexOk (uptoS (lineAt s k)) = true) (h2 : ¬ 600 < (body.size : Int) + rhexN (uptoS (lineAt s k))) (hz : rhexN (uptoS (lineAt s k)) = (z : Int)) (h3 : z ≠ 0) (h : datQ s (tlE s k + 2) z = false) : ckR s (n + 1) k body = .error 400 := by
  rw [ckR, if_neg (by rw [h0]; simp), if_neg (by rw [h1]; simp), if_neg h2, if_neg (by rw [hz]; omega), hz, Int.toNat_natCast, if_neg (by rw [h]; simp)]
theorem ck_next {s : ByteArray} {n k z : Nat} {body : ByteArray} (h0 : lnQ s k = true) (h1 : rhexOk (uptoS (lineAt s k)) = true) (h2 : ¬ 600 < (body.size : Int) + rhexN (uptoS (lineAt s k))) (hz : rhexN (uptoS (lineAt s k)) = (z : Int)) (h3 : z ≠ 0) (h : datQ s (tlE s k + 2) z = true) : ckR s (n + 1) k body = ckR s n (tlE s k + 2 + z + 2) (body ++ s.extract (tlE s k + 2) (tlE s k + 2 + z)) := by
  rw [ckR, if_neg (by rw [h0]; simp), if_neg (by rw [h1]; simp), if_neg h2, if_neg (by rw [hz]; omega), hz, Int.toNat_natCast, if_pos h]
theorem trE_bad {s : ByteArray} {n k : Nat} (h : lnQ s k = false) : trE s (n + 1) k = none := by rw [trE, if_neg (by rw [h]; simp)]
theorem trE_end {s : ByteArray} {n k : Nat} (h : lnQ s k = true) (h1 : tlE s k = k) : trE s (n + 1) k = some (k + 2) := by rw [trE, if_pos h, if_pos h1]
theorem trE_no {s : ByteArray} {n k : Nat} (h : lnQ s k = true) (h1 : tlE s k ≠ k) (h2 : readO (lineAt s k) = false) : trE s (n + 1) k = none := by rw [trE, if_pos h, if_neg h1, if_neg (by rw [h2]; simp)]
theorem trE_next {s : ByteArray} {n k : Nat} (h : lnQ s k = true) (h1 : tlE s k ≠ k) (h2 : readO (lineAt s k) = true) : trE s (n + 1) k = trE s n (tlE s k + 2) := by rw [trE, if_pos h, if_neg h1, if_pos h2]
theorem lnQ_no {s : ByteArray} {k : Nat} (h : tlC s k ≠ 0) : lnQ s k = false := by unfold lnQ; simp [h]
theorem rhexN_bd (s : ByteArray) : 0 ≤ rhexN s ∧ rhexN s ≤ 268435455 := by
  unfold rhexN
  split
  · rename_i h
    unfold rhexOk at h
    rw [Bool.and_eq_true, Bool.and_eq_true, decide_eq_true_eq, decide_eq_true_eq] at h
    have h1 := hval_bd _ h.2
    have h2 : s.data.toList.length ≤ 7 := by rw [len_data]; exact h.1.2
    have h3 : (16 : Int) ^ s.data.toList.length ≤ 16 ^ 7 := by
      have : (16 : Nat) ^ s.data.toList.length ≤ 16 ^ 7 := Nat.pow_le_pow_right (by decide) h2
      exact_mod_cast this
    have h4 : (16 : Int) ^ 7 = 268435456 := by decide
    omega
  · omega
end Go.Proofs.YthdgeepedofleaaGreatDoor
namespace Go.Proofs.YthdgeepedofleaaGreatDoor
set_option linter.unusedVariables false
set_option linter.unusedSimpArgs false
open Go
section
variable {P : Program} {md : Region.Mode} {ops : Array Oper} {C : World → Prop}
/-- No operation from n on comes up while one of k0 .. n - 1 has not. -/
def Waits (md : Region.Mode) (ops : Array Oper) (k0 n : Nat) : Prop :=
  ∀ up, HeadInv md ops n up → ∀ i, k0 ≤ i → i < n → up.getD i true = false → ∀ t, n ≤ t → t ∉ Region.ready md ops up
/-- The operations below n, in whatever order; where f of them have come up, L. -/
def Hd (P : Program) (md : Region.Mode) (ops : Array Oper) (C : World → Prop) (n : Nat) (L : Array Bool → Act → Prop) : Nat → Array Bool → Act → Prop
  | 0 => L
  | f + 1 => fun up a => (∃ i, i ∈ Region.ready md ops up) ∧ ∀ i ∈ Region.ready md ops up, i < n ∧ qOp P ops C i (Hd P md ops C n L f (up.setIfInBounds i true)) a
theorem Hd.wp {n g : Nat} {L : Array Bool → Act → Prop} {Q : Exit → Act → World → Prop} (hL : ∀ up a w, C w → L up a → wpAny P md ops Q g up a w) (f : Nat) :
    ∀ up a w, C w → Hd P md ops C n L f up a → wpAny P md ops Q (f + g) up a w := by
  induction f with
  | zero => intro up a w hw h; rw [Nat.zero_add]; exact hL up a w hw h
  | succ f ih =>
    intro up a w hw ⟨⟨i0, h0⟩, h⟩
    have e : f + 1 + g = (f + g) + 1 := by omega
    rw [e]
    refine ⟨fun hn => ?_, fun i hi => wpOp_of_qOp hw (fun a' w' hw' h' => ih _ a' w' hw' h') (h i hi).2⟩
    rw [hn] at h0; cases h0
/-- What may come up now, and yields the same in every world of the class, may be taken first. -/
theorem Hd.first {n i : Nat} {oi : Oper} {v : Value} {L : Array Bool → Act → Prop} (hi : ops[i]? = some oi) (hsel : Region.noSelect ops = true) (k0 : Nat) (hw : Waits md ops k0 n) (hk : k0 ≤ i) (hin : i < n)
    (hL : ∀ up a, L up a → ∀ j ∈ Region.ready md ops up, n ≤ j) (f : Nat) :
    ∀ up a, HeadInv md ops n up → (∀ j oj, ops[j]? = some oj → j ≠ i → up.getD j true = false → (∀ e ∈ oj.after, Region.binds md e = true → e.on ≠ i) → oi.apart ops oj = true) →
      i ∈ Region.ready md ops up → YieldsIn P ops C oi v a → Hd P md ops C n L f (up.setIfInBounds i true) (a.put oi.dst v) → Hd P md ops C n L (f + 1) up a := by
  have hno := Region.noSelect_spec hsel
  induction f with
  | zero =>
    intro up a inv _ hr hy H
    refine ⟨⟨i, hr⟩, fun j hj => ?_⟩
    have hjn : j < n := Nat.lt_of_not_le fun h => hw up inv i hk hin (mem_ready.1 hr).1 j h hj
    refine ⟨hjn, ?_⟩
    by_cases e : j = i
    · subst e; exact hy.qOp hi H
    · have := hL _ _ H j (ready_mono hj e)
      omega
  | succ f ih =>
    intro up a inv hap hr hy H
    refine ⟨⟨i, hr⟩, fun j hj => ?_⟩
    have hjn : j < n := Nat.lt_of_not_le fun h => hw up inv i hk hin (mem_ready.1 hr).1 j h hj
    refine ⟨hjn, ?_⟩
    by_cases e : j = i
    · subst e; exact hy.qOp hi H
    · obtain ⟨hju, oj, hoj, hall⟩ := mem_ready.1 hj
      have hnw : ∀ x ∈ oj.after, Region.binds md x = true → x.on ≠ i := by
        intro x hx hb ho
        have h1 := hall x hx hb
        rw [ho, getD_both (mem_ready.1 hr).1] at h1
        cases h1
      refine qOp_mono (fun a' h' => ?_) (qOp_put hoj (hap j oj hoj e hju hnw) (fun cs b => hno i oi cs b hi) (fun cs b => hno j oj cs b hoj) hy (H.2 j (ready_mono hj e)).2)
      refine ih _ a' (inv.set hj hjn) (fun k ok hk hki hun hw => hap k ok hk hki ?_ hw) (ready_mono hr (Ne.symm e)) h'.1 ?_
      · by_cases ejk : j = k
        · subst ejk; exact hju
        · rwa [getD_set_ne true ejk] at hun
      · rw [Array.setIfInBounds_comm _ _ e]; exact h'.2
theorem Hd.text {n g : Nat} {Lq : Act → Prop} (hsel : Region.noSelect ops = true) (k0 : Nat) (hw : Waits md ops k0 n) (l : List Oper) :
    ∀ k up a, k0 ≤ k → (∀ j, j < l.length → l[j]? = ops[k + j]?) → k + l.length = n → HeadInv md ops n up → Region.lexHead md ops g l.length k up = true → wpQuiet P ops C Lq l a →
      Hd P md ops C n (fun up' a' => Region.seqB md ops g n up' = true ∧ Lq a') l.length up a := by
  induction l with
  | nil =>
    intro k up a _ _ hk _ hB h
    obtain rfl : k = n := by simpa using hk
    exact ⟨by simpa [Region.lexHead] using hB, h⟩
  | cons o l ih =>
    intro k up a hk0 hl hk inv hB h
    have h0 : ops[k]? = some o := by simpa using (hl 0 (by simp)).symm
    simp only [List.length_cons, Region.lexHead, Bool.and_eq_true] at hB
    obtain ⟨⟨hr0, hf⟩, hB'⟩ := hB
    have hr : k ∈ Region.ready md ops up := by simpa using hr0
    simp only [List.length_cons] at hk
    have hq : qOp P ops C k (wpQuiet P ops C Lq l) a := by unfold qOp; rw [h0]; exact h
    obtain ⟨v, hy, hK⟩ := yieldsIn_of_qOp h0 hq
    refine Hd.first h0 hsel k0 hw hk0 (by omega) (fun up' a' hh => seqB_ready hh.1) l.length up a inv (Region.free_spec h0 hf) hr hy ?_
    refine ih (k + 1) _ _ (by omega) (fun j hj => ?_) (by omega) (inv.set hr (by omega)) hB' hK
    have := hl (j + 1) (by simp; omega)
    rw [show k + 1 + j = k + (j + 1) by omega, ← this]
    simp
theorem wp_region_quiet_tail {id : Nat} {Q : Exit → Act → World → Prop} {a : Act} {w : World} {l : List Oper} (C : World → Prop) (n : Nat) (hm : P.follows .mixedOrders = true) (hB : Region.lexTailB .any l.toArray n = true) (hC : C { w with drawn := w.drawn + 1 })
    (h : wpQuiet P l.toArray C (fun a' => ∀ w', C w' → wpList P l.toArray Q (l.drop n) a' w') (l.take n) a) : (Code.region id l.toArray true).wp P Q a w := by
  simp only [Region.lexTailB, Bool.and_eq_true, decide_eq_true_eq] at hB
  obtain ⟨⟨⟨⟨hsel, hn⟩, hs⟩, hc⟩, hlex⟩ := hB
  have hnl : n < l.length := by simpa using hn
  have htl : (l.take n).length = n := by simp; omega
  have hdl : (l.drop n).length = l.toArray.size - n := by simp
  have inv0 : HeadInv .any l.toArray n (Array.replicate l.toArray.size false) :=
    ⟨by simp, fun j oj _ hl => (by rw [getD_replicate_false] at hl; cases hl), fun t _ ht => getD_in (by simpa using ht) (getD_replicate_false _ _)⟩
  have H := Hd.text (C := C) (md := .any) (g := l.toArray.size - n) hsel 0 (fun up inv i _ hin hun t ht => tail_waits hs hc hn inv _ i rfl hin hun t ht) (l.take n) 0 (Array.replicate l.toArray.size false) a (Nat.le_refl _)
    (fun j hj => by rw [htl] at hj; simp [hj]) (by rw [htl]; omega) inv0 (by rw [htl]; exact hlex) h
  have HW := Hd.wp (Q := Q) (g := l.toArray.size - n) (fun up a' w' hw' hh => by
    have := wpAny_of_seq (P := P) (md := .any) (Q' := Q) (l.drop n) n up a' w' (fun j => by simp [List.getElem?_drop]) (by rw [hdl]; exact hh.1) (hh.2 w' hw')
    rwa [hdl] at this) _ _ a _ hC H
  refine wp_region_any hm ?_
  rw [htl, show n + (l.toArray.size - n) = l.toArray.size by omega] at HW
  exact HW
/-- The same, at the class 'w after some draws'. -/
theorem wp_region_draws_tail {id : Nat} {Q : Exit → Act → World → Prop} {a : Act} {w : World} {l : List Oper} (n : Nat) (hm : P.follows .mixedOrders = true) (hB : Region.lexTailB .any l.toArray n = true)
    (h : wpQuiet P l.toArray (fun w' => ∃ m, w' = w.drewN m) (fun a' => ∀ w', (∃ m, w' = w.drewN m) → wpList P l.toArray Q (l.drop n) a' w') (l.take n) a) : (Code.region id l.toArray true).wp P Q a w :=
  wp_region_quiet_tail (fun w' => ∃ m, w' = w.drewN m) n hm hB ⟨1, rfl⟩ h
/-- Each of k0 .. n - 1 is waited for by a later one up to n, each behind n by the next. -/
def lateB (md : Region.Mode) (ops : Array Oper) (k0 n : Nat) : Bool :=
  ((List.range n).all fun i => decide (i < k0) || (List.range (n + 1)).any fun j => decide (i < j) && Region.waitsFor md ops j i) && Region.chainB md ops n
theorem late_waits {k0 n : Nat} (hB : lateB md ops k0 n = true) : Waits md ops k0 n := by
  simp only [lateB, Bool.and_eq_true] at hB
  obtain ⟨hs, hc⟩ := hB
  intro up inv
  have unl : ∀ {x : Nat}, x < ops.size → up.getD x false ≠ true → up.getD x true = false := fun {x} hx h => getD_in (by rw [inv.size]; exact hx) (by simpa using h)
  have key : ∀ d i, n - i = d → k0 ≤ i → i < n → up.getD i true = false → n ∉ Region.ready md ops up := by
    intro d
    induction d using Nat.strongRecOn with
    | _ d ih =>
      intro i hd hk hi hu hr
      obtain ⟨_, o, ho, hall⟩ := mem_ready.1 hr
      have h1 := List.all_eq_true.1 hs i (List.mem_range.2 hi)
      have h2 : ¬ i < k0 := by omega
      simp only [h2, decide_false, Bool.false_or, List.any_eq_true, Bool.and_eq_true, decide_eq_true_eq] at h1
      obtain ⟨j, hjm, hij, hwj⟩ := h1
      have hjn : j ≤ n := by have := List.mem_range.1 hjm; omega
      obtain ⟨oj, hoj, e, he, hbd, hon⟩ := Region.waitsFor_spec hwj
      by_cases hl : up.getD j false = true
      · have h3 := inv.closed j oj hoj hl e he hbd
        rw [hon, getD_both hu] at h3; cases h3
      · by_cases hjn' : j = n
        · subst hjn'
          obtain rfl : oj = o := Option.some.inj (hoj.symm.trans ho)
          have h3 := hall e he hbd
          rw [hon, getD_both hu] at h3; cases h3
        · exact ih (n - j) (by omega) j rfl (by omega) (by omega) (unl (Array.getElem?_eq_some_iff.1 hoj).1 hl) hr
  intro i hk hi hu t ht hr
  by_cases htn : t = n
  · subst htn; exact key _ i rfl hk hi hu hr
  · obtain ⟨_, o, ho, hall⟩ := mem_ready.1 hr
    have htl := (Array.getElem?_eq_some_iff.1 ho).1
    have h1 := List.all_eq_true.1 hc t (List.mem_range.2 htl)
    have h2 : ¬ t ≤ n := by omega
    simp only [h2, decide_false, Bool.false_or] at h1
    obtain ⟨o', ho', e, he, hbd, hon⟩ := Region.waitsFor_spec h1
    obtain rfl : o' = o := Option.some.inj (ho'.symm.trans ho)
    have h3 := hall e he hbd
    rw [hon, getD_both (inv.tail (t - 1) (by omega) (by omega))] at h3; cases h3
/-- A first operation that yields the same in every world is taken first; then as above. -/
def leadB (ops : Array Oper) (n : Nat) : Bool :=
  Region.noSelect ops && decide (0 < n) && decide (n < ops.size) && lateB .any ops 1 n && (Region.ready .any ops (Array.replicate ops.size false)).contains 0 && Region.free .any ops (Array.replicate ops.size false) 0 && Region.lexHead .any ops (ops.size - n) (n - 1) 1 ((Array.replicate ops.size false).setIfInBounds 0 true)
theorem wp_region_lead_tail {id : Nat} {Q : Exit → Act → World → Prop} {a : Act} {w : World} {o0 : Oper} {l : List Oper} (C : World → Prop) (n : Nat) (v0 : Value) (hm : P.follows .mixedOrders = true) (hB : leadB (o0 :: l).toArray (n + 1) = true)
    (hQ : ∀ c a w, Q (.panic c) (a.put o0.dst v0) w → Q (.panic c) a w) (hy : Yields P (o0 :: l).toArray o0 v0 a) (hC : C { w with drawn := w.drawn + 1 })
    (h : wpQuiet P (o0 :: l).toArray C (fun a' => ∀ w', C w' → wpList P (o0 :: l).toArray Q (l.drop n) a' w') (l.take n) (a.put o0.dst v0)) : (Code.region id (o0 :: l).toArray true).wp P Q a w := by
  simp only [leadB, Bool.and_eq_true, decide_eq_true_eq] at hB
  obtain ⟨⟨⟨⟨⟨⟨hsel, _⟩, hn⟩, hlate⟩, hr⟩, hf⟩, hlex⟩ := hB
  have hsz : (o0 :: l).toArray.size = l.length + 1 := by simp
  have hnl : n < l.length := by rw [hsz] at hn; omega
  have htl : (l.take n).length = n := by rw [List.length_take]; omega
  have hdl : (l.drop n).length = (o0 :: l).toArray.size - (n + 1) := by rw [List.length_drop, hsz]; omega
  have inv0 : HeadInv .any (o0 :: l).toArray (n + 1) (Array.replicate (o0 :: l).toArray.size false) :=
    ⟨by simp, fun j oj _ hl => (by rw [getD_replicate_false] at hl; cases hl), fun t _ ht => getD_in (by simpa using ht) (getD_replicate_false _ _)⟩
  have hr0 : 0 ∈ Region.ready .any (o0 :: l).toArray (Array.replicate (o0 :: l).toArray.size false) := by simpa using hr
  have inv1 := inv0.set hr0 (by omega)
  have H := Hd.text (C := C) (md := .any) (g := (o0 :: l).toArray.size - (n + 1)) hsel 1 (late_waits hlate) (l.take n) 1 _ (a.put o0.dst v0) (Nat.le_refl _)
    (fun j hj => by rw [htl] at hj; rw [List.getElem?_take, if_pos hj, show 1 + j = j + 1 by omega]; simp) (by rw [htl]; omega) inv1 (by rw [htl]; exact hlex) h
  have HW := Hd.wp (Q := Q) (g := (o0 :: l).toArray.size - (n + 1)) (fun up a' w' hw' hh => by
    have := wpAny_of_seq (P := P) (md := .any) (Q' := Q) (l.drop n) (n + 1) up a' w' (fun j => by rw [List.getElem?_drop, show n + 1 + j = (n + j) + 1 by omega]; simp) (by rw [hdl]; exact hh.1) (hh.2 w' hw')
    rwa [hdl] at this) _ _ (a.put o0.dst v0) _ hC H
  refine wp_region_any hm ?_
  have e : (o0 :: l).toArray.size = ((l.take n).length + ((o0 :: l).toArray.size - (n + 1))) + 1 := by rw [htl, hsz]; omega
  have T := wpAny_take (P := P) (md := .any) (i := 0) (oi := o0) (v := v0) (fuel := (l.take n).length + ((o0 :: l).toArray.size - (n + 1))) (by simp) hsel hf hr hQ hy HW
  rw [← e] at T
  exact T
/-- The same, at the class 'w after some draws'. -/
theorem wp_region_lead_draws {id : Nat} {Q : Exit → Act → World → Prop} {a : Act} {w : World} {o0 : Oper} {l : List Oper} (n : Nat) (v0 : Value) (hm : P.follows .mixedOrders = true) (hB : leadB (o0 :: l).toArray (n + 1) = true)
    (hQ : ∀ c a w, Q (.panic c) (a.put o0.dst v0) w → Q (.panic c) a w) (hy : Yields P (o0 :: l).toArray o0 v0 a)
    (h : wpQuiet P (o0 :: l).toArray (fun w' => ∃ m, w' = w.drewN m) (fun a' => ∀ w', (∃ m, w' = w.drewN m) → wpList P (o0 :: l).toArray Q (l.drop n) a' w') (l.take n) (a.put o0.dst v0)) : (Code.region id (o0 :: l).toArray true).wp P Q a w :=
  wp_region_lead_tail (fun w' => ∃ m, w' = w.drewN m) n v0 hm hB hQ hy ⟨1, rfl⟩ h
end
end Go.Proofs.YthdgeepedofleaaGreatDoor
namespace Go.Proofs.YthdgeepedofleaaGreatDoor
set_option linter.unusedVariables false
set_option linter.unusedSimpArgs false
open Go.RowKit
structure Gr (W : World) where
  w : World
  h : Below W.heap.size W w
def grw (W : World) (V : Gr W) : World := V.w
theorem grw_below (W : World) (V : Gr W) : Below W.heap.size W (grw W V) := V.h
theorem grw_cell {W : World} {b : Nat} (o : Nat) (h : b < W.heap.size) (V : Gr W) : (grw W V).cell? ⟨b, o, none⟩ = W.cell? ⟨b, o, none⟩ := (grw_below W V).cell (p := ⟨b, o, none⟩) h
theorem grw_some {W : World} {b o : Nat} {v : Value} (h : W.cell? ⟨b, o, none⟩ = some v) (V : Gr W) : (grw W V).cell? ⟨b, o, none⟩ = some v := by
  rw [grw_cell o (World.block_lt_of_cell? _ _ h) V]; exact h
theorem grow_drawn (w : World) : ∃ V : Gr w, { w with drawn := w.drawn + 1 } = grw w V := ⟨⟨w.drew, (Below.refl _ w).drew⟩, rfl⟩
theorem wp_region_grow {P : Program} {id : Nat} {Q : Exit → Act → World → Prop} {a : Act} {w : World} {l : List Oper} (hm : P.follows .mixedOrders = true) (hB : Region.lexB .any l.toArray = true)
    (h : Nonempty (Gr w) → wpQuiet P l.toArray (fun w' => ∃ V, w' = grw w V) (fun a' => ∀ w', (∃ V, w' = grw w V) → Q .normal a' w') l a) : (Code.region id l.toArray true).wp P Q a w :=
  wp_region_quiet (C := fun w' => ∃ V, w' = grw w V) hm hB (grow_drawn w) (by simpa using h ⟨⟨w, Below.refl _ _⟩⟩)
theorem wp_region_grow_tail {P : Program} {id : Nat} {Q : Exit → Act → World → Prop} {a : Act} {w : World} {l : List Oper} (n : Nat) (hm : P.follows .mixedOrders = true) (hB : Region.lexTailB .any l.toArray n = true)
    (h : Nonempty (Gr w) → wpQuiet P l.toArray (fun w' => ∃ V, w' = grw w V) (fun a' => ∀ w', (∃ V, w' = grw w V) → wpList P l.toArray Q (l.drop n) a' w') (l.take n) a) : (Code.region id l.toArray true).wp P Q a w :=
  wp_region_quiet_tail (fun w' => ∃ V, w' = grw w V) n hm hB (grow_drawn w) (h ⟨⟨w, Below.refl _ _⟩⟩)
theorem grow_call {P : Program} {f : FuncId} {args : Array Value} {W : World} {V : Gr W} {v : Value}
    (h : Calls P f args (grw W V) fun e w' => e = .returned v ∧ Below (grw W V).heap.size (grw W V) w') : Calls P f args (grw W V) fun e w'' => e = .returned v ∧ ∃ V', w'' = grw W V' :=
  h.mono fun _ w'' ⟨he, hb⟩ => ⟨he, ⟨w'', below_then (grw_below W V) hb⟩, rfl⟩
theorem grow_same {P : Program} {f : FuncId} {args : Array Value} {W : World} {V : Gr W} {v : Value}
    (h : Calls P f args (grw W V) fun e w' => e = .returned v ∧ w' = grw W V) : Calls P f args (grw W V) fun e w'' => e = .returned v ∧ ∃ V', w'' = grw W V' :=
  h.mono fun _ w'' ⟨he, hb⟩ => ⟨he, V, hb⟩
theorem grow_drew {P : Program} {f : FuncId} {args : Array Value} {W : World} {V : Gr W} {v : Value}
    (h : Calls P f args (grw W V) fun e w' => e = .returned v ∧ ∃ m, w' = (grw W V).drewN m) : Calls P f args (grw W V) fun e w'' => e = .returned v ∧ ∃ V', w'' = grw W V' :=
  h.mono fun _ w'' ⟨he, m, hb⟩ => ⟨he, ⟨w'', by rw [hb]; exact (grw_below W V).trans ⟨rfl, rfl, rfl, Nat.le_refl _, fun _ _ => rfl⟩⟩, rfl⟩
end Go.Proofs.YthdgeepedofleaaGreatDoor
namespace Go.Proofs.YthdgeepedofleaaGreatDoor
set_option linter.unusedVariables false
set_option linter.unusedSimpArgs false
open Go.RowKit
/-- The digits of k ahead of what is there. -/
def mtF : Nat → Nat → List UInt8 → List UInt8
  | 0, _, out => out
  | f + 1, k, out => if k = 0 then out else mtF f (k / 10) (UInt8.ofNat (48 + k % 10) :: out)
theorem mtF_zero (f : Nat) (out : List UInt8) : mtF f 0 out = out := by cases f <;> rfl
theorem mtF_pos {f k : Nat} (h : 0 < k) (out : List UInt8) : mtF (f + 1) k out = mtF f (k / 10) (UInt8.ofNat (48 + k % 10) :: out) := by rw [mtF, if_neg (by omega)]
def mtB (k : Nat) : ByteArray := ⟨(109 :: mtF 8 k []).toArray⟩
theorem convM {P : Program} (src e dst : TypeId) (hs : P.underlying src = some (.slice e)) (he : P.underlying e = some (.int .u8)) (hd : P.underlying dst = some .string) (w : World) (b cap : Nat) (x : Int) (hc : w.cell? ⟨b, 0, none⟩ = some (.int .u8 x)) :
    (convert src dst (.slice (some ⟨b, 0, none⟩) 1 cap)).run P w = .ok (.string ⟨#[UInt8.ofNat x.toNat]⟩) w :=
  run_convert_bytes_arg (P := P) w src e hs he b 0 1 cap [x] rfl (fun i hi => by obtain rfl : i = 0 := by omega
                                                                                 exact hc) dst hd
theorem mt_eq (r : Nat) (l : List UInt8) : Value.string (⟨#[48 + UInt8.ofNat r]⟩ ++ ⟨l.toArray⟩) = .string ⟨(UInt8.ofNat (48 + r) :: l).toArray⟩ := by
  have h : (ByteArray.mk #[48 + UInt8.ofNat r] ++ ByteArray.mk l.toArray) = ⟨(UInt8.ofNat (48 + r) :: l).toArray⟩ := by
    apply bytes_ext
    rw [Go.Joins.data_append]; simp
  rw [h]
set_option maxHeartbeats 1000000 in
theorem markText_any (k : Nat) (w : World) (h1 : 0 < k) (h2 : k ≤ 4194304) :
    Calls Tryz.prog 78 #[.int .i64 (k : Int)] w fun e w' => e = .returned (.string (mtB k)) ∧ Below w.heap.size w w' := by
  have kb := fun (w : World) (b cap : Nat) (x : Int) => convM (P := Tryz.prog) 22 5 9 Tryz.underlying22 Tryz.underlying5 Tryz.underlying9 w b cap x
  have hn0 : ¬ (k : Int) ≤ 0 := by omega
  go_enter Tryz.func78, Tryz.ntmps78
  go_wp2
  go_loopw [0, 3] (fun kk o wr => ∃ (f j : Nat) (l : List UInt8), kk = .int .i64 (j : Int) ∧ o = .string ⟨l.toArray⟩ ∧ mtF 8 k [] = mtF f j l ∧ j < 10 ^ f ∧ l.length + f ≤ 8 ∧ j ≤ 4194304 ∧ Below w.heap.size w wr) (fun kk _ _ => (intOf kk).toNat)
  case atStart => exact ⟨8, k, [], rfl, rfl, rfl, by omega, by simp, h2, Below.refl _ _⟩
  case round =>
    obtain ⟨f, j, l, rfl, rfl, hj, hjf, hl, hjm, hbw⟩ := hrel
    have HJ : Hid (mtF 8 k [] = mtF f j l) := hj
    have hsl : (ByteArray.mk l.toArray).size ≤ 8 := by show l.toArray.size ≤ _; simp; omega
    clear hj
    by_cases h0 : 0 < j
    · have hp : (0 : Int) < (j : Int) := by omega
      obtain ⟨f, rfl⟩ : ∃ f', f = f' + 1 := by
        cases f with
        | zero => simp at hjf; omega
        | succ f => exact ⟨f, rfl⟩
      obtain ⟨q, r, hqr, hr⟩ : ∃ q r : Nat, j = 10 * q + r ∧ r < 10 := ⟨j / 10, j % 10, by omega, by omega⟩
      have HS : Hid (mtF 8 k [] = mtF f q (UInt8.ofNat (48 + r) :: l)) := by
        show _ = _
        rw [HJ.out, mtF_pos h0, show j / 10 = q from by omega, show j % 10 = r from by omega]
      have hqf : q < 10 ^ f := by rw [Nat.pow_succ] at hjf; omega
      have HQF := hideB2 hqf
      have HLF := hideB2 hl
      have e1 : IntKind.i64.wrap ((j : Int) / 10) = (q : Int) := by rw [IntKind.wrap_i64]; omega
      have e2 : ((j : Int)).tmod 10 = (r : Int) := by rw [Int.tmod_eq_emod_of_nonneg (by omega)]; omega
      have e3 : IntKind.i64.wrap (48 + (r : Int)) = 48 + (r : Int) := by rw [IntKind.wrap_i64]; omega
      have e4 : IntKind.u8.wrap (48 + (r : Int)) = 48 + (r : Int) := by rw [IntKind.wrap_u8]; omega
      have HQ : Hid (j = 10 * q + r) := hqr
      have hl9 : l.length ≤ 8 := by omega
      clear hqr hqf hl hjf
      go_wp2
      go_round
      case rel => exact ⟨f, q, UInt8.ofNat (48 + r) :: l, by go_num, mt_eq r l, HS.out, HQF.out, by have := HLF.out; simp; omega, by have := HQ.out; omega, hbw.alloc hbw.size _⟩
      case measure => have := HQ.out; simp [intOf] <;> omega
    · have hp : ¬ (0 : Int) < (j : Int) := by omega
      have HE : Hid (mtB k = ⟨#[109]⟩ ++ ⟨l.toArray⟩) := by
        show _ = _
        obtain rfl : j = 0 := by omega
        unfold mtB; rw [HJ.out, mtF_zero]
        apply bytes_ext
        rw [Go.Joins.data_append]; simp
      go_wp2
      go_ret
      exact ⟨ret_str HE.out, hbw⟩
theorem grown_then {w w1 w2 : World} {r : Option Nat} (h : w.grownBy w1 r) (hb : Below w1.heap.size w1 w2) : w.grownBy w2 r :=
  ⟨hb.os.trans h.os, hb.tape.trans h.tape, hb.output.trans h.output, Nat.le_trans h.size hb.size, fun k hk hn => by rw [hb.block k (Nat.lt_of_lt_of_le hk h.size)]; exact h.block k hk hn⟩
theorem grown_set {w w1 : World} {g : Nat} (h : w.grownBy w1 (some g)) (o : Nat) (u : Value) : w.grownBy (w1.setCell ⟨g, o, none⟩ u) (some g) :=
  World.grownBy.trans h ⟨rfl, rfl, rfl, by simp [World.setCell], fun k _ hne => Below.heap_setCell _ _ _ _ (fun e => hne (by simp at e; rw [e]))⟩
theorem grown_refl (w : World) (r : Option Nat) : w.grownBy w r := ⟨rfl, rfl, rfl, Nat.le_refl _, fun _ _ _ => rfl⟩
theorem Blk.gb {w w' : World} {b : Nat} {c : Array Value} {t : TypeId} {r : Option Nat} (h : Blk w b c t) (k : w.grownBy w' r) (hne : r ≠ some b) : Blk w' b c t := by
  unfold Blk at *
  rw [k.block b (Array.getElem?_eq_some_iff.1 h).1 (fun e => hne e.symm)]
  exact h
theorem grown_below {w w1 w2 : World} {B : Nat} {r : Option Nat} (h : Below B w w1) (k : w1.grownBy w2 r) (hr : ∀ g, r = some g → B ≤ g) (hB : B ≤ w1.heap.size) : Below B w w2 :=
  h.trans ⟨k.os, k.tape, k.output, k.size, fun b hb => k.block b (by omega) (fun e => by have := hr b e.symm; omega)⟩
end Go.Proofs.YthdgeepedofleaaGreatDoor
namespace Go.Proofs.YthdgeepedofleaaGreatDoor
set_option linter.unusedVariables false
set_option linter.unusedSimpArgs false
open Go.RowKit
def marks (n : Nat) : List ByteArray := (List.range n).map fun j => mtB (j + 1)
theorem marks_len (n : Nat) : (marks n).length = n := by simp [marks]
theorem marks_at {n j : Nat} (h : j < n) : (marks n).getD j ⟨#[]⟩ = mtB (j + 1) := by simp [marks, List.getD, h]
theorem bcellM {W w1 : World} (hb : Below W.heap.size W w1) : (∀ b o, b < W.heap.size → w1.cell? ⟨b, o, none⟩ = W.cell? ⟨b, o, none⟩) ∧ (∀ b o, b < W.heap.size → w1.frozen? ⟨b, o, none⟩ = W.frozen? ⟨b, o, none⟩) :=
  ⟨fun b o h => hb.cell (p := ⟨b, o, none⟩) h, fun b o h => hb.frozen (p := ⟨b, o, none⟩) h⟩
theorem BufS.spot {w0 w : World} {g n cap : Nat} {l : List ByteArray} (h : BufS w0 w (.slice (some ⟨g, 0, none⟩) n cap) l) {j : Nat} (hj : j < l.length) : w.cell? ⟨g, j, none⟩ = some (.string (l.getD j ⟨#[]⟩)) ∧ w.frozen? ⟨g, j, none⟩ = false ∧ w0.heap.size ≤ g := by
  obtain ⟨g', cap', he, hg, _, hc⟩ := h.cells (by omega)
  injection he with e1 e2 e3
  injection e1 with e1
  injection e1 with e1
  subst e1; subst e2
  exact ⟨hc j hj, h.own.frozenAt j, hg⟩
theorem BufS.stored {w0 w : World} {g cap : Nat} {l : List ByteArray} (h : BufS w0 w (.slice (some ⟨g, 0, none⟩) l.length cap) l) {j : Nat} (hg : w0.heap.size ≤ g) (y : ByteArray) : BufS w0 (w.setCell ⟨g, j, none⟩ (.string y)) (.slice (some ⟨g, 0, none⟩) l.length cap) (l.set j y) := by
  refine ⟨h.below.setCell (p := ⟨g, j, none⟩) hg _, ?_⟩
  rw [List.length_set, List.map_set]
  exact (h.own.stored j (.string y)).1
theorem marks_set (l : List ByteArray) (j : Nat) (hj : j < l.length) : (marks j ++ l.drop j).set j (mtB (j + 1)) = marks (j + 1) ++ l.drop (j + 1) := by
  rw [List.set_append_right _ _ (by rw [marks_len]; exact Nat.le_refl _), marks_len, Nat.sub_self, List.drop_eq_getElem_cons hj, List.set_cons_zero]
  simp [marks, List.range_succ]
theorem marks_part (l : List ByteArray) (j : Nat) (hj : j ≤ l.length) : (marks j ++ l.drop j).length = l.length := by
  rw [List.length_append, marks_len, List.length_drop]; omega
end Go.Proofs.YthdgeepedofleaaGreatDoor
namespace Go.Proofs.YthdgeepedofleaaGreatDoor
set_option linter.unusedVariables false
set_option linter.unusedSimpArgs false
open Go.RowKit
def txAt (l : List ByteArray) (j : Nat) : ByteArray := l.getD j ⟨#[]⟩
theorem txAt_get {l : List ByteArray} {j : Nat} (h : j < l.length) : txAt l j = l[j] := by
  unfold txAt; rw [List.getD, List.getElem?_eq_getElem h]; rfl
/-- A row of texts in block b. -/
structure RowT (w : World) (b : Nat) (l : List ByteArray) : Prop where
  cell : ∀ j, j < l.length → w.cell? ⟨b, j, none⟩ = some (.string (txAt l j))
  free : ∀ j, w.frozen? ⟨b, j, none⟩ = false
  lt : b < w.heap.size
theorem RowT.keep {w w' : World} {b : Nat} {l : List ByteArray} (h : RowT w b l) (k : Below w.heap.size w w') : RowT w' b l :=
  ⟨fun j hj => by rw [k.cell (p := ⟨b, j, none⟩) h.lt]; exact h.cell j hj, fun j => by rw [k.frozen (p := ⟨b, j, none⟩) h.lt]; exact h.free j, Nat.lt_of_lt_of_le h.lt k.size⟩
theorem RowT.set {w : World} {b : Nat} {l : List ByteArray} (h : RowT w b l) (k : Nat) (d : ByteArray) (hk : k < l.length) : RowT (w.setCell ⟨b, k, none⟩ (.string d)) b (l.set k d) := by
  refine ⟨fun j hj => ?_, fun j => ?_, by simpa [World.setCell] using h.lt⟩
  · rw [List.length_set] at hj
    rw [txAt_get (by rw [List.length_set]; exact hj), List.getElem_set]
    by_cases e : k = j
    · subst e
      rw [World.cell?_setCell_same _ _ _ (h.cell k hj), if_pos rfl]
    · rw [World.cell?_setCell_other _ _ _ _ (by intro hh; injection hh with _ h2; exact e h2), h.cell j hj, if_neg e, txAt_get hj]
  · rw [World.frozen?_setCell]
    exact h.free j
theorem RowT.gb {w w' : World} {b : Nat} {l : List ByteArray} {r : Option Nat} (h : RowT w b l) (k : w.grownBy w' r) (hne : r ≠ some b) : RowT w' b l := by
  have hb : w'.heap[b]? = w.heap[b]? := k.block b h.lt (fun e => hne e.symm)
  refine ⟨fun j hj => (World.cell?_of_block (w := w) hb).trans (h.cell j hj), fun j => ?_, Nat.lt_of_lt_of_le h.lt k.size⟩
  have hf := h.free j
  unfold World.frozen? at *
  rw [hb]; exact hf
/-- A slice of texts: nil, or a row. -/
def SlT (w : World) (v : Value) (l : List ByteArray) : Prop := (v = .slice none 0 0 ∧ l = []) ∨ ∃ b cap, v = .slice (some ⟨b, 0, none⟩) l.length cap ∧ RowT w b l
theorem SlT.later {w w' : World} {v : Value} {l : List ByteArray} (h : SlT w v l) (k : Below w.heap.size w w') : SlT w' v l := by
  rcases h with h | ⟨b, cap, e, hr⟩
  · exact .inl h
  · exact .inr ⟨b, cap, e, hr.keep k⟩
theorem SlT.form {w : World} {v : Value} {l : List ByteArray} (h : SlT w v l) : ∃ a c, v = .slice a l.length c := by
  rcases h with ⟨rfl, rfl⟩ | ⟨b, cap, rfl, _⟩
  · exact ⟨none, 0, rfl⟩
  · exact ⟨_, _, rfl⟩
theorem SlT.row {w : World} {a : Option Addr} {n c : Nat} {l : List ByteArray} (h : SlT w (.slice a n c) l) (hl : 0 < l.length) : ∃ b, a = some ⟨b, 0, none⟩ ∧ RowT w b l := by
  rcases h with ⟨_, rfl⟩ | ⟨b, cap, e, hr⟩
  · simp at hl
  · injection e with e1; exact ⟨b, e1, hr⟩
theorem SlT.rows {w : World} {a : Option Addr} {n c : Nat} {l : List ByteArray} (h : SlT w (.slice a n c) l) : RowS w a l := by
  rcases Nat.eq_zero_or_pos l.length with h0 | h0
  · exact .inl (List.eq_nil_of_length_eq_zero h0)
  · obtain ⟨b, rfl, hr⟩ := h.row h0
    exact .inr ⟨b, rfl, hr.cell⟩
theorem SlT.gb {w w' : World} {s : Value} {l : List ByteArray} {r : Option Nat} (h : SlT w s l) (k : w.grownBy w' r) (hne : ∀ g, s.ownBlock = some g → r ≠ some g) : SlT w' s l := by
  rcases h with h | ⟨b, cap, rfl, hr⟩
  · exact .inl h
  · exact .inr ⟨b, cap, rfl, hr.gb k (hne b rfl)⟩
theorem SlT.own_lt {w : World} {s : Value} {l : List ByteArray} (h : SlT w s l) {g : Nat} (hg : s.ownBlock = some g) : g < w.heap.size := by
  rcases h with ⟨rfl, _⟩ | ⟨b, cap, rfl, hr⟩
  · cases hg
  · injection hg with hg; subst hg; exact hr.lt
/-- What is handed back: a slice of texts, its memory new. -/
def AnsT (w0 w' : World) (s : Value) (L : List ByteArray) : Prop := SlT w' s L ∧ (∀ g, s.ownBlock = some g → w0.heap.size ≤ g) ∧ Below w0.heap.size w0 w'
theorem BufS.ans {w0 w : World} {v : Value} {l : List ByteArray} (h : BufS w0 w v l) : AnsT w0 w v l := by
  rcases h.own.2 with ⟨h1, h2⟩ | ⟨g, cap, cur, h1, hg, hh, _⟩
  · refine ⟨.inl ⟨h1, List.eq_nil_of_length_eq_zero h2⟩, fun g hg => ?_, h.below⟩
    rw [h1] at hg; cases hg
  · have hlt := (h.own.lt g (by rw [h1]; rfl)).2
    refine ⟨.inr ⟨g, cap, h1, ⟨fun j hj => ?_, fun j => ?_, hlt⟩⟩, fun g' hg' => ?_, h.below⟩
    · have := h.own.cells (g := g) (by rw [h1]; rfl) j (.string l[j]) (by simp [List.getElem?_eq_getElem hj])
      rw [Addr.add_lit, Nat.zero_add] at this
      rw [this, txAt_get hj]
    · have ho := h.own
      rw [h1] at ho
      exact ho.frozenAt j
    · rw [h1] at hg'
      injection hg' with hg'
      subst hg'; exact hg
/-- Its memory is none of an elder world's. -/
theorem BufS.base {w0 w1 w : World} {v : Value} {l : List ByteArray} (h : BufS w0 w v l) (hb : Below w1.heap.size w1 w0) : BufS w1 w v l := by
  refine ⟨hb.trans (h.below.mono hb.size), h.own.1, ?_⟩
  rcases h.own.2 with h2 | ⟨g, cap, cur, h1, hg, r⟩
  · exact .inl h2
  · exact .inr ⟨g, cap, cur, h1, Nat.le_trans hb.size hg, r⟩
theorem eqT_same {w : World} {l : List ByteArray} {va vb : Value} (ha : SlT w va l) (hb : SlT w vb l) (hl : l.length ≤ 1000000) :
    ∃ a b c d, va = .slice a l.length c ∧ vb = .slice b l.length d ∧ RowS w a l ∧ RowS w b l := by
  obtain ⟨a, c, rfl⟩ := ha.form
  obtain ⟨b, d, rfl⟩ := hb.form
  exact ⟨a, b, c, d, rfl, rfl, ha.rows, hb.rows⟩
end Go.Proofs.YthdgeepedofleaaGreatDoor
namespace Go.Proofs
open Go.Shelf
def Tryz.lays156_ren : Go.Shelf.Ren := ⟨fun | 156 => 229 | 165 => 265 | 166 => 266 | 169 => 267 | 240 => 298 | 241 => 299 | 276 => 314 | 277 => 315 | n => n, fun | 31 => 107 | 9 => 9 | 3 => 3 | 4 => 4 | 0 => 0 | 20 => 20 | 72 => 246 | 76 => 250 | 70 => 244 | 37 => 22 | 75 => 249 | 127 => 267 | 164 => 277 | 5 => 5 | 80 => 113 | n => n, fun | n => n⟩
theorem Tryz.lays156 : Go.Proofs.Lays.n156 Tryz.prog Tryz.lays156_ren := {
  mixed := by kernel_rfl
  f156 := Tryz.func229.trans (congrArg some (by kernel_rfl))
  f165 := Tryz.func265.trans (congrArg some (by kernel_rfl))
  f166 := Tryz.func266.trans (congrArg some (by kernel_rfl))
  f169 := Tryz.func267.trans (congrArg some (by kernel_rfl))
  f240 := Tryz.func298.trans (congrArg some (by kernel_rfl))
  f241 := Tryz.func299.trans (congrArg some (by kernel_rfl))
  f276 := Tryz.func314.trans (congrArg some (by kernel_rfl))
  f277 := Tryz.func315.trans (congrArg some (by kernel_rfl))
  t0 := Tryz.underlying0
  a0 := Tryz.isAgg0
  z0 := Tryz.sizeOf0
  v0 := Tryz.zeroValue0
  t3 := Tryz.underlying3
  a3 := Tryz.isAgg3
  z3 := Tryz.sizeOf3
  v3 := Tryz.zeroValue3
  t4 := Tryz.underlying4
  a4 := Tryz.isAgg4
  z4 := Tryz.sizeOf4
  v4 := Tryz.zeroValue4
  t9 := Tryz.underlying9
  a9 := Tryz.isAgg9
  z9 := Tryz.sizeOf9
  v9 := Tryz.zeroValue9
  t20 := Tryz.underlying20
  a20 := Tryz.isAgg20
  z20 := Tryz.sizeOf20
  v20 := Tryz.zeroValue20
  t31 := Tryz.underlying107
  a31 := Tryz.isAgg107
  z31 := Tryz.sizeOf107
  v31 := Tryz.zeroValue107
  t37 := Tryz.underlying22
  a37 := Tryz.isAgg22
  z37 := Tryz.sizeOf22
  v37 := Tryz.zeroValue22
  t70 := Tryz.underlying244
  a70 := Tryz.isAgg244
  z70 := Tryz.sizeOf244
  v70 := Tryz.zeroValue244
  t72 := Tryz.underlying246
  a72 := Tryz.isAgg246
  z72 := Tryz.sizeOf246
  v72 := Tryz.zeroValue246
  t75 := Tryz.underlying249
  a75 := Tryz.isAgg249
  z75 := Tryz.sizeOf249
  v75 := Tryz.zeroValue249
  t76 := Tryz.underlying250
  a76 := Tryz.isAgg250
  z76 := Tryz.sizeOf250
  v76 := Tryz.zeroValue250
  t127 := Tryz.underlying267
  a127 := Tryz.isAgg267
  z127 := Tryz.sizeOf267
  v127 := Tryz.zeroValue267
  t164 := Tryz.underlying277
  a164 := Tryz.isAgg277
  z164 := Tryz.sizeOf277
  v164 := Tryz.zeroValue277 }
end Go.Proofs
namespace Go.Proofs.YthdgeepedofleaaGreatDoor
set_option linter.unusedVariables false
set_option linter.unusedSimpArgs false
open Go.RowKit

/-- The pieces of a list, cut at commas outside quotes: state 0 outside, 1 inside, 2 behind a backslash inside. -/
def elG : Nat → List UInt8 → List UInt8 → List (List UInt8)
  | _, cur, [] => [cur]
  | 0, cur, b :: r => if b = 44 then cur :: elG 0 [] r else elG (if b = 34 then 1 else 0) (cur ++ [b]) r
  | 1, cur, b :: r => elG (if b = 34 then 0 else if b = 92 then 2 else 1) (cur ++ [b]) r
  | _, cur, b :: r => elG 1 (cur ++ [b]) r
def keepP (p : List UInt8) : List ByteArray := if trimL p = [] then [] else [⟨(trimL p).toArray⟩]
def cleanP (ps : List (List UInt8)) : List ByteArray := ps.flatMap keepP
def elsB (s : ByteArray) : List ByteArray := if s.size ≤ 4000 then cleanP (elG 0 [] s.data.toList) else []

theorem elG_nil (q : Nat) (cur : List UInt8) : elG q cur [] = [cur] := by
  match q with
  | 0 => rfl
  | 1 => rfl
  | n + 2 => rfl
def ERel (L : List UInt8) (q fr k : Nat) (P : List (List UInt8)) : Prop := fr ≤ k ∧ k ≤ L.length ∧ elG 0 [] L = P ++ elG q ((L.take k).drop fr) (L.drop k)
theorem erel_start (L : List UInt8) : ERel L 0 0 0 [] := ⟨Nat.le_refl _, Nat.zero_le _, by simp⟩
theorem dropAt (L : List UInt8) (p : Nat) (h : p < L.length) : L.drop p = L.getD p 0 :: L.drop (p + 1) := by
  rw [List.drop_eq_getElem_cons h]
  simp [List.getD, List.getElem?_eq_getElem h]
theorem takeAt (L : List UInt8) (fr k : Nat) (hf : fr ≤ k) (h : k < L.length) : (L.take (k + 1)).drop fr = (L.take k).drop fr ++ [L.getD k 0] := by
  rw [List.take_succ_eq_append_getElem h, List.drop_append_of_le_length (by simp; omega)]
  simp [List.getD, List.getElem?_eq_getElem h]
theorem erel_end {L : List UInt8} {q fr : Nat} {P : List (List UInt8)} (h : ERel L q fr L.length P) : elG 0 [] L = P ++ [L.drop fr] := by
  rw [h.2.2, List.drop_eq_nil_of_le (Nat.le_refl _), elG_nil, List.take_of_length_le (Nat.le_refl _)]
theorem erel_comma {L : List UInt8} {fr k : Nat} {P : List (List UInt8)} (h : ERel L 0 fr k P) (hk : k < L.length) (hb : L.getD k 0 = 44) : ERel L 0 (k + 1) (k + 1) (P ++ [(L.take k).drop fr]) := by
  refine ⟨Nat.le_refl _, hk, ?_⟩
  rw [h.2.2, dropAt L k hk, elG, if_pos hb]
  have : (L.take (k + 1)).drop (k + 1) = [] := List.drop_eq_nil_of_le (by simp; omega)
  rw [this]; simp
theorem erel_out {L : List UInt8} {fr k : Nat} {P : List (List UInt8)} (h : ERel L 0 fr k P) (hk : k < L.length) (hb : L.getD k 0 ≠ 44) : ERel L (if L.getD k 0 = 34 then 1 else 0) fr (k + 1) P := by
  refine ⟨by have := h.1; omega, hk, ?_⟩
  rw [h.2.2, dropAt L k hk, elG, if_neg hb, takeAt L fr k h.1 hk]
theorem erel_in {L : List UInt8} {fr k : Nat} {P : List (List UInt8)} (h : ERel L 1 fr k P) (hk : k < L.length) : ERel L (if L.getD k 0 = 34 then 0 else if L.getD k 0 = 92 then 2 else 1) fr (k + 1) P := by
  refine ⟨by have := h.1; omega, hk, ?_⟩
  rw [h.2.2, dropAt L k hk, elG, takeAt L fr k h.1 hk]
theorem erel_behind {L : List UInt8} {fr k : Nat} {P : List (List UInt8)} (h : ERel L 2 fr k P) (hk : k < L.length) : ERel L 1 fr (k + 1) P := by
  refine ⟨by have := h.1; omega, hk, ?_⟩
  rw [h.2.2, dropAt L k hk, elG, takeAt L fr k h.1 hk]
  · intro hh; cases hh
  · intro hh; cases hh
theorem erel_behind_end {L : List UInt8} {fr : Nat} {P : List (List UInt8)} (h : ERel L 2 fr L.length P) : ERel L 1 fr L.length P := by
  refine ⟨h.1, h.2.1, ?_⟩
  rw [h.2.2, List.drop_eq_nil_of_le (Nat.le_refl _), elG_nil, elG_nil]
theorem cleanP_snoc (P : List (List UInt8)) (p : List UInt8) : cleanP (P ++ [p]) = cleanP P ++ keepP p := by simp [cleanP]
theorem keepP_len (p : List UInt8) : (keepP p).length ≤ 1 := by unfold keepP; split <;> simp
theorem els_big {s : ByteArray} (h : 4000 < s.size) : elsB s = [] := by unfold elsB; rw [if_neg (by omega)]
theorem els_small {s : ByteArray} (h : s.size ≤ 4000) : elsB s = cleanP (elG 0 [] s.data.toList) := by unfold elsB; rw [if_pos h]
/-- How many pieces there can be. -/
theorem cleanP_len (P : List (List UInt8)) : (cleanP P).length ≤ P.length := by
  induction P with
  | nil => simp [cleanP]
  | cons p P ih =>
    have e : cleanP (p :: P) = keepP p ++ cleanP P := by simp [cleanP]
    rw [e, List.length_append, List.length_cons]
    have := keepP_len p
    omega

/-! A scope in which the run jumps to one of several labels. -/
/-- As Q; by a goto to label l: J l. -/
def jumpsTo (J : Nat → Act → World → Prop) (Q : Exit → Act → World → Prop) : Exit → Act → World → Prop
  | .goto l, a, w => J l a w
  | e, a, w => Q e a w
theorem wp_labels {P : Program} {a : Act} {w : World} {Q : Exit → Act → World → Prop} {c : Code} (rest : Nat → Code) (J : Nat → Act → World → Prop) (μ : Nat → Act → World → Nat)
    (hf : ∀ l a w, J l a w → findLabel c l = some (rest l)) (first : c.wp P (jumpsTo J Q) a w)
    (pass : ∀ l a w, J l a w → (rest l).wp P (jumpsTo (fun l' a' w' => J l' a' w' ∧ μ l' a' w' < μ l a w) Q) a w) : (Code.scope c).wp P Q a w := by
  intro b k cs
  have key : ∀ n l a w, μ l a w = n → J l a w → ∃ e a' w', Q e a' w' ∧ Arrives P (lone (b.at a (.code (rest l) :: .inScope c :: k)) cs w) b k cs e a' w' := by
    intro n
    induction n using Nat.strongRecOn with
    | _ n ih =>
      intro l a w hn hJ
      obtain ⟨e, a₁, w₁, hq, harr⟩ := pass l a w hJ b (.inScope c :: k) cs
      cases e with
      | normal => exact ⟨.normal, a₁, w₁, hq, Steps.trans harr (.one step_inScope)⟩
      | exit id => exact ⟨.exit id, a₁, w₁, hq, fun k' hk => harr k' (by simp [exitTo, hk])⟩
      | goto l' =>
        obtain ⟨hJ', hlt⟩ := hq
        have hg : gotoIn l' (.inScope c :: k) = some (.code (rest l') :: .inScope c :: k) := by simp [gotoIn, hf l' a₁ w₁ hJ']
        obtain ⟨e₂, a₂, w₂, hq₂, harr₂⟩ := ih _ (by omega) l' a₁ w₁ rfl hJ'
        exact ⟨e₂, a₂, w₂, hq₂, .of_steps (harr _ hg) harr₂⟩
      | ret => exact ⟨_, a₁, w₁, hq, harr⟩
      | panic ch => exact ⟨_, a₁, w₁, hq, harr⟩
      | outgrown => exact ⟨_, a₁, w₁, hq, harr⟩
  obtain ⟨e, a₁, w₁, hq, harr⟩ := first b (.inScope c :: k) cs
  cases e with
  | normal => exact ⟨.normal, a₁, w₁, hq, .head step_scope (Steps.trans harr (.one step_inScope))⟩
  | exit id => exact ⟨.exit id, a₁, w₁, hq, fun k' hk => .head step_scope (harr k' (by simp [exitTo, hk]))⟩
  | goto l' =>
    have hJ' : J l' a₁ w₁ := hq
    have hg : gotoIn l' (.inScope c :: k) = some (.code (rest l') :: .inScope c :: k) := by simp [gotoIn, hf l' a₁ w₁ hJ']
    obtain ⟨e₂, a₂, w₂, hq₂, harr₂⟩ := key _ l' a₁ w₁ rfl hJ'
    exact ⟨e₂, a₂, w₂, hq₂, .of_steps (.head step_scope (harr _ hg)) harr₂⟩
  | ret => exact ⟨_, a₁, w₁, hq, .of_steps (.one step_scope) harr⟩
  | panic ch => exact ⟨_, a₁, w₁, hq, .of_steps (.one step_scope) harr⟩
  | outgrown => exact ⟨_, a₁, w₁, hq, .of_steps (.one step_scope) harr⟩
end Go.Proofs.YthdgeepedofleaaGreatDoor
namespace Go.Proofs.YthdgeepedofleaaGreatDoor
set_option linter.unusedVariables false
set_option linter.unusedSimpArgs false
open Go.RowKit

theorem trimB_list (s : ByteArray) : (trimB s).data.toList = trimL s.data.toList := rfl
theorem keep_none {s : ByteArray} (h : (trimB s).toList.isEmpty = true) : keepP s.data.toList = [] := by
  rw [ByteArray.toList_eq, trimB_list, List.isEmpty_iff] at h
  unfold keepP; rw [if_pos h]
theorem keep_some {s : ByteArray} (h : (trimB s).toList.isEmpty = false) : keepP s.data.toList = [trimB s] := by
  rw [ByteArray.toList_eq, trimB_list, List.isEmpty_eq_false_iff] at h
  unfold keepP; rw [if_neg h]; rfl
set_option maxHeartbeats 1000000 in
theorem withPiece_any (w0 w : World) (v : Value) (l : List ByteArray) (s : ByteArray) (hbuf : BufS w0 w v l) (hl : l.length ≤ 1000000) (hs : s.size ≤ maxLen) :
    Calls Tryz.prog 285 #[v, .string s] w fun e w' => ∃ v', e = .returned v' ∧ BufS w0 w' v' (l ++ keepP s.data.toList) := by
  go_enter Tryz.func285, Tryz.ntmps285
  go_wp2_with fail
  refine (Trim_any s _ hs).mono ?_
  rintro e w1 ⟨rfl, rfl⟩
  cases he : (trimB s).toList.isEmpty
  · have hk : Hid (keepP s.data.toList = [trimB s]) := keep_some he
    generalize trimB s = t at *
    go_wp2_with (at_builtin; refine wp_sapp rfl (.tmp 10) (.tmp 12) rfl _ _ rfl hbuf t rfl (by omega) ?_; intro v2 W2 hbuf2)
    go_ret
    exact ⟨_, rfl, by rw [hk.out]; exact hbuf2⟩
  · have hk : Hid (keepP s.data.toList = []) := keep_none he
    generalize trimB s = t at *
    go_wp2
    go_ret
    exact ⟨_, rfl, by rw [hk.out, List.append_nil]; exact hbuf⟩
end Go.Proofs.YthdgeepedofleaaGreatDoor
namespace Go.Proofs.YthdgeepedofleaaGreatDoor
set_option linter.unusedVariables false
set_option linter.unusedSimpArgs false
open Go.RowKit

theorem u8eq {b c : UInt8} (h : (b.toNat : Int) = (c.toNat : Int)) : b = c := UInt8.toNat_inj.1 (by omega)
theorem u8ne {b c : UInt8} (h : (b.toNat : Int) ≠ (c.toNat : Int)) : b ≠ c := fun e => h (by rw [e])
theorem wp_labels2 {P : Program} {a : Act} {w : World} {Q : Exit → Act → World → Prop} {c : Code} (J : Nat → Act → World → Prop) (μ : Nat → Act → World → Nat)
    (hf : ∀ l a w, J l a w → findLabel c l = some ((findLabel c l).getD .skip)) (first : c.wp P (jumpsTo J Q) a w)
    (pass : ∀ l a w, J l a w → ((findLabel c l).getD .skip).wp P (jumpsTo (fun l' a' w' => J l' a' w' ∧ μ l' a' w' < μ l a w) Q) a w) : (Code.scope c).wp P Q a w :=
  wp_labels (fun l => (findLabel c l).getD .skip) J μ hf first pass
/-- The code behind a label, less the empty step in front. -/
def strip : Code → Code
  | .seq .skip r => r
  | c => c
theorem strip_wp {P : Program} {c : Code} {Q : Exit → Act → World → Prop} {a : Act} {w : World} (h : (strip c).wp P Q a w) : c.wp P Q a w := by
  unfold strip at h
  split at h
  · exact wp_seq (wp_skip h)
  · exact h
theorem wp_labels3 {P : Program} {a : Act} {w : World} {Q : Exit → Act → World → Prop} {c : Code} (J : Nat → Act → World → Prop) (μ : Nat → Act → World → Nat)
    (hf : ∀ l a w, J l a w → findLabel c l = some ((findLabel c l).getD .skip))
    (pass : ∀ l a w, J l a w → (strip ((findLabel c l).getD .skip)).wp P (jumpsTo (fun l' a' w' => J l' a' w' ∧ μ l' a' w' < μ l a w) Q) a w)
    (first : (∀ l a w, J l a w → (strip ((findLabel c l).getD .skip)).wp P (jumpsTo J Q) a w) → c.wp P (jumpsTo J Q) a w) : (Code.scope c).wp P Q a w := by
  refine wp_labels2 J μ hf (first fun l a w h => Code.wp_mono ?_ (pass l a w h)) fun l a w h => strip_wp (pass l a w h)
  intro e a' w' hq
  cases e with
  | goto l' => exact hq.1
  | normal => exact hq
  | exit _ => exact hq
  | ret => exact hq
  | panic _ => exact hq
  | outgrown => exact hq
/-- The frame at each label. -/
def ElF (s : ByteArray) (v : Value) (x y : Int) (a : Act) : Prop := ∃ u6 u7 u8 u9 u10 u11 u12 u13 u14 u15 u16 u17 u18 u19 u20 u21 u22 u23 u24 u25 u26 u27 u28 u29 u30 u31 u32 u33 u34 u35 u36 u37 u38 u39 u40 u41 u42 u43 u44 u45 u46 u47 u48 u49 u50 u51 u52 u53 u54 u55 u56 u57 u58 u59 u60 : Value, a = ⟨#[.string s, undef, .slice none 0 0, v, .int .i64 x, .int .i64 y, u6, u7, u8, u9, u10, u11, u12, u13, u14, u15, u16, u17, u18, u19, u20, u21, u22, u23, u24, u25, u26, u27, u28, u29, u30, u31, u32, u33, u34, u35, u36, u37, u38, u39, u40, u41, u42, u43, u44, u45, u46, u47, u48, u49, u50, u51, u52, u53, u54, u55, u56, u57, u58, u59, u60], []⟩
theorem elF_eq {s : ByteArray} {v : Value} {x y x' y' : Int} {u6 u7 u8 u9 u10 u11 u12 u13 u14 u15 u16 u17 u18 u19 u20 u21 u22 u23 u24 u25 u26 u27 u28 u29 u30 u31 u32 u33 u34 u35 u36 u37 u38 u39 u40 u41 u42 u43 u44 u45 u46 u47 u48 u49 u50 u51 u52 u53 u54 u55 u56 u57 u58 u59 u60 : Value} (h1 : Value.int .i64 x' = .int .i64 x) (h2 : Value.int .i64 y' = .int .i64 y) :
    (⟨#[.string s, undef, .slice none 0 0, v, .int .i64 x', .int .i64 y', u6, u7, u8, u9, u10, u11, u12, u13, u14, u15, u16, u17, u18, u19, u20, u21, u22, u23, u24, u25, u26, u27, u28, u29, u30, u31, u32, u33, u34, u35, u36, u37, u38, u39, u40, u41, u42, u43, u44, u45, u46, u47, u48, u49, u50, u51, u52, u53, u54, u55, u56, u57, u58, u59, u60], []⟩ : Act) = ⟨#[.string s, undef, .slice none 0 0, v, .int .i64 x, .int .i64 y, u6, u7, u8, u9, u10, u11, u12, u13, u14, u15, u16, u17, u18, u19, u20, u21, u22, u23, u24, u25, u26, u27, u28, u29, u30, u31, u32, u33, u34, u35, u36, u37, u38, u39, u40, u41, u42, u43, u44, u45, u46, u47, u48, u49, u50, u51, u52, u53, u54, u55, u56, u57, u58, u59, u60], []⟩ := by rw [h1, h2]
def ElJ (s : ByteArray) (w0 : World) (q : Nat) (a : Act) (w : World) : Prop := q ≤ 2 ∧ ∃ (v : Value) (fr k : Nat) (P : List (List UInt8)), ElF s v fr k a ∧ ERel s.data.toList q fr k P ∧ BufS w0 w v (cleanP P) ∧ P.length ≤ k
theorem elJ_mk {s : ByteArray} {w0 w : World} {a : Act} (q : Nat) (v : Value) (fr k : Nat) (P : List (List UInt8)) (h1 : ERel s.data.toList q fr k P) (h2 : BufS w0 w v (cleanP P)) (h3 : P.length ≤ k) (h4 : ElF s v fr k a) (hq : q ≤ 2 := by omega) : ElJ s w0 q a w := ⟨hq, v, fr, k, P, h4, h1, h2, h3⟩
def elMu (s : ByteArray) (l : Nat) (a : Act) (_ : World) : Nat := 2 * (s.size - (intOf (a.tmps.getD 5 undef)).toNat) + if l = 2 then 1 else 0
set_option maxRecDepth 1000000 in
set_option maxHeartbeats 4000000 in
theorem Elements_small (s : ByteArray) (w : World) (hs : s.size ≤ 4000) :
    Calls Tryz.prog 254 #[.string s] w fun e w' => ∃ v, e = .returned v ∧ BufS w w' v (elsB s) := by
  have hsm : s.size ≤ maxLen := by unfold maxLen; omega
  have hnb : ¬ (4000 : Int) < (s.size : Int) := by omega
  go_enter Tryz.func254, Tryz.ntmps254
  go_wp2
  refine wp_labels3 (ElJ s w) (elMu s) ?_ ?_ ?_
  · intro l a w hJ
    obtain ⟨hl, _⟩ := hJ
    match l, hl with
    | 0, _ => rfl
    | 1, _ => rfl
    | 2, _ => rfl
  · intro l a wr hJ
    obtain ⟨hl, v, fr, k, P, ⟨u6, u7, u8, u9, u10, u11, u12, u13, u14, u15, u16, u17, u18, u19, u20, u21, u22, u23, u24, u25, u26, u27, u28, u29, u30, u31, u32, u33, u34, u35, u36, u37, u38, u39, u40, u41, u42, u43, u44, u45, u46, u47, u48, u49, u50, u51, u52, u53, u54, u55, u56, u57, u58, u59, u60, rfl⟩, hrel, hbuf, hPk⟩ := hJ
    have hfr := hrel.1
    have hkl := hrel.2.1
    rw [len_data] at hkl
    have hcl := cleanP_len P
    match l, hl with
    | 0, _ =>
      conv => arg 2; whnf
      by_cases hend : k = s.size
      · subst hend
        have hfin : Hid (elsB s = cleanP P ++ keepP (s.extract fr s.size).data.toList) := by
          show _ = _
          rw [els_small hs, extract_list]
          have := hrel
          rw [← len_data] at this
          rw [erel_end this, cleanP_snoc, List.take_of_length_le (by rw [len_data]; exact Nat.le_refl _)]
        have hge : s.size ≤ s.size := Nat.le_refl _
        clear hrel
        go_wp2_with (go_at_call 285; refine (withPiece_any w _ _ _ _ hbuf (by omega) (by simp [ByteArray.size_extract]; unfold maxLen; omega)).mono ?_; rintro e w1 ⟨v', rfl, hbuf1⟩)
        try simp only [jumpsTo]
        go_ret
        exact ⟨_, rfl, by rw [hfin.out]; exact hbuf1⟩
      · have hlt : k < s.size := by omega
        have hkL : k < s.data.toList.length := by rw [len_data]; exact hlt
        have hne : ((k : Int) == (s.size : Int)) = false := by rw [beq_eq_false_iff_ne]; omega
        have hat : s[k] = s.data.toList.getD k 0 := at8_eq s k hlt
        have Hat : Hid (s[k] = s.data.toList.getD k 0) := hat
        have Hrel : Hid (ERel s.data.toList 0 fr k P) := hrel
        clear hat hrel hend
        by_cases h44 : (s[k].toNat : Int) = 44
        · have g44 : ((s[k].toNat : Int) == 44) = true := by simpa using h44
          have hb44 : Hid (s.data.toList.getD k 0 = 44) := by show _ = _; rw [← Hat.out]; exact u8eq h44
          have hrel2 := erel_comma Hrel.out hkL hb44.out
          have HR : Hid (ERel s.data.toList 0 (k + 1) (k + 1) (P ++ [(s.extract fr k).data.toList])) := by
            show ERel _ _ _ _ _
            rw [extract_list]; exact hrel2
          clear h44 hrel2
          go_wp2_with (go_at_call 285; refine (withPiece_any w _ _ _ _ hbuf (by omega) (by simp [ByteArray.size_extract]; unfold maxLen; omega)).mono ?_; rintro e w1 ⟨v', rfl, hbuf1⟩)
          go_step3
          try simp only [jumpsTo]
          refine ⟨elJ_mk 0 v' (k + 1) (k + 1) (P ++ [(s.extract fr k).data.toList]) HR.out (by rw [cleanP_snoc]; exact hbuf1) (by first | omega | (simp; omega)) ⟨_, _, _, _, _, _, _, _, _, _, _, _, _, _, _, _, _, _, _, _, _, _, _, _, _, _, _, _, _, _, _, _, _, _, _, _, _, _, _, _, _, _, _, _, _, _, _, _, _, _, _, _, _, _, _, elF_eq (by go_num) (by go_num)⟩, ?_⟩
          simp [elMu, intOf]; omega
        · have g44 : ((s[k].toNat : Int) == 44) = false := by simpa using h44
          have hn44 : s.data.toList.getD k 0 ≠ 44 := by rw [← Hat.out]; exact u8ne h44
          have hr := erel_out Hrel.out hkL hn44
          by_cases h34 : (s[k].toNat : Int) = 34
          · have g34 : ((s[k].toNat : Int) == 34) = true := by simpa using h34
            rw [if_pos (by rw [← Hat.out]; exact u8eq h34)] at hr
            have HR : Hid (ERel s.data.toList 1 fr (k + 1) P) := hr
            clear h44 h34 hn44 hr
            go_wp2
            go_step3
            try simp only [jumpsTo]
            refine ⟨elJ_mk 1 v fr (k + 1) P HR.out hbuf (by first | omega | (simp; omega)) ⟨_, _, _, _, _, _, _, _, _, _, _, _, _, _, _, _, _, _, _, _, _, _, _, _, _, _, _, _, _, _, _, _, _, _, _, _, _, _, _, _, _, _, _, _, _, _, _, _, _, _, _, _, _, _, _, elF_eq (by go_num) (by go_num)⟩, ?_⟩
            simp [elMu, intOf]; omega
          · have g34 : ((s[k].toNat : Int) == 34) = false := by simpa using h34
            rw [if_neg (by rw [← Hat.out]; exact u8ne h34)] at hr
            have HR : Hid (ERel s.data.toList 0 fr (k + 1) P) := hr
            clear h44 h34 hn44 hr
            go_wp2
            go_step3
            try simp only [jumpsTo]
            refine ⟨elJ_mk 0 v fr (k + 1) P HR.out hbuf (by first | omega | (simp; omega)) ⟨_, _, _, _, _, _, _, _, _, _, _, _, _, _, _, _, _, _, _, _, _, _, _, _, _, _, _, _, _, _, _, _, _, _, _, _, _, _, _, _, _, _, _, _, _, _, _, _, _, _, _, _, _, _, _, elF_eq (by go_num) (by go_num)⟩, ?_⟩
            simp [elMu, intOf]; omega
    | 1, _ =>
      conv => arg 2; whnf
      by_cases hend : k = s.size
      · subst hend
        have hfin : Hid (elsB s = cleanP P ++ keepP (s.extract fr s.size).data.toList) := by
          show _ = _
          rw [els_small hs, extract_list]
          have := hrel
          rw [← len_data] at this
          rw [erel_end this, cleanP_snoc, List.take_of_length_le (by rw [len_data]; exact Nat.le_refl _)]
        clear hrel
        go_wp2_with (go_at_call 285; refine (withPiece_any w _ _ _ _ hbuf (by omega) (by simp [ByteArray.size_extract]; unfold maxLen; omega)).mono ?_; rintro e w1 ⟨v', rfl, hbuf1⟩)
        try simp only [jumpsTo]
        go_ret
        exact ⟨_, rfl, by rw [hfin.out]; exact hbuf1⟩
      · have hlt : k < s.size := by omega
        have hkL : k < s.data.toList.length := by rw [len_data]; exact hlt
        have hne : ((k : Int) == (s.size : Int)) = false := by rw [beq_eq_false_iff_ne]; omega
        have hat : s[k] = s.data.toList.getD k 0 := at8_eq s k hlt
        have Hat : Hid (s[k] = s.data.toList.getD k 0) := hat
        have hr := erel_in hrel hkL
        clear hat hrel hend
        by_cases h34 : (s[k].toNat : Int) = 34
        · have g34 : ((s[k].toNat : Int) == 34) = true := by simpa using h34
          rw [if_pos (by rw [← Hat.out]; exact u8eq h34)] at hr
          have HR : Hid (ERel s.data.toList 0 fr (k + 1) P) := hr
          clear h34 hr
          go_wp2
          go_step3
          try simp only [jumpsTo]
          refine ⟨elJ_mk 0 v fr (k + 1) P HR.out hbuf (by first | omega | (simp; omega)) ⟨_, _, _, _, _, _, _, _, _, _, _, _, _, _, _, _, _, _, _, _, _, _, _, _, _, _, _, _, _, _, _, _, _, _, _, _, _, _, _, _, _, _, _, _, _, _, _, _, _, _, _, _, _, _, _, elF_eq (by go_num) (by go_num)⟩, ?_⟩
          simp [elMu, intOf]; omega
        · have g34 : ((s[k].toNat : Int) == 34) = false := by simpa using h34
          rw [if_neg (by rw [← Hat.out]; exact u8ne h34)] at hr
          by_cases h92 : (s[k].toNat : Int) = 92
          · have g92 : ((s[k].toNat : Int) == 92) = true := by simpa using h92
            rw [if_pos (by rw [← Hat.out]; exact u8eq h92)] at hr
            have HR : Hid (ERel s.data.toList 2 fr (k + 1) P) := hr
            clear h34 h92 hr
            go_wp2
            go_step3
            try simp only [jumpsTo]
            refine ⟨elJ_mk 2 v fr (k + 1) P HR.out hbuf (by first | omega | (simp; omega)) ⟨_, _, _, _, _, _, _, _, _, _, _, _, _, _, _, _, _, _, _, _, _, _, _, _, _, _, _, _, _, _, _, _, _, _, _, _, _, _, _, _, _, _, _, _, _, _, _, _, _, _, _, _, _, _, _, elF_eq (by go_num) (by go_num)⟩, ?_⟩
            simp [elMu, intOf]; omega
          · have g92 : ((s[k].toNat : Int) == 92) = false := by simpa using h92
            rw [if_neg (by rw [← Hat.out]; exact u8ne h92)] at hr
            have HR : Hid (ERel s.data.toList 1 fr (k + 1) P) := hr
            clear h34 h92 hr
            go_wp2
            go_step3
            try simp only [jumpsTo]
            refine ⟨elJ_mk 1 v fr (k + 1) P HR.out hbuf (by first | omega | (simp; omega)) ⟨_, _, _, _, _, _, _, _, _, _, _, _, _, _, _, _, _, _, _, _, _, _, _, _, _, _, _, _, _, _, _, _, _, _, _, _, _, _, _, _, _, _, _, _, _, _, _, _, _, _, _, _, _, _, _, elF_eq (by go_num) (by go_num)⟩, ?_⟩
            simp [elMu, intOf]; omega
    | 2, _ =>
      conv => arg 2; whnf
      by_cases hlt : k < s.size
      · have hkL : k < s.data.toList.length := by rw [len_data]; exact hlt
        have HR : Hid (ERel s.data.toList 1 fr (k + 1) P) := erel_behind hrel hkL
        clear hrel
        go_wp2
        go_step3
        try simp only [jumpsTo]
        refine ⟨elJ_mk 1 v fr (k + 1) P HR.out hbuf (by first | omega | (simp; omega)) ⟨_, _, _, _, _, _, _, _, _, _, _, _, _, _, _, _, _, _, _, _, _, _, _, _, _, _, _, _, _, _, _, _, _, _, _, _, _, _, _, _, _, _, _, _, _, _, _, _, _, _, _, _, _, _, _, elF_eq (by go_num) (by go_num)⟩, ?_⟩
        simp [elMu, intOf]; omega
      · obtain rfl : k = s.size := by omega
        have HR : Hid (ERel s.data.toList 1 fr s.size P) := by
          have := hrel
          rw [← len_data] at this ⊢
          exact erel_behind_end this
        clear hrel
        go_wp2
        go_step3
        try simp only [jumpsTo]
        refine ⟨elJ_mk 1 v fr s.size P HR.out hbuf (by first | omega | (simp; omega)) ⟨_, _, _, _, _, _, _, _, _, _, _, _, _, _, _, _, _, _, _, _, _, _, _, _, _, _, _, _, _, _, _, _, _, _, _, _, _, _, _, _, _, _, _, _, _, _, _, _, _, _, _, _, _, _, _, elF_eq (by go_num) (by go_num)⟩, ?_⟩
        simp [elMu, intOf]
  · intro hgo
    go_wp2
    go_step3
    apply_assumption
    refine hgo 0 _ w ?_
    exact elJ_mk 0 _ 0 0 [] (erel_start _) (BufS.start w) (Nat.zero_le _) ⟨_, _, _, _, _, _, _, _, _, _, _, _, _, _, _, _, _, _, _, _, _, _, _, _, _, _, _, _, _, _, _, _, _, _, _, _, _, _, _, _, _, _, _, _, _, _, _, _, _, _, _, _, _, _, _, rfl⟩
set_option maxHeartbeats 1000000 in
theorem Elements_any (s : ByteArray) (w : World) (hsm : s.size ≤ maxLen) :
    Calls Tryz.prog 254 #[.string s] w fun e w' => ∃ v, e = .returned v ∧ BufS w w' v (elsB s) := by
  by_cases hs : s.size ≤ 4000
  · exact Elements_small s w hs
  · have hb : Hid (elsB s = []) := els_big (by omega)
    have hnb : (4000 : Int) < (s.size : Int) := by omega
    clear hs
    go_enter Tryz.func254, Tryz.ntmps254
    go_wp2
    refine wp_labels3 (fun _ _ _ => False) (fun _ _ _ => 0) (fun _ _ _ h => h.elim) (fun _ _ _ h => h.elim) (fun _ => ?_)
    go_wp2
    simp only [jumpsTo]
    go_ret
    exact ⟨_, rfl, by rw [hb.out]; exact BufS.start w⟩
end Go.Proofs.YthdgeepedofleaaGreatDoor
