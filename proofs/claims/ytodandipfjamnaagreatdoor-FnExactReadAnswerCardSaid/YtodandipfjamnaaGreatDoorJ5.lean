/-
  The walks over chapter 1: spec.TakeLine. · Chapter 6: a text cut at its first ';'. · Plain functions of chapter 1: numbers in sixteens. No Go in sight. · The walks over chapter 1: TakeN. · Chapter 6: a body out of its chunks, on lists. No Go in sight. · Chapter 6: ReadHead; the specification's side. · Contracts of the library's functions at this program, laid off the kit's shelf in plain words. · Chapter 6: a line cut at its blanks, by the library's own cutting.
-/
import Derived.Test.YtodandipfjamnaaGreatDoorJ4
import Derived.Deep.RegionWith
import Derived.Test.YtodandipfjamnaaGreatDoorJ2
import Derived.Test.YtodandipfjamnaaGreatDoorJ1
import Derived.WalkMore
import Derived.Shelf.Strings.SplitCore
import Derived.Test.YtodandipfjamnaaGreatDoorProg
import Derived.Shelf.Strings.Split
import Derived.Lib.IndexBytes
namespace Go.Proofs.YtodandipfjamnaaGreatDoor
set_option linter.unusedVariables false
set_option linter.unusedSimpArgs false
open Go.RowKit

theorem tlE_of {s : ByteArray} {k m : Nat} (h : eolLen s k = m) : tlE s k = k + m := by unfold tlE; rw [h]

set_option maxHeartbeats 1000000 in
theorem sTakeLine_bad (s : ByteArray) (n : Int) (w : World) (hc : curOk s n = false) :
    Calls Tryz.prog 66 #[.agg #[.string s, .int .i64 n]] w fun e w' => e = .returned (.tuple #[.string ⟨#[]⟩, curZ, .int .i64 2]) ∧ Below w.heap.size w w' := by
  go_enter Tryz.func66, Tryz.ntmps66
  go_wp2_with (go_at_call 102; refine (sCurOk_any s _ _).mono ?_; rintro e w' ⟨rfl, rfl⟩)
  refine bodyPost_ret (v := .tuple #[.string ⟨#[]⟩, curZ, .int .i64 2]) (by simp [results, Tryz.results66, go_sem, curZ]) rfl ⟨rfl, ?_⟩
  exact (by repeat (first | exact Below.refl _ _ | refine Below.drew ?_ | refine Below.alloc ?_ (by simp <;> omega) _ | refine Below.setCell ?_ (by simp <;> omega) _))
set_option maxHeartbeats 2000000 in
theorem sTakeLine_ok (s : ByteArray) (k : Nat) (w : World) (hs : s.size ≤ maxLen) (hk : k ≤ s.size) :
    Calls Tryz.prog 66 #[.agg #[.string s, .int .i64 (k : Int)]] w fun e w' => e = .returned (tlV s k) ∧ Below w.heap.size w w' := by
  have hs' := hs
  unfold maxLen at hs'
  have hc : curOk s (k : Int) = true := curOk_iff.2 ⟨by omega, by omega⟩
  go_enter Tryz.func66, Tryz.ntmps66
  go_wp2_with (go_at_call 102; refine (sCurOk_any s _ _).mono ?_; rintro e w' ⟨rfl, rfl⟩)
  clear hc
  go_loop [5] (fun i => ∃ m : Nat, k + m ≤ s.size ∧ i = .int .i64 ((k : Int) + (m : Int)) ∧ ∀ j, j < m → eol8 (at8 s (k + j)) = false) (fun i => s.size - (intOf i).toNat)
  case atStart => exact ⟨0, by omega, by simp, fun j hj => by omega⟩
  case round =>
    obtain ⟨m, hkm, rfl, hall⟩ := hrel
    have Hall : Hid (∀ j, j < m → eol8 (at8 s (k + j)) = false) := hall
    clear hall
    by_cases hlt : k + m < s.size
    · have hltI : (k : Int) + (m : Int) < (s.size : Int) := by omega
      by_cases h10 : ((at8 s (k + m)).toNat : Int) = 10
      · have g10 : ((s[k + m].toNat : Int) == 10) = true := by rw [at8_eq s (k + m) hlt]; simpa using h10
        have hE := tlE_of (eolLen_of s k m hkm Hall.out (Or.inr (eolP_iff.2 (Or.inr h10))))
        have hfin : Hid (tlV s k = .tuple #[.string ⟨#[]⟩, curZ, .int .i64 2]) := tlV_bad (tlC_10 (by rw [hE]; exact hlt) (by rw [hE]; omega))
        clear h10 hE
        go_wp2
        refine bodyPost_ret (v := .tuple #[.string ⟨#[]⟩, curZ, .int .i64 2]) (by simp [results, Tryz.results66, go_sem, curZ]) rfl ⟨by rw [hfin.out], ?_⟩
        exact (by repeat (first | exact Below.refl _ _ | refine Below.drew ?_ | refine Below.alloc ?_ (by simp <;> omega) _ | refine Below.setCell ?_ (by simp <;> omega) _))
      · have g10 : ((s[k + m].toNat : Int) == 10) = false := by rw [at8_eq s (k + m) hlt]; simpa using h10
        by_cases h13 : ((at8 s (k + m)).toNat : Int) = 13
        · have g13 : ((s[k + m].toNat : Int) == 13) = true := by rw [at8_eq s (k + m) hlt]; simpa using h13
          have hE := tlE_of (eolLen_of s k m hkm Hall.out (Or.inr (eolP_iff.2 (Or.inl h13))))
          by_cases hend : k + m + 1 = s.size
          · have hge : s.size ≤ k + m + 1 := by omega
            have hfin : Hid (tlV s k = .tuple #[.string ⟨#[]⟩, curZ, .int .i64 1]) := tlV_short (tlC_13end (by rw [hE]; exact hend) (by rw [hE]; omega))
            clear h10 h13 hE hend
            go_wp2
            refine bodyPost_ret (v := .tuple #[.string ⟨#[]⟩, curZ, .int .i64 1]) (by simp [results, Tryz.results66, go_sem, curZ]) rfl ⟨by rw [hfin.out], ?_⟩
            exact (by repeat (first | exact Below.refl _ _ | refine Below.drew ?_ | refine Below.alloc ?_ (by simp <;> omega) _ | refine Below.setCell ?_ (by simp <;> omega) _))
          · have hL2 : k + m + 1 < s.size := by omega
            by_cases hn : ((at8 s (k + m + 1)).toNat : Int) = 10
            · have gn : ((s[k + m + 1].toNat : Int) != 10) = false := by rw [at8_eq s (k + m + 1) hL2]; simpa using hn
              have hfin : Hid (tlV s k = .tuple #[.string (s.extract k (k + m)), .agg #[.string s, .int .i64 ((k : Int) + (m : Int) + 2)], .int .i64 0]) := by
                have := tlV_ok (tlC_ok (s := s) (k := k) (by rw [hE]; exact hL2) (by rw [hE]; omega) (by rw [hE]; omega))
                rw [hE] at this
                rw [show (k : Int) + (m : Int) = ((k + m : Nat) : Int) from by omega]
                exact this
              have e1 : IntKind.i64.wrap ((k : Int) + (m : Int) + 2) = (k : Int) + (m : Int) + 2 := by rw [IntKind.wrap_i64]; omega
              have hkm2 : k ≤ k + m := by omega
              clear h10 h13 hE hend hn
              go_wp2
              go_region
              go_wp2
              refine bodyPost_ret (v := .tuple #[.string (s.extract k (k + m)), .agg #[.string s, .int .i64 ((k : Int) + (m : Int) + 2)], .int .i64 0]) (by simp [results, Tryz.results66, go_sem]) rfl ⟨by rw [hfin.out], ?_⟩
              exact (by repeat (first | exact Below.refl _ _ | refine Below.drew ?_ | refine Below.alloc ?_ (by simp <;> omega) _ | refine Below.setCell ?_ (by simp <;> omega) _))
            · have gn : ((s[k + m + 1].toNat : Int) != 10) = true := by rw [at8_eq s (k + m + 1) hL2]; simpa using hn
              have hfin : Hid (tlV s k = .tuple #[.string ⟨#[]⟩, curZ, .int .i64 2]) := tlV_bad (tlC_no (by rw [hE]; exact hL2) (by rw [hE]; omega) (by rw [hE]; omega))
              clear h10 h13 hE hend hn
              go_wp2
              refine bodyPost_ret (v := .tuple #[.string ⟨#[]⟩, curZ, .int .i64 2]) (by simp [results, Tryz.results66, go_sem, curZ]) rfl ⟨by rw [hfin.out], ?_⟩
              exact (by repeat (first | exact Below.refl _ _ | refine Below.drew ?_ | refine Below.alloc ?_ (by simp <;> omega) _ | refine Below.setCell ?_ (by simp <;> omega) _))
        · have g13 : ((s[k + m].toNat : Int) == 13) = false := by rw [at8_eq s (k + m) hlt]; simpa using h13
          have hnew : Hid (eol8 (at8 s (k + m)) = false) := eolP_no.2 ⟨h13, h10⟩
          clear h10 h13
          go_wp2
          go_round
          case rel => exact ⟨m + 1, by omega, by go_num, all_succ Hall.out hnew.out⟩
          case measure => simp [intOf]; omega
    · have hge : (s.size : Int) ≤ (k : Int) + (m : Int) := by omega
      have hE := tlE_of (eolLen_of s k m hkm Hall.out (Or.inl (by omega)))
      have hfin : Hid (tlV s k = .tuple #[.string ⟨#[]⟩, curZ, .int .i64 1]) := tlV_short0 (by rw [hE]; omega)
      clear hE
      go_wp2
      refine bodyPost_ret (v := .tuple #[.string ⟨#[]⟩, curZ, .int .i64 1]) (by simp [results, Tryz.results66, go_sem, curZ]) rfl ⟨by rw [hfin.out], ?_⟩
      exact (by repeat (first | exact Below.refl _ _ | refine Below.drew ?_ | refine Below.alloc ?_ (by simp <;> omega) _ | refine Below.setCell ?_ (by simp <;> omega) _))
end Go.Proofs.YtodandipfjamnaaGreatDoor
namespace Go.Proofs.YtodandipfjamnaaGreatDoor
set_option linter.unusedVariables false
set_option linter.unusedSimpArgs false
open Go.RowKit
/-- Where the first ';' stands, or -1. -/
def idxS (s : ByteArray) : Int := Lib.indexByte s.data.toList 59
theorem idxS_some {s : ByteArray} {i : Nat} (h : idxS s = (i : Int)) : i < s.size ∧ at8 s i = 59 ∧ ∀ j, j < i → at8 s j ≠ 59 := by
  obtain ⟨h1, h2⟩ := Lib.indexByte_some h
  have hi : i < s.data.toList.length := (List.getElem?_eq_some_iff.1 h1).1
  rw [len_data] at hi
  refine ⟨hi, by unfold at8; rw [List.getD, h1]; rfl, fun j hj he => h2 j hj ?_⟩
  have hj' : j < s.data.toList.length := by rw [len_data]; omega
  unfold at8 at he
  rw [List.getD, List.getElem?_eq_getElem hj'] at he
  rw [List.getElem?_eq_getElem hj']
  simpa using he
theorem idxS_none {s : ByteArray} (h : idxS s = -1) : ∀ j, j < s.size → at8 s j ≠ 59 := by
  intro j hj he
  have hj' : j < s.data.toList.length := by rw [len_data]; omega
  refine Lib.indexByte_none h j ?_
  unfold at8 at he
  rw [List.getD, List.getElem?_eq_getElem hj'] at he
  rw [List.getElem?_eq_getElem hj']
  simpa using he
theorem idxS_cases (s : ByteArray) : idxS s = -1 ∨ ∃ i : Nat, idxS s = (i : Int) ∧ i < s.size := by
  have h := Lib.indexByte_ge s.data.toList 59
  by_cases h1 : idxS s = -1
  · exact .inl h1
  · right
    have h2 : -1 ≤ idxS s := h
    have h3 : idxS s = ((idxS s).toNat : Int) := by omega
    exact ⟨(idxS s).toNat, h3, (idxS_some h3).1⟩
theorem idxS_of {s : ByteArray} {i : Nat} (h1 : i < s.size) (h2 : at8 s i = 59) (h3 : ∀ j, j < i → at8 s j ≠ 59) : idxS s = (i : Int) := by
  rcases idxS_cases s with h | ⟨k, hk, _⟩
  · exact absurd h2 (idxS_none h i h1)
  · obtain ⟨g1, g2, g3⟩ := idxS_some hk
    rcases Nat.lt_trichotomy k i with h | h | h
    · exact absurd g2 (h3 k h)
    · rw [hk, h]
    · exact absurd h2 (g3 i h)
set_option maxRecDepth 100000 in
set_option maxHeartbeats 1000000 in
theorem Index1S_any (s : ByteArray) (w : World) :
    Calls Tryz.prog 207 #[.string s, .string ⟨#[59]⟩] w fun e w' => e = .returned (.int .i64 (idxS s)) ∧ w' = w := by
  cases h : eqB ⟨#[59]⟩ s
  · have h1 : (([59] : List UInt8) == s.toList) = false := by
      rw [show ([59] : List UInt8) = (⟨#[59]⟩ : ByteArray).toList by rw [ByteArray.toList_eq]]
      exact h
    have HI := hideB2 (fun W => IndexByte_any s 59 W)
    clear h
    go_enter Tryz.func207, Tryz.ntmps207
    go_wp2_with (go_at_call 224; refine (HI.out _).mono ?_; rintro e w' ⟨rfl, rfl⟩)
    go_ret
    exact ⟨rfl, rfl⟩
  · have h1 : (([59] : List UInt8) == s.toList) = true := by
      rw [show ([59] : List UInt8) = (⟨#[59]⟩ : ByteArray).toList by rw [ByteArray.toList_eq]]
      exact h
    have HE := hideB2 (show idxS s = 0 by rw [← eqB_iff.1 h]; unfold idxS; simp [Lib.indexByte])
    clear h
    go_enter Tryz.func207, Tryz.ntmps207
    go_wp2
    go_ret
    exact ⟨ret_int HE.out, rfl⟩
set_option maxHeartbeats 1000000 in
theorem Cut0S_none (s : ByteArray) (w : World) (hi : idxS s = -1) :
    Calls Tryz.prog 186 #[.string s, .string ⟨#[59]⟩] w fun e w' => e = .returned (.tuple #[.string s, .string ⟨#[]⟩, .bool false]) ∧ Below w.heap.size w w' := by
  have HI := hideB2 hi
  clear hi
  go_enter Tryz.func186, Tryz.ntmps186
  go_wp2_with (go_at_call 207; refine (Index1S_any _ _).mono ?_; rintro e w' ⟨rfl, rfl⟩; rw [HI.out])
  go_ret3
  exact ⟨rfl, Below.refl _ _⟩
set_option maxHeartbeats 1000000 in
theorem Cut0S_some (s : ByteArray) (i : Nat) (w : World) (hi : idxS s = (i : Int)) (hlt : i < s.size) (hs : s.size ≤ maxLen) :
    Calls Tryz.prog 186 #[.string s, .string ⟨#[59]⟩] w fun e w' => e = .returned (.tuple #[.string (s.extract 0 i), .string (s.extract (i + 1) s.size), .bool true]) ∧ Below w.heap.size w w' := by
  have HI := hideB2 hi
  unfold maxLen at hs
  clear hi
  have e1 : IntKind.i64.wrap ((i : Int) + 1) = (i : Int) + 1 := by rw [IntKind.wrap_i64]; omega
  have c0 : (0 : Int) ≤ (i : Int) := by omega
  have c1 : (i : Int) ≤ (s.size : Int) := by omega
  have c2 : (0 : Int) ≤ (i : Int) + 1 := by omega
  have c3 : (i : Int) + 1 ≤ (s.size : Int) := by omega
  go_enter Tryz.func186, Tryz.ntmps186
  go_wp2_with (go_at_call 207; refine (Index1S_any _ _).mono ?_; rintro e w' ⟨rfl, rfl⟩; rw [HI.out])
  go_region
  go_wp2
  go_ret3
  exact ⟨rfl, (Below.refl _ _).drew⟩
set_option maxHeartbeats 1000000 in
theorem CutS_none (s : ByteArray) (w : World) (hi : idxS s = -1) :
    Calls Tryz.prog 161 #[.string s, .string ⟨#[59]⟩] w fun e w' => e = .returned (.tuple #[.string s, .string ⟨#[]⟩, .bool false]) ∧ Below w.heap.size w w' := by
  have HC := hideB2 (fun W => Cut0S_none s W hi)
  clear hi
  go_enter Tryz.func161, Tryz.ntmps161
  go_wp2_with (go_at_call 186; refine (HC.out _).mono ?_; rintro e w' ⟨rfl, hb⟩)
  go_ret3
  exact ⟨rfl, hb⟩
set_option maxHeartbeats 1000000 in
theorem CutS_some (s : ByteArray) (i : Nat) (w : World) (hi : idxS s = (i : Int)) (hlt : i < s.size) (hs : s.size ≤ maxLen) :
    Calls Tryz.prog 161 #[.string s, .string ⟨#[59]⟩] w fun e w' => e = .returned (.tuple #[.string (s.extract 0 i), .string (s.extract (i + 1) s.size), .bool true]) ∧ Below w.heap.size w w' := by
  have HC := hideB2 (fun W => Cut0S_some s i W hi hlt hs)
  clear hi
  generalize s.extract 0 i = x at *
  generalize s.extract (i + 1) s.size = y at *
  go_enter Tryz.func161, Tryz.ntmps161
  go_wp2_with (go_at_call 186; refine (HC.out _).mono ?_; rintro e w' ⟨rfl, hb⟩)
  go_ret3
  exact ⟨rfl, hb⟩
end Go.Proofs.YtodandipfjamnaaGreatDoor
namespace Go.Proofs.YtodandipfjamnaaGreatDoor
set_option linter.unusedVariables false
set_option linter.unusedSimpArgs false
open Go.RowKit

/-- The value of a digit of sixteen, -1 for any other byte. -/
def hexV (n : Int) : Int := if digP n = true then n - 48 else if 97 ≤ lowI n ∧ lowI n ≤ 102 then lowI n - 87 else -1
def hex8 (b : UInt8) : Int := hexV (b.toNat : Int)
def hval (l : List UInt8) : Int := l.foldl (fun n b => n * 16 + hex8 b) 0
def allHex (l : List UInt8) : Bool := l.all fun b => decide (0 ≤ hex8 b)
def rhexOk (s : ByteArray) : Bool := decide (0 < s.size) && decide (s.size ≤ 7) && allHex s.data.toList
def rhexN (s : ByteArray) : Int := if rhexOk s = true then hval s.data.toList else 0

theorem digP_iff {n : Int} : digP n = true ↔ 48 ≤ n ∧ n ≤ 57 := by unfold digP; simp
theorem hexV_dig {n : Int} (h : digP n = true) : hexV n = n - 48 := by unfold hexV; rw [if_pos h]
theorem hexV_let {n : Int} (h : digP n = false) (h1 : 97 ≤ lowI n) (h2 : lowI n ≤ 102) : hexV n = lowI n - 87 := by
  unfold hexV; rw [if_neg (by simp [h]), if_pos ⟨h1, h2⟩]
theorem hexV_no {n : Int} (h : digP n = false) (h1 : lowI n < 97 ∨ 102 < lowI n) : hexV n = -1 := by
  unfold hexV; rw [if_neg (by simp [h]), if_neg (by omega)]
theorem hexV_bd (n : Int) : -1 ≤ hexV n ∧ hexV n ≤ 15 := by
  unfold hexV
  split
  · rename_i h; rw [digP_iff] at h; omega
  · split <;> omega
theorem digP_low (n : Int) (h0 : 0 ≤ n) : digP (lowI n) = digP n := by
  unfold digP lowI
  by_cases h : 65 ≤ n ∧ n ≤ 90
  · rw [if_pos h]
    have h1 : ¬ n ≤ 57 := by omega
    have h2 : ¬ n + 32 ≤ 57 := by omega
    simp [h1, h2]
  · rw [if_neg h]
theorem lowI_dig {n : Int} (h : digP n = true) : lowI n = n := by
  rw [digP_iff] at h; unfold lowI; rw [if_neg (by omega)]
theorem hval_snoc (l : List UInt8) (b : UInt8) : hval (l ++ [b]) = hval l * 16 + hex8 b := by simp [hval]
theorem hval_bd (l : List UInt8) (h : allHex l = true) : 0 ≤ hval l ∧ hval l < 16 ^ l.length := by
  revert h
  refine snoc_ind (p := fun l => allHex l = true → 0 ≤ hval l ∧ hval l < 16 ^ l.length) ?_ ?_ l
  · intro _; simp [hval]
  · intro q b ih h
    have hq : allHex q = true := by unfold allHex at h ⊢; rw [List.all_append] at h; simp at h; simpa using h.1
    have hb : 0 ≤ hex8 b := by unfold allHex at h; rw [List.all_append] at h; simp at h; exact h.2
    have hb2 := (hexV_bd (b.toNat : Int)).2
    have := ih hq
    have hb3 : hex8 b ≤ 15 := hb2
    rw [hval_snoc, List.length_append, List.length_singleton, Int.pow_succ]
    omega
theorem allHex_snoc (l : List UInt8) (b : UInt8) (h : allHex l = true) (hb : 0 ≤ hex8 b) : allHex (l ++ [b]) = true := by
  unfold allHex at *
  rw [List.all_append, h]
  simp [hb]
theorem allHex_no (s : ByteArray) (k : Nat) (hk : k < s.size) (h : hex8 (at8 s k) < 0) : allHex s.data.toList = false := by
  have hl : k < s.data.toList.length := by rw [len_data]; exact hk
  unfold allHex
  rw [List.all_eq_false]
  refine ⟨s.data.toList[k], List.getElem_mem hl, ?_⟩
  simp [at8, List.getD, List.getElem?_eq_getElem hl] at h
  simpa using h
theorem rhex_size {s : ByteArray} (h : s.size = 0 ∨ 7 < s.size) : rhexN s = 0 ∧ rhexOk s = false := by
  have : rhexOk s = false := by
    unfold rhexOk
    rcases h with h | h
    · simp [h]
    · simp [show ¬ s.size ≤ 7 by omega]
  exact ⟨by simp [rhexN, this], this⟩
theorem rhex_no {s : ByteArray} {k : Nat} (hk : k < s.size) (h : hex8 (at8 s k) < 0) : rhexN s = 0 ∧ rhexOk s = false := by
  have : rhexOk s = false := by unfold rhexOk; simp [allHex_no s k hk h]
  exact ⟨by simp [rhexN, this], this⟩
theorem rhex_yes {s : ByteArray} (h0 : 0 < s.size) (h1 : s.size ≤ 7) (h : allHex s.data.toList = true) : rhexN s = hval s.data.toList ∧ rhexOk s = true := by
  have : rhexOk s = true := by unfold rhexOk; simp [h0, h1, h]
  exact ⟨by simp [rhexN, this], this⟩
theorem hval_small (s : ByteArray) (k : Nat) (hk : k ≤ 7) (h : allHex (s.data.toList.take k) = true) : 0 ≤ hval (s.data.toList.take k) ∧ hval (s.data.toList.take k) < 268435456 := by
  have h1 := hval_bd _ h
  have h2 : (s.data.toList.take k).length ≤ 7 := by simp; omega
  have h3' : (16 : Nat) ^ (s.data.toList.take k).length ≤ 16 ^ 7 := Nat.pow_le_pow_right (by decide) h2
  have h3 : (16 : Int) ^ (s.data.toList.take k).length ≤ 16 ^ 7 := by exact_mod_cast h3'
  have h4 : (16 : Int) ^ 7 = 268435456 := by decide
  omega
end Go.Proofs.YtodandipfjamnaaGreatDoor
namespace Go.Proofs.YtodandipfjamnaaGreatDoor
set_option linter.unusedVariables false
set_option linter.unusedSimpArgs false
open Go.RowKit

/-- What TakeN answers. -/
def tnOk (s : ByteArray) (n m : Int) : Bool := curOk s n && decide (0 ≤ m) && decide (m ≤ (s.size : Int) - n)
def tnV (s : ByteArray) (n m : Int) : Value := if tnOk s n m = true then .tuple #[.string (s.extract n.toNat (n.toNat + m.toNat)), .agg #[.string s, .int .i64 (n + m)], .bool true] else .tuple #[.string ⟨#[]⟩, curZ, .bool false]
theorem tnV_no {s : ByteArray} {n m : Int} (h : tnOk s n m = false) : tnV s n m = .tuple #[.string ⟨#[]⟩, curZ, .bool false] := by simp [tnV, h]
theorem tnV_yes {s : ByteArray} {k m : Nat} (h : k + m ≤ s.size) : tnV s (k : Int) (m : Int) = .tuple #[.string (s.extract k (k + m)), .agg #[.string s, .int .i64 ((k : Int) + m)], .bool true] := by
  have : tnOk s (k : Int) (m : Int) = true := by
    unfold tnOk
    simp [curOk]
    omega
  unfold tnV
  rw [if_pos this, Int.toNat_natCast, Int.toNat_natCast]

set_option maxHeartbeats 1000000 in
theorem sTakeN_any (s : ByteArray) (n m : Int) (w : World) (hs : s.size ≤ maxLen) (hm : m ≤ 9223372036854775807) :
    Calls Tryz.prog 114 #[.agg #[.string s, .int .i64 n], .int .i64 m] w fun e w' => e = .returned (tnV s n m) ∧ Below w.heap.size w w' := by
  have hs' := hs
  unfold maxLen at hs'
  cases hc : curOk s n
  · rw [tnV_no (by simp [tnOk, hc])]
    go_enter Tryz.func114, Tryz.ntmps114
    go_wp2_with (go_at_call 102; refine (sCurOk_any s n _).mono ?_; rintro e w' ⟨rfl, rfl⟩)
    refine bodyPost_ret (v := .tuple #[.string ⟨#[]⟩, curZ, .bool false]) (by simp [results, Tryz.results114, go_sem, curZ]) rfl ⟨rfl, ?_⟩
    exact (by repeat (first | exact Below.refl _ _ | refine Below.drew ?_ | refine Below.alloc ?_ (by simp <;> omega) _ | refine Below.setCell ?_ (by simp <;> omega) _))
  · obtain ⟨h0, h1⟩ := curOk_iff.1 hc
    obtain ⟨k, rfl⟩ := Int.eq_ofNat_of_zero_le h0
    have hk : k ≤ s.size := by omega
    by_cases hm0 : m < 0
    · rw [tnV_no (by simp [tnOk]; omega)]
      go_enter Tryz.func114, Tryz.ntmps114
      go_wp2_with (go_at_call 102; refine (sCurOk_any s k _).mono ?_; rintro e w' ⟨rfl, rfl⟩)
      refine bodyPost_ret (v := .tuple #[.string ⟨#[]⟩, curZ, .bool false]) (by simp [results, Tryz.results114, go_sem, curZ]) rfl ⟨rfl, ?_⟩
      exact (by repeat (first | exact Below.refl _ _ | refine Below.drew ?_ | refine Below.alloc ?_ (by simp <;> omega) _ | refine Below.setCell ?_ (by simp <;> omega) _))
    · obtain ⟨j, rfl⟩ := Int.eq_ofNat_of_zero_le (show 0 ≤ m by omega)
      by_cases hbig : (s.size : Int) - (k : Int) < (j : Int)
      · rw [tnV_no (by simp [tnOk]; omega)]
        go_enter Tryz.func114, Tryz.ntmps114
        go_wp2_with (go_at_call 102; refine (sCurOk_any s k _).mono ?_; rintro e w' ⟨rfl, rfl⟩)
        refine bodyPost_ret (v := .tuple #[.string ⟨#[]⟩, curZ, .bool false]) (by simp [results, Tryz.results114, go_sem, curZ]) rfl ⟨rfl, ?_⟩
        exact (by repeat (first | exact Below.refl _ _ | refine Below.drew ?_ | refine Below.alloc ?_ (by simp <;> omega) _ | refine Below.setCell ?_ (by simp <;> omega) _))
      · rw [tnV_yes (by omega)]
        have e1 : IntKind.i64.wrap ((k : Int) + (j : Int)) = (k : Int) + (j : Int) := by rw [IntKind.wrap_i64]; omega
        have hkj : k ≤ k + j := by omega
        have hkj2 : k + j ≤ s.size := by omega
        go_enter Tryz.func114, Tryz.ntmps114
        go_wp2_with (go_at_call 102; refine (sCurOk_any s k _).mono ?_; rintro e w' ⟨rfl, rfl⟩)
        go_region
        go_wp2
        refine bodyPost_ret (v := .tuple #[.string (s.extract k (k + j)), .agg #[.string s, .int .i64 ((k : Int) + j)], .bool true]) (by simp [results, Tryz.results114, go_sem]) rfl ⟨rfl, ?_⟩
        exact (by repeat (first | exact Below.refl _ _ | refine Below.drew ?_ | refine Below.alloc ?_ (by simp <;> omega) _ | refine Below.setCell ?_ (by simp <;> omega) _))
end Go.Proofs.YtodandipfjamnaaGreatDoor
namespace Go.Proofs.YtodandipfjamnaaGreatDoor
set_option linter.unusedVariables false
set_option linter.unusedSimpArgs false
open Go.RowKit
/-- A line of a chunked body may be taken. -/
def lnQ (s : ByteArray) (k : Nat) : Bool := decide (tlC s k = 0) && decide (tlE s k - k ≤ 300)
theorem lnQ_iff {s : ByteArray} {k : Nat} : lnQ s k = true ↔ tlC s k = 0 ∧ tlE s k - k ≤ 300 := by unfold lnQ; simp
/-- What stands ahead of the first ';'. -/
def uptoS (s : ByteArray) : ByteArray := if idxS s = -1 then s else s.extract 0 (idxS s).toNat
theorem uptoS_none {s : ByteArray} (h : idxS s = -1) : uptoS s = s := by unfold uptoS; rw [if_pos h]
theorem uptoS_some {s : ByteArray} {i : Nat} (h : idxS s = (i : Int)) : uptoS s = s.extract 0 i := by
  unfold uptoS; rw [if_neg (by omega), h, Int.toNat_natCast]
theorem uptoS_size (s : ByteArray) : (uptoS s).size ≤ s.size := by
  unfold uptoS
  split
  · exact Nat.le_refl _
  · rw [ByteArray.size_extract]; omega
/-- Where the lines behind the last chunk end. -/
def trE (s : ByteArray) : Nat → Nat → Option Nat
  | 0, _ => none
  | n + 1, k => if lnQ s k = true then (if tlE s k = k then some (k + 2) else if readO (lineAt s k) = true then trE s n (tlE s k + 2) else none) else none
/-- So many bytes stand at p, and CRLF behind them. -/
def datQ (s : ByteArray) (p z : Nat) : Bool := decide (p + z + 2 ≤ s.size) && eqB (s.extract (p + z) (p + z + 2)) ⟨#[13, 10]⟩
def ckR (s : ByteArray) : Nat → Nat → ByteArray → Except Int ByteArray
  | 0, _, _ => .error 400
  | n + 1, k, body =>
    if lnQ s k = false then .error 400
    else if rhexOk (uptoS (lineAt s k)) = false then .error 400
    else if 600 < (body.size : Int) + rhexN (uptoS (lineAt s k)) then .error 413
    else if rhexN (uptoS (lineAt s k)) = 0 then (if trE s 21 (tlE s k + 2) = some s.size then .ok body else .error 400)
    else if datQ s (tlE s k + 2) (rhexN (uptoS (lineAt s k))).toNat = true then ckR s n (tlE s k + 2 + (rhexN (uptoS (lineAt s k))).toNat + 2) (body ++ s.extract (tlE s k + 2) (tlE s k + 2 + (rhexN (uptoS (lineAt s k))).toNat))
    else .error 400
def ckX (s : ByteArray) : Except Int ByteArray := ckR s 601 0 ⟨#[]⟩
def exB : Except Int ByteArray → ByteArray
  | .ok b => b
  | .error _ => ⟨#[]⟩
def exC {α : Type} : Except Int α → Int
  | .ok _ => 0
  | .error c => c
theorem ck_bad1 {s : ByteArray} {n k : Nat} {body : ByteArray} (h : lnQ s k = false) : ckR s (n + 1) k body = .error 400 := by
  rw [ckR, if_pos h]
theorem ck_bad2 {s : ByteArray} {n k : Nat} {body : ByteArray} (h0 : lnQ s k = true) (h : rhexOk (uptoS (lineAt s k)) = false) : ckR s (n + 1) k body = .error 400 := by
  rw [ckR, if_neg (by rw [h0]; simp), if_pos h]
theorem ck_bad3 {s : ByteArray} {n k : Nat} {body : ByteArray} (h0 : lnQ s k = true) (h1 : rhexOk (uptoS (lineAt s k)) = true) (h : 600 < (body.size : Int) + rhexN (uptoS (lineAt s k))) : ckR s (n + 1) k body = .error 413 := by
  rw [ckR, if_neg (by rw [h0]; simp), if_neg (by rw [h1]; simp), if_pos h]
theorem ck_end {s : ByteArray} {n k : Nat} {body : ByteArray} (h0 : lnQ s k = true) (h1 : rhexOk (uptoS (lineAt s k)) = true) (h2 : ¬ 600 < (body.size : Int) + rhexN (uptoS (lineAt s k))) (h : rhexN (uptoS (lineAt s k)) = 0) : ckR s (n + 1) k body = if trE s 21 (tlE s k + 2) = some s.size then .ok body else .error 400 := by
  rw [ckR, if_neg (by rw [h0]; simp), if_neg (by rw [h1]; simp), if_neg h2, if_pos h]
theorem ck_bad4 {s : ByteArray} {n k z : Nat} {body : ByteArray} (h0 : lnQ s k = true) (h1 : rhexOk (uptoS (lineAt s k)) = true) (h2 : ¬ 600 < (body.size : Int) + rhexN (uptoS (lineAt s k))) (hz : rhexN (uptoS (lineAt s k)) = (z : Int)) (h3 : z ≠ 0) (h : datQ s (tlE s k + 2) z = false) : ckR s (n + 1) k body = .error 400 := by
  rw [ckR, if_neg (by rw [h0]; simp), if_neg (by rw [h1]; simp), if_neg h2, if_neg (by rw [hz]; omega), hz, Int.toNat_natCast, if_neg (by rw [h]; simp)]
theorem ck_next {s : ByteArray} {n k z : Nat} {body : ByteArray} (h0 : lnQ s k = true) (h1 : rhexOk (uptoS (lineAt s k)) = true) (h2 : ¬ 600 < (body.size : Int) + rhexN (uptoS (lineAt s k))) (hz : rhexN (uptoS (lineAt s k)) = (z : Int)) (h3 : z ≠ 0) (h : datQ s (tlE s k + 2) z = true) : ckR s (n + 1) k body = ckR s n (tlE s k + 2 + z + 2) (body ++ s.extract (tlE s k + 2) (tlE s k + 2 + z)) := by
  rw [ckR, if_neg (by rw [h0]; simp), if_neg (by rw [h1]; simp), if_neg h2, if_neg (by rw [hz]; omega), hz, Int.toNat_natCast, if_pos h]
theorem trE_bad {s : ByteArray} {n k : Nat} (h : lnQ s k = false) : trE s (n + 1) k = none := by rw [trE, if_neg (by rw [h]; simp)]
theorem trE_end {s : ByteArray} {n k : Nat} (h : lnQ s k = true) (h1 : tlE s k = k) : trE s (n + 1) k = some (k + 2) := by rw [trE, if_pos h, if_pos h1]
theorem trE_no {s : ByteArray} {n k : Nat} (h : lnQ s k = true) (h1 : tlE s k ≠ k) (h2 : readO (lineAt s k) = false) : trE s (n + 1) k = none := by rw [trE, if_pos h, if_neg h1, if_neg (by rw [h2]; simp)]
theorem trE_next {s : ByteArray} {n k : Nat} (h : lnQ s k = true) (h1 : tlE s k ≠ k) (h2 : readO (lineAt s k) = true) : trE s (n + 1) k = trE s n (tlE s k + 2) := by rw [trE, if_pos h, if_neg h1, if_pos h2]
theorem lnQ_no {s : ByteArray} {k : Nat} (h : tlC s k ≠ 0) : lnQ s k = false := by unfold lnQ; simp [h]
theorem rhexN_bd (s : ByteArray) : 0 ≤ rhexN s ∧ rhexN s ≤ 268435455 := by
  unfold rhexN
  split
  · rename_i h
    unfold rhexOk at h
    rw [Bool.and_eq_true, Bool.and_eq_true, decide_eq_true_eq, decide_eq_true_eq] at h
    have h1 := hval_bd _ h.2
    have h2 : s.data.toList.length ≤ 7 := by rw [len_data]; exact h.1.2
    have h3 : (16 : Int) ^ s.data.toList.length ≤ 16 ^ 7 := by
      have : (16 : Nat) ^ s.data.toList.length ≤ 16 ^ 7 := Nat.pow_le_pow_right (by decide) h2
      exact_mod_cast this
    have h4 : (16 : Int) ^ 7 = 268435456 := by decide
    omega
  · omega
end Go.Proofs.YtodandipfjamnaaGreatDoor
namespace Go.Proofs.YtodandipfjamnaaGreatDoor
set_option linter.unusedVariables false
set_option linter.unusedSimpArgs false
open Go.RowKit
def contX (h : Fl) : Except Int (List Fd × Nat) → Except Int (Fl × List Fd × Nat)
  | .error c => .error c
  | .ok (fs, m) => .ok (h, fs, m)
theorem hdZ_some {answer : Bool} {s : ByteArray} {x : Fl} (h : flX answer (lineAt s 0) = some x) : hdZ answer s = contX x (lnR s 21 (tlE s 0 + 2) []) := by
  cases hl : lnR s 21 (tlE s 0 + 2) [] with
  | error c => exact hdZ_bad h hl
  | ok y => obtain ⟨fs, m⟩ := y; exact hdZ_ok h hl
theorem hdX_bad {answer : Bool} {s : ByteArray} (h1 : ¬ 4000 < s.size) (h2 : hlC s 0 ≠ 0) : hdX answer s = .error (hlC s 0) := by unfold hdX; rw [if_neg h1, if_pos h2]
/-- How many fields a message holds that lies at g. -/
def fldN (g : Nat) (w : World) : Nat :=
  match w.cell? ⟨g, 5, none⟩ with
  | some (.slice _ n _) => n
  | _ => 0
def fstN (v : Value) : Nat :=
  match v with
  | .bool true => 22
  | _ => 0
/-- A line of a head has a code: 400 or 431. -/
theorem hlC_431 {s : ByteArray} {k : Nat} (h : tlC s k = 0) (h2 : hlC s k ≠ 0) : hlC s k = 431 ∧ (300 < tlE s k - k ∨ 1500 < tlE s k + 2) := by
  unfold hlC at *
  rw [if_pos h] at *
  split at h2
  · rename_i h3; rw [if_pos h3]; exact ⟨rfl, h3⟩
  · exact absurd rfl h2
set_option maxRecDepth 100000 in
set_option maxHeartbeats 16000000 in
theorem sReadHead_any (s : ByteArray) (answer : Bool) (w : World) (hs : s.size ≤ 1048576) :
    Calls Tryz.prog 42 #[.string s, .bool answer] w fun e w' => ∃ v, e = .returned (.tuple #[mgV (hdM (hdX answer s)) v, .int .i64 (hdN (hdX answer s) : Int), .int .i64 (exC (hdX answer s))]) ∧ BufF w w' v (hdM (hdX answer s)).fs := by
  by_cases h1 : (4000 : Int) < (s.size : Int)
  · have hX : hdX answer s = .error 413 := by unfold hdX; rw [if_pos (by omega)]
    rw [hX]
    go_enter Tryz.func42, Tryz.ntmps42
    go_wp2
    refine bodyPost_ret (results_cellTT rfl _ _ _ rfl (Blk.new _ _ _) Tryz.underlying24 Tryz.infoMsg) rfl ⟨.slice none 0 0, ?_, ?_⟩
    · rfl
    · exact (BufF.start w).later (below_a1 _ _)
  · have d1 : decide ((4000 : Int) < (s.size : Int)) = false := decide_eq_false h1
    have HSM : Hid (s.size ≤ maxLen) := by show _ ≤ _; unfold maxLen; omega
    have HXB := hideB2 (fun h => hdX_bad (answer := answer) (s := s) (by omega) h)
    have HXG := hideB2 (fun h => hdX_go (answer := answer) (s := s) (by omega) h)
    generalize hdX answer s = X at *
    have o0_0 : Blk (w.alloc (.cells #[.string ⟨#[]⟩, .string ⟨#[]⟩, .int .i64 0, .string ⟨#[]⟩, .bool false, .slice none 0 0, .string ⟨#[]⟩] 24)) w.heap.size #[.string ⟨#[]⟩, .string ⟨#[]⟩, .int .i64 0, .string ⟨#[]⟩, .bool false, .slice none 0 0, .string ⟨#[]⟩] 24 := Blk.new w _ _
    have b1 := below_a1 w (.cells #[.string ⟨#[]⟩, .string ⟨#[]⟩, .int .i64 0, .string ⟨#[]⟩, .bool false, .slice none 0 0, .string ⟨#[]⟩] 24)
    generalize hW1 : w.alloc (.cells #[.string ⟨#[]⟩, .string ⟨#[]⟩, .int .i64 0, .string ⟨#[]⟩, .bool false, .slice none 0 0, .string ⟨#[]⟩] 24) = W1 at *
    have n1 : W1.heap.size = w.heap.size + 1 := by rw [← hW1]; simp
    have o1_1 : Blk (W1.alloc (.cells #[.string ⟨#[]⟩, .string ⟨#[]⟩, .int .i64 0, .string ⟨#[]⟩, .bool false, .slice none 0 0, .string ⟨#[]⟩] 24)) (w.heap.size + 1) #[.string ⟨#[]⟩, .string ⟨#[]⟩, .int .i64 0, .string ⟨#[]⟩, .bool false, .slice none 0 0, .string ⟨#[]⟩] 24 := by rw [← n1]; exact Blk.new W1 _ _
    have o0_1 := o0_0.alloc (.cells #[.string ⟨#[]⟩, .string ⟨#[]⟩, .int .i64 0, .string ⟨#[]⟩, .bool false, .slice none 0 0, .string ⟨#[]⟩] 24)
    have b2 := below_then b1 (below_a1 W1 (.cells #[.string ⟨#[]⟩, .string ⟨#[]⟩, .int .i64 0, .string ⟨#[]⟩, .bool false, .slice none 0 0, .string ⟨#[]⟩] 24))
    generalize hW2 : W1.alloc (.cells #[.string ⟨#[]⟩, .string ⟨#[]⟩, .int .i64 0, .string ⟨#[]⟩, .bool false, .slice none 0 0, .string ⟨#[]⟩] 24) = W2 at *
    have n2 : W2.heap.size = w.heap.size + 1 + 1 := by rw [← hW2]; simp [n1]
    have o2_2 : Blk (W2.alloc (.cells #[.string s, .int .i64 0] 88)) (w.heap.size + 1 + 1) #[.string s, .int .i64 0] 88 := by rw [← n2]; exact Blk.new W2 _ _
    have o1_2 := o1_1.alloc (.cells #[.string s, .int .i64 0] 88)
    have o0_2 := o0_1.alloc (.cells #[.string s, .int .i64 0] 88)
    have b3 := below_then b2 (below_a1 W2 (.cells #[.string s, .int .i64 0] 88))
    have n3 : (W2.alloc (.cells #[.string s, .int .i64 0] 88)).heap.size = w.heap.size + 1 + 1 + 1 := by simp [n2]
    have HA3 := hideB2 o0_2
    have HM3 := hideB2 o1_2
    have HC3 := hideB2 o2_2
    have HB3 := hideB2 b3
    have HN3 := hideB2 n3
    subst hW2
    subst hW1
    clear o0_0 o0_1 o0_2 o1_1 o1_2 o2_2 b1 b2 b3 n1 n2 n3
    go_enter Tryz.func42, Tryz.ntmps42
    go_wp2
    generalize hW : World.alloc _ (.cells #[.string s, .int .i64 0] 88) = W3 at *
    clear hW
    have hl1 : w.heap.size < w.heap.size + 1 := by omega
    have hl2 : w.heap.size + 1 < w.heap.size + 1 + 1 := by omega
    have hl3 : w.heap.size + 1 + 1 < w.heap.size + 1 + 1 + 1 := by omega
    generalize hGB : w.heap.size + 1 + 1 + 1 = GB at *
    generalize hG2 : w.heap.size + 1 + 1 = G2 at *
    generalize hG1 : w.heap.size + 1 = G1 at *
    clear hGB hG2 hG1
    go_loopw [9] (fun f wr => ∃ (first : Bool) (k : Nat) (a b : ByteArray) (n : Int) (r : ByteArray) (acc : List Fd) (v : Value), f = .bool first ∧ k ≤ s.size ∧ acc.length ≤ 20 ∧ Hid (first = false → contX (a, b, n, r) (lnR s (21 - acc.length) k acc) = X) ∧ Hid (first = true → k = 0 ∧ a = ⟨#[]⟩ ∧ b = ⟨#[]⟩ ∧ n = 0 ∧ r = ⟨#[]⟩ ∧ acc = [] ∧ v = .slice none 0 0) ∧ Blk wr w.heap.size #[.string ⟨#[]⟩, .string ⟨#[]⟩, .int .i64 0, .string ⟨#[]⟩, .bool false, .slice none 0 0, .string ⟨#[]⟩] 24 ∧ Blk wr G2 #[.string s, .int .i64 (k : Int)] 88 ∧ Blk wr G1 #[.string a, .string b, .int .i64 n, .string r, .bool false, v, .string ⟨#[]⟩] 24 ∧ OwF GB wr v acc ∧ Below w.heap.size w wr) (fun f wr => fstN f + (21 - fldN G1 wr))
    case atStart => exact ⟨true, 0, ⟨#[]⟩, ⟨#[]⟩, 0, ⟨#[]⟩, [], .slice none 0 0, rfl, Nat.zero_le _, Nat.zero_le _, (fun h => by cases h), (fun _ => ⟨rfl, rfl, rfl, rfl, rfl, rfl, rfl⟩), HA3.out, HC3.out, HM3.out, OwF.start (by rw [HN3.out]; exact Nat.le_refl _), HB3.out⟩
    case round =>
      obtain ⟨first, k, a, b, n, r, acc, v, rfl, hk, hacc, hy, hf, ha, hc, hm, hown, hbw⟩ := hrel
      clear HA3 HC3 HM3 HB3 HN3
      have HXK : Hid (hlC s k ≠ 0 → X = .error (hlC s k)) := by
        show _ → _
        intro h
        cases first
        · have h2 := hy.out rfl
          rw [show 21 - acc.length = (20 - acc.length) + 1 by omega, lnR_bad h] at h2
          exact h2.symm
        · have h2 := (hf.out rfl).1
          subst h2
          exact HXB.out h
      obtain ⟨va, vc, rfl⟩ := hown.form
      obtain ⟨c0, c1⟩ := hc.c2
      have HA := hideB2 ha
      have HCc := hideB2 hc
      have HM := hideB2 hm
      have HMR := HM
      have HOw := hideB2 hown
      have HBw := hideB2 hbw
      clear ha hc hm hown hbw
      by_cases htc : tlC s k = 0
      · have HT : Hid (∀ W, Calls Tryz.prog 66 #[.agg #[.string s, .int .i64 (k : Int)]] W fun e w' => e = .returned (.tuple #[.string (lineAt s k), .agg #[.string s, .int .i64 ((tlE s k : Int) + 2)], .int .i64 0]) ∧ Below W.heap.size W w') := by
          show ∀ W, _
          intro W
          have := sTakeLine_ok s k W HSM.out hk
          rw [tlV_ok htc] at this
          exact this
        have hE := tlE_ok hk htc
        have hz2 := lineAt_size (s := s) (k := k) hk
        have hn := lenE_nil2 hk
        have hge := tlE_ge s k
        rw [show (tlE s k : Int) + 2 = ((tlE s k + 2 : Nat) : Int) by omega] at HT
        by_cases h0 : hlC s k = 0
        · have hlen := hlC_zero h0
          have d300 : decide ((300 : Int) < ((lineAt s k).size : Int)) = false := decide_eq_false (by omega)
          have d1500 : decide ((1500 : Int) < ((tlE s k + 2 : Nat) : Int)) = false := decide_eq_false (by omega)
          have HLZ : Hid ((lineAt s k).size ≤ 1048576) := by show _ ≤ _; omega
          have HFN := hideB2 (fun h1 h2 => lnR_full (n := 20 - acc.length) (acc := acc) h0 h1 h2)
          have HFE := hideB2 (fun h1 => lnR_end (n := 20 - acc.length) (acc := acc) h0 h1)
          have HFB := hideB2 (fun h1 h2 h3 => lnR_no (n := 20 - acc.length) (acc := acc) h0 h1 h2 h3)
          have HFO := hideB2 (fun h1 h2 h3 => lnR_next (n := 20 - acc.length) (acc := acc) h0 h1 h2 h3)
          have HN21 := hideB2 (show 21 - acc.length = (20 - acc.length) + 1 by omega)
          cases first
          · have HY := hideB2 (hy.out rfl)
            clear hy hf HXK HXB HXG
            by_cases he : tlE s k = k
            · obtain rfl : X = .ok ((a, b, n, r), acc, k + 2) := by rw [← HY.out, HN21.out, HFE.out he]; rfl
              rw [decide_eq_true he] at hn
              rw [he] at HT d1500
              clear HFN HFE HFB HFO HY he hE hge hz2 hlen h0 htc
              generalize lineAt s k = L at *
              generalize hK : k + 2 = K2 at *
              go_wp2_with fail
              refine (HT.out _).mono ?_
              rintro e w4 ⟨rfl, hb4⟩
              have C4 := HCc.out.later hb4
              have M4 := HM.out.later hb4
              have A4 := HA.out.later hb4
              have hlc := C4.lt
              obtain ⟨x0, x1⟩ := C4.c2
              have y0 := C4.free 0
              have y1 := C4.free 1
              have M5 := (M4.oth2 (g := G2) (by omega) (.string s) (.int .i64 (K2 : Int))).alloc (.cells #[.string s, .int .i64 (K2 : Int)] 88)
              have A5 := (A4.oth2 (g := G2) (by omega) (.string s) (.int .i64 (K2 : Int))).alloc (.cells #[.string s, .int .i64 (K2 : Int)] 88)
              have C5 := (C4.set2 (.string s) (.int .i64 (K2 : Int))).alloc (.cells #[.string s, .int .i64 (K2 : Int)] 88)
              have O5 := ((((HOw.out.later hb4).set (g := G2) (by omega) 0 (.string s)).set (g := G2) (by omega) 1 (.int .i64 (K2 : Int)))).alloc (.cells #[.string s, .int .i64 (K2 : Int)] 88)
              have hbw5 := below_then (below_set2 (g := G2) (below_then HBw.out hb4) (by omega) (.string s) (.int .i64 (K2 : Int))) (below_a1 _ (.cells #[.string s, .int .i64 (K2 : Int)] 88))
              obtain ⟨m0, m1, m2, m3, m4, m5, m6⟩ := M5.c7
              obtain ⟨a0, a1, a2, a3, a4, a5, a6⟩ := A5.c7
              obtain ⟨f0, f1, f2, f3, f4, f5, f6⟩ := A5.f7
              have cu1 := C5.c2.2
              have HA5 := hideB2 A5
              have HM5 := hideB2 M5
              have HC5 := hideB2 C5
              have HO5 := hideB2 O5
              have HBW5 := hideB2 hbw5
              clear C4 M4 A4 A5 C5 M5 O5 hbw5 c0 c1
              go_wp2
              generalize hW5 : World.alloc _ (.cells #[.string s, .int .i64 (K2 : Int)] 88) = W5 at *
              clear hW5
              clear d1 d300 d1500 hn x0 x1 y0 y1 HT HA HCc HM HOw HBw HN21
              have hG0 : w.heap.size < GB := by omega
              go_big_region
              go_wp2
              try rw [Exit.noGoto_ret]
              have hA7 := hideB2 (HA5.out.set7 (.string a) (.string b) (.int .i64 n) (.string r) (.bool false) (.slice va acc.length vc) (.string ⟨#[]⟩)).drew
              have hO7 := hideB2 (((HO5.out.set7 hG0 (.string a) (.string b) (.int .i64 n) (.string r) (.bool false) (.slice va acc.length vc) (.string ⟨#[]⟩)).drew).buf (w0 := w) (Nat.le_of_lt hG0) (below_set7 HBW5.out (Nat.le_refl _) (.string a) (.string b) (.int .i64 n) (.string r) (.bool false) (.slice va acc.length vc) (.string ⟨#[]⟩)).drew)
              refine bodyPost_ret (results_cellTT rfl _ _ _ rfl hA7.out Tryz.underlying24 Tryz.infoMsg) rfl ⟨.slice va acc.length vc, ?_, hO7.out⟩
              subst hK
              rfl
            · rw [decide_eq_false he] at hn
              have hf20 := acc.length
              by_cases hful : acc.length = 20
              · obtain rfl : X = .error 431 := by rw [← HY.out, HN21.out, HFN.out he hful]; rfl
                have hfull : ((acc.length : Int) == 20) = true := by rw [hful]; rfl
                clear HFN HFE HFB HFO HY he hE hge hz2 hlen h0 htc
                generalize tlE s k + 2 = K2 at *
                generalize lineAt s k = L at *
                go_wp2_with fail
                refine (HT.out _).mono ?_
                rintro e w4 ⟨rfl, hb4⟩
                have C4 := HCc.out.later hb4
                have M4 := HM.out.later hb4
                have A4 := HA.out.later hb4
                have hlc := C4.lt
                obtain ⟨x0, x1⟩ := C4.c2
                have y0 := C4.free 0
                have y1 := C4.free 1
                have M5 := (M4.oth2 (g := G2) (by omega) (.string s) (.int .i64 (K2 : Int))).alloc (.cells #[.string s, .int .i64 (K2 : Int)] 88)
                have A5 := (A4.oth2 (g := G2) (by omega) (.string s) (.int .i64 (K2 : Int))).alloc (.cells #[.string s, .int .i64 (K2 : Int)] 88)
                have C5 := (C4.set2 (.string s) (.int .i64 (K2 : Int))).alloc (.cells #[.string s, .int .i64 (K2 : Int)] 88)
                have O5 := ((((HOw.out.later hb4).set (g := G2) (by omega) 0 (.string s)).set (g := G2) (by omega) 1 (.int .i64 (K2 : Int)))).alloc (.cells #[.string s, .int .i64 (K2 : Int)] 88)
                have hbw5 := below_then (below_set2 (g := G2) (below_then HBw.out hb4) (by omega) (.string s) (.int .i64 (K2 : Int))) (below_a1 _ (.cells #[.string s, .int .i64 (K2 : Int)] 88))
                obtain ⟨m0, m1, m2, m3, m4, m5, m6⟩ := M5.c7
                obtain ⟨a0, a1, a2, a3, a4, a5, a6⟩ := A5.c7
                obtain ⟨f0, f1, f2, f3, f4, f5, f6⟩ := A5.f7
                have cu1 := C5.c2.2
                have HA5 := hideB2 A5
                have HM5 := hideB2 M5
                have HC5 := hideB2 C5
                have HO5 := hideB2 O5
                have HBW5 := hideB2 hbw5
                clear C4 M4 A4 A5 C5 M5 O5 hbw5 c0 c1
                go_wp2
                refine bodyPost_ret (results_cellTT rfl _ _ _ rfl (HA5.out.set7 (.string ⟨#[]⟩) (.string ⟨#[]⟩) (.int .i64 0) (.string ⟨#[]⟩) (.bool false) (.slice none 0 0) (.string ⟨#[]⟩)) Tryz.underlying24 Tryz.infoMsg) rfl ⟨.slice none 0 0, ?_, ?_⟩
                · rfl
                · exact (BufF.start w).later (below_set7 HBW5.out (Nat.le_refl _) (.string ⟨#[]⟩) (.string ⟨#[]⟩) (.int .i64 0) (.string ⟨#[]⟩) (.bool false) (.slice none 0 0) (.string ⟨#[]⟩))
              · have hfull : ((acc.length : Int) == 20) = false := by simp; omega
                have HRF := hideB2 (fun W => sReadField_any (lineAt s k) W (by have := HLZ.out; unfold maxLen; omega))
                cases hro : readO (lineAt s k)
                · obtain rfl : X = .error 400 := by rw [← HY.out, HN21.out, HFB.out he hful hro]; rfl
                  rw [hro] at HRF
                  clear HFN HFE HFB HFO HY he hE hge hz2 hlen h0 htc hro
                  generalize readF (lineAt s k) = f at *
                  obtain ⟨d, t⟩ := f
                  simp only at HRF
                  generalize tlE s k + 2 = K2 at *
                  generalize lineAt s k = L at *
                  go_wp2_with fail
                  refine (HT.out _).mono ?_
                  rintro e w4 ⟨rfl, hb4⟩
                  have C4 := HCc.out.later hb4
                  have M4 := HM.out.later hb4
                  have A4 := HA.out.later hb4
                  have hlc := C4.lt
                  obtain ⟨x0, x1⟩ := C4.c2
                  have y0 := C4.free 0
                  have y1 := C4.free 1
                  have M5 := (M4.oth2 (g := G2) (by omega) (.string s) (.int .i64 (K2 : Int))).alloc (.cells #[.string s, .int .i64 (K2 : Int)] 88)
                  have A5 := (A4.oth2 (g := G2) (by omega) (.string s) (.int .i64 (K2 : Int))).alloc (.cells #[.string s, .int .i64 (K2 : Int)] 88)
                  have C5 := (C4.set2 (.string s) (.int .i64 (K2 : Int))).alloc (.cells #[.string s, .int .i64 (K2 : Int)] 88)
                  have O5 := ((((HOw.out.later hb4).set (g := G2) (by omega) 0 (.string s)).set (g := G2) (by omega) 1 (.int .i64 (K2 : Int)))).alloc (.cells #[.string s, .int .i64 (K2 : Int)] 88)
                  have hbw5 := below_then (below_set2 (g := G2) (below_then HBw.out hb4) (by omega) (.string s) (.int .i64 (K2 : Int))) (below_a1 _ (.cells #[.string s, .int .i64 (K2 : Int)] 88))
                  obtain ⟨m0, m1, m2, m3, m4, m5, m6⟩ := M5.c7
                  obtain ⟨a0, a1, a2, a3, a4, a5, a6⟩ := A5.c7
                  obtain ⟨f0, f1, f2, f3, f4, f5, f6⟩ := A5.f7
                  have cu1 := C5.c2.2
                  have HA5 := hideB2 A5
                  have HM5 := hideB2 M5
                  have HC5 := hideB2 C5
                  have HO5 := hideB2 O5
                  have HBW5 := hideB2 hbw5
                  clear C4 M4 A4 A5 C5 M5 O5 hbw5 c0 c1
                  go_wp2_with fail
                  refine (HRF.out _).mono ?_
                  rintro e w6 ⟨rfl, hb6⟩
                  have A6 := HA5.out.later hb6
                  have hlt6 := A6.lt
                  clear a0 a1 a2 a3 a4 a5 a6 f0 f1 f2 f3 f4 f5 f6
                  obtain ⟨a0, a1, a2, a3, a4, a5, a6⟩ := A6.c7
                  obtain ⟨f0, f1, f2, f3, f4, f5, f6⟩ := A6.f7
                  have HA7 := hideB2 ((A6.set7 (.string ⟨#[]⟩) (.string ⟨#[]⟩) (.int .i64 0) (.string ⟨#[]⟩) (.bool false) (.slice none 0 0) (.string ⟨#[]⟩)).alloc (.cells #[.string d, .string t] 75))
                  have HB7 := hideB2 (below_then (below_set7 (below_then HBW5.out hb6) (Nat.le_refl _) (.string ⟨#[]⟩) (.string ⟨#[]⟩) (.int .i64 0) (.string ⟨#[]⟩) (.bool false) (.slice none 0 0) (.string ⟨#[]⟩)) (below_a1 _ (.cells #[.string d, .string t] 75)))
                  clear A6
                  go_wp2
                  refine bodyPost_ret (results_cellTT rfl _ _ _ rfl HA7.out Tryz.underlying24 Tryz.infoMsg) rfl ⟨.slice none 0 0, ?_, ?_⟩
                  · rfl
                  · exact (BufF.start w).later HB7.out
                · have HY3 : Hid (contX (a, b, n, r) (lnR s (20 - acc.length) (tlE s k + 2) (acc ++ [readF (lineAt s k)])) = X) := by
                    show _ = _
                    rw [← HY.out, HN21.out, HFO.out he hful hro]
                  rw [hro] at HRF
                  clear HFN HFE HFB HFO HY he hge hz2 hlen h0 htc hro
                  generalize readF (lineAt s k) = f at *
                  obtain ⟨d, t⟩ := f
                  simp only at HRF
                  generalize tlE s k + 2 = K2 at *
                  generalize lineAt s k = L at *
                  go_wp2_with fail
                  refine (HT.out _).mono ?_
                  rintro e w4 ⟨rfl, hb4⟩
                  have C4 := HCc.out.later hb4
                  have M4 := HM.out.later hb4
                  have A4 := HA.out.later hb4
                  have hlc := C4.lt
                  obtain ⟨x0, x1⟩ := C4.c2
                  have y0 := C4.free 0
                  have y1 := C4.free 1
                  have M5 := (M4.oth2 (g := G2) (by omega) (.string s) (.int .i64 (K2 : Int))).alloc (.cells #[.string s, .int .i64 (K2 : Int)] 88)
                  have A5 := (A4.oth2 (g := G2) (by omega) (.string s) (.int .i64 (K2 : Int))).alloc (.cells #[.string s, .int .i64 (K2 : Int)] 88)
                  have C5 := (C4.set2 (.string s) (.int .i64 (K2 : Int))).alloc (.cells #[.string s, .int .i64 (K2 : Int)] 88)
                  have O5 := ((((HOw.out.later hb4).set (g := G2) (by omega) 0 (.string s)).set (g := G2) (by omega) 1 (.int .i64 (K2 : Int)))).alloc (.cells #[.string s, .int .i64 (K2 : Int)] 88)
                  have hbw5 := below_then (below_set2 (g := G2) (below_then HBw.out hb4) (by omega) (.string s) (.int .i64 (K2 : Int))) (below_a1 _ (.cells #[.string s, .int .i64 (K2 : Int)] 88))
                  obtain ⟨m0, m1, m2, m3, m4, m5, m6⟩ := M5.c7
                  obtain ⟨a0, a1, a2, a3, a4, a5, a6⟩ := A5.c7
                  obtain ⟨f0, f1, f2, f3, f4, f5, f6⟩ := A5.f7
                  have cu1 := C5.c2.2
                  have HA5 := hideB2 A5
                  have HM5 := hideB2 M5
                  have HC5 := hideB2 C5
                  have HO5 := hideB2 O5
                  have HBW5 := hideB2 hbw5
                  clear C4 M4 A4 A5 C5 M5 O5 hbw5 c0 c1
                  go_wp2_with fail
                  refine (HRF.out _).mono ?_
                  rintro e w6 ⟨rfl, hb6⟩
                  have hlg1 : G1 < GB := by omega
                  have M6 := HM5.out.later hb6
                  have hlt6 := M6.lt
                  have HW6 := hideB2 ((below_then HBW5.out hb6))
                  have HM6 := hideB2 M6
                  have HO6 := hideB2 ((HO5.out.later hb6).alloc (.cells #[.string d, .string t] 75))
                  have HA6 := hideB2 (HA5.out.later hb6)
                  have HC6 := hideB2 (HC5.out.later hb6)
                  clear a0 a1 a2 a3 a4 a5 a6 f0 f1 f2 f3 f4 f5 f6 m0 m1 m2 m3 m4 m5 m6
                  have m5 := M6.c7.2.2.2.2.2.1
                  clear M6
                  go_wp2_with (at_builtin; refine wp_fapp2 rfl (.tmp 75) (.tmp 77) rfl (.slice va acc.length vc) acc rfl HO6.out d t (w6.heap.size + 1) (by simp) rfl (by omega) ?_; intro v7 W7 hbuf7 hbl7 hkp7; obtain ⟨va7, vc7, rfl⟩ := hbuf7.form; have hm7 := hbl7.block G1 hlg1; have HM7 := hideB2 (show Blk W7 G1 #[.string a, .string b, .int .i64 n, .string r, .bool false, .slice va acc.length vc, .string ⟨#[]⟩] 24 from hm7.trans (HM6.out.alloc _)); have hcell7 := HM7.out.c7.2.2.2.2.2.1; have hfree7 := HM7.out.free 5; clear hkp7)
                  have hm9 : Blk (W7.setCell ⟨G1, 5, none⟩ (.slice va7 (acc.length + 1) vc7)) G1 #[.string a, .string b, .int .i64 n, .string r, .bool false, .slice va7 (acc.length + 1) vc7, .string ⟨#[]⟩] 24 := HM7.out.set 5 _
                  have ha7 : Blk W7 w.heap.size #[.string ⟨#[]⟩, .string ⟨#[]⟩, .int .i64 0, .string ⟨#[]⟩, .bool false, .slice none 0 0, .string ⟨#[]⟩] 24 := (hbl7.block w.heap.size (by omega)).trans (HA6.out.alloc _)
                  have hc7 : Blk W7 G2 #[.string s, .int .i64 (K2 : Int)] 88 := (hbl7.block G2 (by omega)).trans (HC6.out.alloc _)
                  have hw7 : Below w.heap.size w W7 := (HW6.out.alloc HW6.out.size (.cells #[.string d, .string t] 75)).trans (hbl7.mono (by omega))
                  rw [List.length_append, List.length_singleton] at hbuf7
                  refine ⟨⟨false, K2, a, b, n, r, acc ++ [(d, t)], .slice va7 (acc.length + 1) vc7, rfl, hE, by rw [List.length_append, List.length_singleton]; omega, ?_, (fun h => by cases h), ha7.other (by omega) 5 _, hc7.other (by omega) 5 _, hm9, hbuf7.set hlg1 5 _, hw7.setCell (p := ⟨G1, 5, none⟩) (show w.heap.size ≤ G1 by omega) _⟩, ?_⟩
                  · intro _
                    rw [List.length_append, List.length_singleton, show 21 - (acc.length + 1) = 20 - acc.length by omega]; exact HY3.out
                  · have e9 : fldN G1 (W7.setCell ⟨G1, 5, none⟩ (.slice va7 (acc.length + 1) vc7)) = acc.length + 1 := by unfold fldN; rw [hm9.c7.2.2.2.2.2.1]
                    have e5 : fldN G1 wr = acc.length := by unfold fldN; rw [HMR.out.c7.2.2.2.2.2.1]
                    rw [e9, e5]; simp only [fstN]; omega
          · obtain ⟨rfl, rfl, rfl, rfl, rfl, rfl, hv⟩ := hf.out rfl
            have HZ := hideB2 (HXG.out h0)
            clear hy hf HXK HXB HXG HFN HFE HFB HFO hn
            injection hv with hv1 hv2 hv3
            subst hv1 hv3
            cases answer
            · have HFL : Hid (∀ W, Calls Tryz.prog 68 #[.string (lineAt s 0)] W fun e w' => fsPost (flX false (lineAt s 0)) e ∧ Below W.heap.size W w') := fun W => l6first_any (lineAt s 0) W HLZ.out
              have HFNN : Hid (flX false (lineAt s 0) = none → X = .error 400) := fun h => HZ.out.trans (hdZ_none h)
              have HFSS : Hid (∀ x, flX false (lineAt s 0) = some x → contX x (lnR s 21 (tlE s 0 + 2) []) = X) := fun x h => (HZ.out.trans (hdZ_some h)).symm
              clear HZ hge hz2 hlen h0 htc HN21
              generalize flX false (lineAt s 0) = F at *
              generalize tlE s 0 + 2 = K2 at *
              generalize lineAt s 0 = L at *
              cases F with
              | none =>
                obtain rfl : X = .error 400 := HFNN.out rfl
                clear HFNN HFSS
                go_wp2_with fail
                refine (HT.out _).mono ?_
                rintro e w4 ⟨rfl, hb4⟩
                have C4 := HCc.out.later hb4
                have M4 := HM.out.later hb4
                have A4 := HA.out.later hb4
                have hlc := C4.lt
                obtain ⟨x0, x1⟩ := C4.c2
                have y0 := C4.free 0
                have y1 := C4.free 1
                have M5 := (M4.oth2 (g := G2) (by omega) (.string s) (.int .i64 (K2 : Int))).alloc (.cells #[.string s, .int .i64 (K2 : Int)] 88)
                have A5 := (A4.oth2 (g := G2) (by omega) (.string s) (.int .i64 (K2 : Int))).alloc (.cells #[.string s, .int .i64 (K2 : Int)] 88)
                have C5 := (C4.set2 (.string s) (.int .i64 (K2 : Int))).alloc (.cells #[.string s, .int .i64 (K2 : Int)] 88)
                have O5 := ((((HOw.out.later hb4).set (g := G2) (by omega) 0 (.string s)).set (g := G2) (by omega) 1 (.int .i64 (K2 : Int)))).alloc (.cells #[.string s, .int .i64 (K2 : Int)] 88)
                have hbw5 := below_then (below_set2 (g := G2) (below_then HBw.out hb4) (by omega) (.string s) (.int .i64 (K2 : Int))) (below_a1 _ (.cells #[.string s, .int .i64 (K2 : Int)] 88))
                obtain ⟨m0, m1, m2, m3, m4, m5, m6⟩ := M5.c7
                obtain ⟨a0, a1, a2, a3, a4, a5, a6⟩ := A5.c7
                obtain ⟨f0, f1, f2, f3, f4, f5, f6⟩ := A5.f7
                have cu1 := C5.c2.2
                have HA5 := hideB2 A5
                have HM5 := hideB2 M5
                have HC5 := hideB2 C5
                have HO5 := hideB2 O5
                have HBW5 := hideB2 hbw5
                clear C4 M4 A4 A5 C5 M5 O5 hbw5 c0 c1
                go_wp2_with fail
                refine (HFL.out _).mono ?_
                rintro e w6 ⟨⟨a, b, n, r, rfl, hx⟩, hb6⟩
                clear hx m0 m1 m2 m3 m4 m5 m6 a0 a1 a2 a3 a4 a5 a6 f0 f1 f2 f3 f4 f5 f6
                simp only [Option.isSome]
                have M6 := HM5.out.later hb6
                obtain ⟨m0, m1, m2, m3, m4, m5, m6⟩ := M6.c7
                obtain ⟨g0, g1, g2, g3, g4, g5, g6⟩ := M6.f7
                have A6 := (HA5.out.later hb6).oth7 (g := G1) (by omega) (.string a) (.string b) (.int .i64 n) (.string r) (.bool false) (.slice none 0 0) (.string ⟨#[]⟩)
                obtain ⟨a0, a1, a2, a3, a4, a5, a6⟩ := A6.c7
                obtain ⟨f0, f1, f2, f3, f4, f5, f6⟩ := A6.f7
                have HA7 := hideB2 (A6.set7 (.string ⟨#[]⟩) (.string ⟨#[]⟩) (.int .i64 0) (.string ⟨#[]⟩) (.bool false) (.slice none 0 0) (.string ⟨#[]⟩))
                have HB7 := hideB2 (below_set7 (below_set7 (below_then HBW5.out hb6) (show w.heap.size ≤ G1 by omega) (.string a) (.string b) (.int .i64 n) (.string r) (.bool false) (.slice none 0 0) (.string ⟨#[]⟩)) (Nat.le_refl _) (.string ⟨#[]⟩) (.string ⟨#[]⟩) (.int .i64 0) (.string ⟨#[]⟩) (.bool false) (.slice none 0 0) (.string ⟨#[]⟩))
                clear A6 M6
                go_wp2
                refine bodyPost_ret (results_cellTT rfl _ _ _ rfl HA7.out Tryz.underlying24 Tryz.infoMsg) rfl ⟨.slice none 0 0, ?_, ?_⟩
                · rfl
                · exact (BufF.start w).later HB7.out
              | some x =>
                have HCX := hideB2 (HFSS.out x rfl)
                clear HFNN HFSS
                go_wp2_with fail
                refine (HT.out _).mono ?_
                rintro e w4 ⟨rfl, hb4⟩
                have C4 := HCc.out.later hb4
                have M4 := HM.out.later hb4
                have A4 := HA.out.later hb4
                have hlc := C4.lt
                obtain ⟨x0, x1⟩ := C4.c2
                have y0 := C4.free 0
                have y1 := C4.free 1
                have M5 := (M4.oth2 (g := G2) (by omega) (.string s) (.int .i64 (K2 : Int))).alloc (.cells #[.string s, .int .i64 (K2 : Int)] 88)
                have A5 := (A4.oth2 (g := G2) (by omega) (.string s) (.int .i64 (K2 : Int))).alloc (.cells #[.string s, .int .i64 (K2 : Int)] 88)
                have C5 := (C4.set2 (.string s) (.int .i64 (K2 : Int))).alloc (.cells #[.string s, .int .i64 (K2 : Int)] 88)
                have O5 := ((((HOw.out.later hb4).set (g := G2) (by omega) 0 (.string s)).set (g := G2) (by omega) 1 (.int .i64 (K2 : Int)))).alloc (.cells #[.string s, .int .i64 (K2 : Int)] 88)
                have hbw5 := below_then (below_set2 (g := G2) (below_then HBw.out hb4) (by omega) (.string s) (.int .i64 (K2 : Int))) (below_a1 _ (.cells #[.string s, .int .i64 (K2 : Int)] 88))
                obtain ⟨m0, m1, m2, m3, m4, m5, m6⟩ := M5.c7
                obtain ⟨a0, a1, a2, a3, a4, a5, a6⟩ := A5.c7
                obtain ⟨f0, f1, f2, f3, f4, f5, f6⟩ := A5.f7
                have cu1 := C5.c2.2
                have HA5 := hideB2 A5
                have HM5 := hideB2 M5
                have HC5 := hideB2 C5
                have HO5 := hideB2 O5
                have HBW5 := hideB2 hbw5
                clear C4 M4 A4 A5 C5 M5 O5 hbw5 c0 c1
                go_wp2_with fail
                refine (HFL.out _).mono ?_
                rintro e w6 ⟨⟨a, b, n, r, rfl, hx⟩, hb6⟩
                obtain rfl := hx x rfl
                clear hx m0 m1 m2 m3 m4 m5 m6 a0 a1 a2 a3 a4 a5 a6 f0 f1 f2 f3 f4 f5 f6
                simp only [Option.isSome]
                have M6 := HM5.out.later hb6
                obtain ⟨m0, m1, m2, m3, m4, m5, m6⟩ := M6.c7
                obtain ⟨g0, g1, g2, g3, g4, g5, g6⟩ := M6.f7
                have HM7 := hideB2 (M6.set7 (.string a) (.string b) (.int .i64 n) (.string r) (.bool false) (.slice none 0 0) (.string ⟨#[]⟩))
                have HA7 := hideB2 ((HA5.out.later hb6).oth7 (g := G1) (by omega) (.string a) (.string b) (.int .i64 n) (.string r) (.bool false) (.slice none 0 0) (.string ⟨#[]⟩))
                have HC7 := hideB2 ((HC5.out.later hb6).oth7 (g := G1) (by omega) (.string a) (.string b) (.int .i64 n) (.string r) (.bool false) (.slice none 0 0) (.string ⟨#[]⟩))
                have HO7 := hideB2 ((HO5.out.later hb6).set7 (g := G1) (by omega) (.string a) (.string b) (.int .i64 n) (.string r) (.bool false) (.slice none 0 0) (.string ⟨#[]⟩))
                have HB7 := hideB2 (below_set7 (below_then HBW5.out hb6) (show w.heap.size ≤ G1 by omega) (.string a) (.string b) (.int .i64 n) (.string r) (.bool false) (.slice none 0 0) (.string ⟨#[]⟩))
                clear M6
                go_wp2
                refine ⟨⟨false, K2, a, b, n, r, [], .slice none 0 0, rfl, hE, Nat.zero_le _, (fun _ => HCX.out), (fun h => by cases h), HA7.out, HC7.out, HM7.out, HO7.out, HB7.out⟩, ?_⟩
                simp only [fstN]; omega
            · have HFL : Hid (∀ W, Calls Tryz.prog 67 #[.string (lineAt s 0)] W fun e w' => fsPost (flX true (lineAt s 0)) e ∧ Below W.heap.size W w') := fun W => l6status_any (lineAt s 0) W HLZ.out
              have HFNN : Hid (flX true (lineAt s 0) = none → X = .error 400) := fun h => HZ.out.trans (hdZ_none h)
              have HFSS : Hid (∀ x, flX true (lineAt s 0) = some x → contX x (lnR s 21 (tlE s 0 + 2) []) = X) := fun x h => (HZ.out.trans (hdZ_some h)).symm
              clear HZ hge hz2 hlen h0 htc HN21
              generalize flX true (lineAt s 0) = F at *
              generalize tlE s 0 + 2 = K2 at *
              generalize lineAt s 0 = L at *
              cases F with
              | none =>
                obtain rfl : X = .error 400 := HFNN.out rfl
                clear HFNN HFSS
                go_wp2_with fail
                refine (HT.out _).mono ?_
                rintro e w4 ⟨rfl, hb4⟩
                have C4 := HCc.out.later hb4
                have M4 := HM.out.later hb4
                have A4 := HA.out.later hb4
                have hlc := C4.lt
                obtain ⟨x0, x1⟩ := C4.c2
                have y0 := C4.free 0
                have y1 := C4.free 1
                have M5 := (M4.oth2 (g := G2) (by omega) (.string s) (.int .i64 (K2 : Int))).alloc (.cells #[.string s, .int .i64 (K2 : Int)] 88)
                have A5 := (A4.oth2 (g := G2) (by omega) (.string s) (.int .i64 (K2 : Int))).alloc (.cells #[.string s, .int .i64 (K2 : Int)] 88)
                have C5 := (C4.set2 (.string s) (.int .i64 (K2 : Int))).alloc (.cells #[.string s, .int .i64 (K2 : Int)] 88)
                have O5 := ((((HOw.out.later hb4).set (g := G2) (by omega) 0 (.string s)).set (g := G2) (by omega) 1 (.int .i64 (K2 : Int)))).alloc (.cells #[.string s, .int .i64 (K2 : Int)] 88)
                have hbw5 := below_then (below_set2 (g := G2) (below_then HBw.out hb4) (by omega) (.string s) (.int .i64 (K2 : Int))) (below_a1 _ (.cells #[.string s, .int .i64 (K2 : Int)] 88))
                obtain ⟨m0, m1, m2, m3, m4, m5, m6⟩ := M5.c7
                obtain ⟨a0, a1, a2, a3, a4, a5, a6⟩ := A5.c7
                obtain ⟨f0, f1, f2, f3, f4, f5, f6⟩ := A5.f7
                have cu1 := C5.c2.2
                have HA5 := hideB2 A5
                have HM5 := hideB2 M5
                have HC5 := hideB2 C5
                have HO5 := hideB2 O5
                have HBW5 := hideB2 hbw5
                clear C4 M4 A4 A5 C5 M5 O5 hbw5 c0 c1
                go_wp2_with fail
                refine (HFL.out _).mono ?_
                rintro e w6 ⟨⟨a, b, n, r, rfl, hx⟩, hb6⟩
                clear hx m0 m1 m2 m3 m4 m5 m6 a0 a1 a2 a3 a4 a5 a6 f0 f1 f2 f3 f4 f5 f6
                simp only [Option.isSome]
                have M6 := HM5.out.later hb6
                obtain ⟨m0, m1, m2, m3, m4, m5, m6⟩ := M6.c7
                obtain ⟨g0, g1, g2, g3, g4, g5, g6⟩ := M6.f7
                have A6 := (HA5.out.later hb6).oth7 (g := G1) (by omega) (.string a) (.string b) (.int .i64 n) (.string r) (.bool false) (.slice none 0 0) (.string ⟨#[]⟩)
                obtain ⟨a0, a1, a2, a3, a4, a5, a6⟩ := A6.c7
                obtain ⟨f0, f1, f2, f3, f4, f5, f6⟩ := A6.f7
                have HA7 := hideB2 (A6.set7 (.string ⟨#[]⟩) (.string ⟨#[]⟩) (.int .i64 0) (.string ⟨#[]⟩) (.bool false) (.slice none 0 0) (.string ⟨#[]⟩))
                have HB7 := hideB2 (below_set7 (below_set7 (below_then HBW5.out hb6) (show w.heap.size ≤ G1 by omega) (.string a) (.string b) (.int .i64 n) (.string r) (.bool false) (.slice none 0 0) (.string ⟨#[]⟩)) (Nat.le_refl _) (.string ⟨#[]⟩) (.string ⟨#[]⟩) (.int .i64 0) (.string ⟨#[]⟩) (.bool false) (.slice none 0 0) (.string ⟨#[]⟩))
                clear A6 M6
                go_wp2
                refine bodyPost_ret (results_cellTT rfl _ _ _ rfl HA7.out Tryz.underlying24 Tryz.infoMsg) rfl ⟨.slice none 0 0, ?_, ?_⟩
                · rfl
                · exact (BufF.start w).later HB7.out
              | some x =>
                have HCX := hideB2 (HFSS.out x rfl)
                clear HFNN HFSS
                go_wp2_with fail
                refine (HT.out _).mono ?_
                rintro e w4 ⟨rfl, hb4⟩
                have C4 := HCc.out.later hb4
                have M4 := HM.out.later hb4
                have A4 := HA.out.later hb4
                have hlc := C4.lt
                obtain ⟨x0, x1⟩ := C4.c2
                have y0 := C4.free 0
                have y1 := C4.free 1
                have M5 := (M4.oth2 (g := G2) (by omega) (.string s) (.int .i64 (K2 : Int))).alloc (.cells #[.string s, .int .i64 (K2 : Int)] 88)
                have A5 := (A4.oth2 (g := G2) (by omega) (.string s) (.int .i64 (K2 : Int))).alloc (.cells #[.string s, .int .i64 (K2 : Int)] 88)
                have C5 := (C4.set2 (.string s) (.int .i64 (K2 : Int))).alloc (.cells #[.string s, .int .i64 (K2 : Int)] 88)
                have O5 := ((((HOw.out.later hb4).set (g := G2) (by omega) 0 (.string s)).set (g := G2) (by omega) 1 (.int .i64 (K2 : Int)))).alloc (.cells #[.string s, .int .i64 (K2 : Int)] 88)
                have hbw5 := below_then (below_set2 (g := G2) (below_then HBw.out hb4) (by omega) (.string s) (.int .i64 (K2 : Int))) (below_a1 _ (.cells #[.string s, .int .i64 (K2 : Int)] 88))
                obtain ⟨m0, m1, m2, m3, m4, m5, m6⟩ := M5.c7
                obtain ⟨a0, a1, a2, a3, a4, a5, a6⟩ := A5.c7
                obtain ⟨f0, f1, f2, f3, f4, f5, f6⟩ := A5.f7
                have cu1 := C5.c2.2
                have HA5 := hideB2 A5
                have HM5 := hideB2 M5
                have HC5 := hideB2 C5
                have HO5 := hideB2 O5
                have HBW5 := hideB2 hbw5
                clear C4 M4 A4 A5 C5 M5 O5 hbw5 c0 c1
                go_wp2_with fail
                refine (HFL.out _).mono ?_
                rintro e w6 ⟨⟨a, b, n, r, rfl, hx⟩, hb6⟩
                obtain rfl := hx x rfl
                clear hx m0 m1 m2 m3 m4 m5 m6 a0 a1 a2 a3 a4 a5 a6 f0 f1 f2 f3 f4 f5 f6
                simp only [Option.isSome]
                have M6 := HM5.out.later hb6
                obtain ⟨m0, m1, m2, m3, m4, m5, m6⟩ := M6.c7
                obtain ⟨g0, g1, g2, g3, g4, g5, g6⟩ := M6.f7
                have HM7 := hideB2 (M6.set7 (.string a) (.string b) (.int .i64 n) (.string r) (.bool false) (.slice none 0 0) (.string ⟨#[]⟩))
                have HA7 := hideB2 ((HA5.out.later hb6).oth7 (g := G1) (by omega) (.string a) (.string b) (.int .i64 n) (.string r) (.bool false) (.slice none 0 0) (.string ⟨#[]⟩))
                have HC7 := hideB2 ((HC5.out.later hb6).oth7 (g := G1) (by omega) (.string a) (.string b) (.int .i64 n) (.string r) (.bool false) (.slice none 0 0) (.string ⟨#[]⟩))
                have HO7 := hideB2 ((HO5.out.later hb6).set7 (g := G1) (by omega) (.string a) (.string b) (.int .i64 n) (.string r) (.bool false) (.slice none 0 0) (.string ⟨#[]⟩))
                have HB7 := hideB2 (below_set7 (below_then HBW5.out hb6) (show w.heap.size ≤ G1 by omega) (.string a) (.string b) (.int .i64 n) (.string r) (.bool false) (.slice none 0 0) (.string ⟨#[]⟩))
                clear M6
                go_wp2
                refine ⟨⟨false, K2, a, b, n, r, [], .slice none 0 0, rfl, hE, Nat.zero_le _, (fun _ => HCX.out), (fun h => by cases h), HA7.out, HC7.out, HM7.out, HO7.out, HB7.out⟩, ?_⟩
                simp only [fstN]; omega
        · obtain ⟨h4, h5⟩ := hlC_431 htc h0
          obtain rfl : X = .error 431 := by rw [HXK.out h0, h4]
          clear hy hf HXK HXB HXG hn
          by_cases h3 : 300 < tlE s k - k
          · have h3i : (300 : Int) < ((lineAt s k).size : Int) := by omega
            clear h5 hE hge hz2 h0 htc h3 h4
            generalize tlE s k + 2 = K2 at *
            generalize lineAt s k = L at *
            go_wp2_with fail
            refine (HT.out _).mono ?_
            rintro e w4 ⟨rfl, hb4⟩
            have C4 := HCc.out.later hb4
            have M4 := HM.out.later hb4
            have A4 := HA.out.later hb4
            have hlc := C4.lt
            obtain ⟨x0, x1⟩ := C4.c2
            have y0 := C4.free 0
            have y1 := C4.free 1
            have M5 := (M4.oth2 (g := G2) (by omega) (.string s) (.int .i64 (K2 : Int))).alloc (.cells #[.string s, .int .i64 (K2 : Int)] 88)
            have A5 := (A4.oth2 (g := G2) (by omega) (.string s) (.int .i64 (K2 : Int))).alloc (.cells #[.string s, .int .i64 (K2 : Int)] 88)
            have C5 := (C4.set2 (.string s) (.int .i64 (K2 : Int))).alloc (.cells #[.string s, .int .i64 (K2 : Int)] 88)
            have O5 := ((((HOw.out.later hb4).set (g := G2) (by omega) 0 (.string s)).set (g := G2) (by omega) 1 (.int .i64 (K2 : Int)))).alloc (.cells #[.string s, .int .i64 (K2 : Int)] 88)
            have hbw5 := below_then (below_set2 (g := G2) (below_then HBw.out hb4) (by omega) (.string s) (.int .i64 (K2 : Int))) (below_a1 _ (.cells #[.string s, .int .i64 (K2 : Int)] 88))
            obtain ⟨m0, m1, m2, m3, m4, m5, m6⟩ := M5.c7
            obtain ⟨a0, a1, a2, a3, a4, a5, a6⟩ := A5.c7
            obtain ⟨f0, f1, f2, f3, f4, f5, f6⟩ := A5.f7
            have cu1 := C5.c2.2
            have HA5 := hideB2 A5
            have HM5 := hideB2 M5
            have HC5 := hideB2 C5
            have HO5 := hideB2 O5
            have HBW5 := hideB2 hbw5
            clear C4 M4 A4 A5 C5 M5 O5 hbw5 c0 c1
            go_wp2
            refine bodyPost_ret (results_cellTT rfl _ _ _ rfl (HA5.out.set7 (.string ⟨#[]⟩) (.string ⟨#[]⟩) (.int .i64 0) (.string ⟨#[]⟩) (.bool false) (.slice none 0 0) (.string ⟨#[]⟩)) Tryz.underlying24 Tryz.infoMsg) rfl ⟨.slice none 0 0, ?_, ?_⟩
            · rfl
            · exact (BufF.start w).later (below_set7 HBW5.out (Nat.le_refl _) (.string ⟨#[]⟩) (.string ⟨#[]⟩) (.int .i64 0) (.string ⟨#[]⟩) (.bool false) (.slice none 0 0) (.string ⟨#[]⟩))
          · have d300 : decide ((300 : Int) < ((lineAt s k).size : Int)) = false := decide_eq_false (by omega)
            have h15 : (1500 : Int) < ((tlE s k + 2 : Nat) : Int) := by omega
            clear h5 hE hge hz2 h0 htc h3 h4
            generalize tlE s k + 2 = K2 at *
            generalize lineAt s k = L at *
            go_wp2_with fail
            refine (HT.out _).mono ?_
            rintro e w4 ⟨rfl, hb4⟩
            have C4 := HCc.out.later hb4
            have M4 := HM.out.later hb4
            have A4 := HA.out.later hb4
            have hlc := C4.lt
            obtain ⟨x0, x1⟩ := C4.c2
            have y0 := C4.free 0
            have y1 := C4.free 1
            have M5 := (M4.oth2 (g := G2) (by omega) (.string s) (.int .i64 (K2 : Int))).alloc (.cells #[.string s, .int .i64 (K2 : Int)] 88)
            have A5 := (A4.oth2 (g := G2) (by omega) (.string s) (.int .i64 (K2 : Int))).alloc (.cells #[.string s, .int .i64 (K2 : Int)] 88)
            have C5 := (C4.set2 (.string s) (.int .i64 (K2 : Int))).alloc (.cells #[.string s, .int .i64 (K2 : Int)] 88)
            have O5 := ((((HOw.out.later hb4).set (g := G2) (by omega) 0 (.string s)).set (g := G2) (by omega) 1 (.int .i64 (K2 : Int)))).alloc (.cells #[.string s, .int .i64 (K2 : Int)] 88)
            have hbw5 := below_then (below_set2 (g := G2) (below_then HBw.out hb4) (by omega) (.string s) (.int .i64 (K2 : Int))) (below_a1 _ (.cells #[.string s, .int .i64 (K2 : Int)] 88))
            obtain ⟨m0, m1, m2, m3, m4, m5, m6⟩ := M5.c7
            obtain ⟨a0, a1, a2, a3, a4, a5, a6⟩ := A5.c7
            obtain ⟨f0, f1, f2, f3, f4, f5, f6⟩ := A5.f7
            have cu1 := C5.c2.2
            have HA5 := hideB2 A5
            have HM5 := hideB2 M5
            have HC5 := hideB2 C5
            have HO5 := hideB2 O5
            have HBW5 := hideB2 hbw5
            clear C4 M4 A4 A5 C5 M5 O5 hbw5 c0 c1
            go_wp2
            refine bodyPost_ret (results_cellTT rfl _ _ _ rfl (HA5.out.set7 (.string ⟨#[]⟩) (.string ⟨#[]⟩) (.int .i64 0) (.string ⟨#[]⟩) (.bool false) (.slice none 0 0) (.string ⟨#[]⟩)) Tryz.underlying24 Tryz.infoMsg) rfl ⟨.slice none 0 0, ?_, ?_⟩
            · rfl
            · exact (BufF.start w).later (below_set7 HBW5.out (Nat.le_refl _) (.string ⟨#[]⟩) (.string ⟨#[]⟩) (.int .i64 0) (.string ⟨#[]⟩) (.bool false) (.slice none 0 0) (.string ⟨#[]⟩))
      · obtain ⟨c, hc0, hcv⟩ := tlV_not htc
        have HT := hideB2 (fun W => sTakeLine_ok s k W HSM.out hk)
        rw [hcv] at HT
        obtain rfl : X = .error 400 := by rw [HXK.out (by rw [hlC_bad htc]; decide), hlC_bad htc]
        clear hy hf HXK HXB HXG htc hcv
        unfold curZ at HT
        go_wp2_with fail
        refine (HT.out _).mono ?_
        rintro e w4 ⟨rfl, hb4⟩
        have hal := below_a1 w4 (.cells #[.string ⟨#[]⟩, .int .i64 0] 88)
        have A4 := (HA.out.later hb4).alloc (.cells #[.string ⟨#[]⟩, .int .i64 0] 88)
        have hbw5 := below_then (below_then HBw.out hb4) hal
        obtain ⟨a0, a1, a2, a3, a4, a5, a6⟩ := A4.c7
        obtain ⟨f0, f1, f2, f3, f4, f5, f6⟩ := A4.f7
        have HA5 := hideB2 A4
        have HBW5 := hideB2 hbw5
        go_wp2
        refine bodyPost_ret (results_cellTT rfl _ _ _ rfl (HA5.out.set7 (.string ⟨#[]⟩) (.string ⟨#[]⟩) (.int .i64 0) (.string ⟨#[]⟩) (.bool false) (.slice none 0 0) (.string ⟨#[]⟩)) Tryz.underlying24 Tryz.infoMsg) rfl ⟨.slice none 0 0, ?_, ?_⟩
        · rfl
        · exact (BufF.start w).later (below_set7 HBW5.out (Nat.le_refl _) (.string ⟨#[]⟩) (.string ⟨#[]⟩) (.int .i64 0) (.string ⟨#[]⟩) (.bool false) (.slice none 0 0) (.string ⟨#[]⟩))
end Go.Proofs.YtodandipfjamnaaGreatDoor
namespace Go.Proofs
open Go.Shelf
def Tryz.lays221_ren : Go.Shelf.Ren := ⟨fun | 221 => 185 | 268 => 204 | 138 => 205 | 143 => 206 | 195 => 221 | 197 => 222 | 218 => 223 | 219 => 207 | 260 => 238 | 217 => 224 | 225 => 225 | 224 => 226 | 267 => 227 | 266 => 239 | 314 => 240 | n => n, fun | 9 => 9 | 3 => 3 | 31 => 97 | 4 => 4 | 0 => 0 | 105 => 167 | 21 => 21 | 5 => 5 | 46 => 159 | 119 => 195 | 139 => 198 | 138 => 197 | 146 => 182 | 51 => 181 | n => n, fun | 1 => 0 | 3 => 2 | 4 => 3 | n => n⟩
theorem Tryz.lays221 : Go.Proofs.Lays.n221 Tryz.prog Tryz.lays221_ren := {
  mixed := by kernel_rfl
  f138 := Tryz.func205.trans (congrArg some (by kernel_rfl))
  f143 := Tryz.func206.trans (congrArg some (by kernel_rfl))
  f195 := Tryz.func221.trans (congrArg some (by kernel_rfl))
  f197 := Tryz.func222.trans (congrArg some (by kernel_rfl))
  f217 := Tryz.func224.trans (congrArg some (by kernel_rfl))
  f218 := Tryz.func223.trans (congrArg some (by kernel_rfl))
  f219 := Tryz.func207.trans (congrArg some (by kernel_rfl))
  f221 := Tryz.func185.trans (congrArg some (by kernel_rfl))
  f224 := Tryz.func226.trans (congrArg some (by kernel_rfl))
  f225 := Tryz.func225.trans (congrArg some (by kernel_rfl))
  f260 := Tryz.func238.trans (congrArg some (by kernel_rfl))
  f266 := Tryz.func239.trans (congrArg some (by kernel_rfl))
  f267 := Tryz.func227.trans (congrArg some (by kernel_rfl))
  f268 := Tryz.func204.trans (congrArg some (by kernel_rfl))
  f314 := Tryz.func240.trans (congrArg some (by kernel_rfl))
  t0 := Tryz.underlying0
  a0 := Tryz.isAgg0
  z0 := Tryz.sizeOf0
  v0 := Tryz.zeroValue0
  t3 := Tryz.underlying3
  a3 := Tryz.isAgg3
  z3 := Tryz.sizeOf3
  v3 := Tryz.zeroValue3
  t4 := Tryz.underlying4
  a4 := Tryz.isAgg4
  z4 := Tryz.sizeOf4
  v4 := Tryz.zeroValue4
  t5 := Tryz.underlying5
  a5 := Tryz.isAgg5
  z5 := Tryz.sizeOf5
  v5 := Tryz.zeroValue5
  t9 := Tryz.underlying9
  a9 := Tryz.isAgg9
  z9 := Tryz.sizeOf9
  v9 := Tryz.zeroValue9
  t21 := Tryz.underlying21
  a21 := Tryz.isAgg21
  z21 := Tryz.sizeOf21
  v21 := Tryz.zeroValue21
  t31 := Tryz.underlying97
  a31 := Tryz.isAgg97
  z31 := Tryz.sizeOf97
  v31 := Tryz.zeroValue97
  t46 := Tryz.underlying159
  a46 := Tryz.isAgg159
  z46 := Tryz.sizeOf159
  v46 := Tryz.zeroValue159
  t51 := Tryz.underlying181
  a51 := Tryz.isAgg181
  z51 := Tryz.sizeOf181
  v51 := Tryz.zeroValue181
  t105 := Tryz.underlying167
  a105 := Tryz.isAgg167
  z105 := Tryz.sizeOf167
  v105 := Tryz.zeroValue167
  t119 := Tryz.underlying195
  a119 := Tryz.isAgg195
  z119 := Tryz.sizeOf195
  t138 := Tryz.underlying197
  a138 := Tryz.isAgg197
  z138 := Tryz.sizeOf197
  v138 := Tryz.zeroValue197
  t139 := Tryz.underlying198
  a139 := Tryz.isAgg198
  z139 := Tryz.sizeOf198
  v139 := Tryz.zeroValue198
  t146 := Tryz.underlying182
  a146 := Tryz.isAgg182
  z146 := Tryz.sizeOf182
  v146 := Tryz.zeroValue182
  g1 := by kernel_rfl
  g3 := by kernel_rfl
  g4 := by kernel_rfl }
end Go.Proofs
namespace Go.Proofs.YtodandipfjamnaaGreatDoor
set_option linter.unusedVariables false
set_option linter.unusedSimpArgs false
open Go.RowKit
def blB : ByteArray := ⟨#[32]⟩
theorem indexB_bl (s : ByteArray) : Lib.indexB s ⟨#[32]⟩ = Lib.indexByte s.data.toList 32 := by
  show Lib.index s.data.toList [32] = _
  exact Lib.index_one _ _
set_option maxRecDepth 100000 in
set_option maxHeartbeats 1000000 in
theorem Index1B_any (s : ByteArray) (w : World) :
    Calls Tryz.prog 207 #[.string s, .string ⟨#[32]⟩] w fun e w' => e = .returned (.int .i64 (Lib.indexByte s.data.toList 32)) ∧ w' = w := by
  cases h : eqB ⟨#[32]⟩ s
  · have h1 : (([32] : List UInt8) == s.toList) = false := by
      rw [show ([32] : List UInt8) = (⟨#[32]⟩ : ByteArray).toList by rw [ByteArray.toList_eq]]
      exact h
    have HI := hideB2 (fun W => IndexByte_any s 32 W)
    clear h
    go_enter Tryz.func207, Tryz.ntmps207
    go_wp2_with (go_at_call 224; refine (HI.out _).mono ?_; rintro e w' ⟨rfl, rfl⟩)
    go_ret
    exact ⟨rfl, rfl⟩
  · have h1 : (([32] : List UInt8) == s.toList) = true := by
      rw [show ([32] : List UInt8) = (⟨#[32]⟩ : ByteArray).toList by rw [ByteArray.toList_eq]]
      exact h
    have HE := hideB2 (show Lib.indexByte s.data.toList 32 = 0 by rw [← eqB_iff.1 h]; simp [Lib.indexByte])
    clear h
    go_enter Tryz.func207, Tryz.ntmps207
    go_wp2
    go_ret
    exact ⟨ret_int HE.out, rfl⟩
set_option maxRecDepth 100000 in
set_option maxHeartbeats 1000000 in
theorem IndexBl_any (s : ByteArray) (w : World) :
    Calls Tryz.prog 206 #[.string s, .string ⟨#[32]⟩] w fun e w' => e = .returned (.int .i64 (Lib.indexB s ⟨#[32]⟩)) ∧ w' = w := by
  have HI := hideB2 (fun W => Index1B_any s W)
  rw [← indexB_bl] at HI
  generalize Lib.indexB s ⟨#[32]⟩ = r at *
  go_enter Tryz.func206, Tryz.ntmps206
  go_wp2_with (go_at_call 207; refine (HI.out _).mono ?_; rintro e w' ⟨rfl, rfl⟩)
  go_ret
  exact ⟨rfl, rfl⟩
theorem CountBl_any (s : ByteArray) (w : World) :
    Calls Tryz.prog 205 #[.string s, .string ⟨#[32]⟩] w fun e w' => e = .returned (.int .i64 (Lib.countB s ⟨#[32]⟩)) ∧ w' = w := by
  refine (Any.strings_Count_one { Tryz.lays221 with } s 32 w).mono fun e w' ⟨he, hw⟩ => ⟨?_, hw⟩
  rw [he]
  show _ = Ending.returned (Value.int .i64 ((Lib.count s.data.toList [32] : Nat) : Int))
  rw [Lib.count_one]
  rfl
theorem genSplit_bl (s : ByteArray) (n : Int) (N : Nat) (w : World) (hs : s.size < 4294967281) (hn0 : n ≠ 0) (hn63 : n ≤ 9223372036854775807) (hN : (N : Int) = min (if n < 0 then (Lib.countB s ⟨#[32]⟩ : Int) + 1 else n) ((s.size : Int) + 1)) :
    Calls Tryz.prog 185 #[.string s, .string ⟨#[32]⟩, .int .i64 0, .int .i64 n] w fun e w' =>
      e = .returned (.slice (some ⟨w.heap.size, 0, none⟩) (Lib.splitB ⟨#[32]⟩ 0 (N - 1) s).length N) ∧ w' = w.alloc (.cells (Lib.cellsOf (Lib.splitB ⟨#[32]⟩ 0 (N - 1) s) N) 9) :=
  Any.strings_genSplit_core Tryz.lays221 (by kernel_rfl) s ⟨#[32]⟩ 0 n N w hs (Nat.le_refl _) (Nat.zero_le _) (fun x c _ => IndexBl_any x _) (CountBl_any s w) hn0 hn63 hN
set_option maxHeartbeats 1000000 in
theorem SplitBl_any (s : ByteArray) (w : World) (hs : s.size < 4294967281) :
    Calls Tryz.prog 160 #[.string s, .string ⟨#[32]⟩] w fun e w' =>
      e = .returned (.slice (some ⟨w.heap.size, 0, none⟩) (Lib.countB s ⟨#[32]⟩ + 1) (Lib.countB s ⟨#[32]⟩ + 1)) ∧ w' = w.alloc (.cells ((Lib.splitB ⟨#[32]⟩ 0 (Lib.countB s ⟨#[32]⟩) s).map Value.string).toArray 9) := by
  have h1 : 1 ≤ (⟨#[32]⟩ : ByteArray).size := Nat.le_refl _
  have hle := Lib.countB_le ⟨#[32]⟩ h1 s.size s (Nat.le_refl _)
  have hlen := Lib.splitB_all ⟨#[32]⟩ h1 0 _ s rfl
  have c := genSplit_bl s (-1) (Lib.countB s ⟨#[32]⟩ + 1) w hs (by decide) (by decide) (by rw [if_pos (by decide)]; omega)
  rw [Nat.add_sub_cancel, hlen] at c
  have e2 : Lib.cellsOf (Lib.splitB ⟨#[32]⟩ 0 (Lib.countB s ⟨#[32]⟩) s) (Lib.countB s ⟨#[32]⟩ + 1) = ((Lib.splitB ⟨#[32]⟩ 0 (Lib.countB s ⟨#[32]⟩) s).map Value.string).toArray := by rw [← hlen]; exact Lib.cellsOf_full _
  rw [e2] at c
  have HC := hideB2 c
  clear c e2 hlen
  generalize ((Lib.splitB ⟨#[32]⟩ 0 (Lib.countB s ⟨#[32]⟩) s).map Value.string).toArray = arr at *
  generalize Lib.countB s ⟨#[32]⟩ = cn at *
  go_enter Tryz.func160, Tryz.ntmps160
  go_wp2_with (go_at_call 185; refine HC.out.mono ?_; rintro e w' ⟨rfl, hw⟩; rw [hw])
  go_ret
  exact ⟨rfl, rfl⟩
set_option maxHeartbeats 1000000 in
theorem SplitNBl_any (s : ByteArray) (w : World) (hs : s.size < 4294967281) :
    Calls Tryz.prog 159 #[.string s, .string ⟨#[32]⟩, .int .i64 3] w fun e w' =>
      e = .returned (.slice (some ⟨w.heap.size, 0, none⟩) (Lib.splitB ⟨#[32]⟩ 0 (min 3 (s.size + 1) - 1) s).length (min 3 (s.size + 1))) ∧ w' = w.alloc (.cells (Lib.cellsOf (Lib.splitB ⟨#[32]⟩ 0 (min 3 (s.size + 1) - 1) s) (min 3 (s.size + 1))) 9) := by
  have c := genSplit_bl s 3 (min 3 (s.size + 1)) w hs (by decide) (by decide) (by rw [if_neg (by decide)]; omega)
  have HC := hideB2 c
  clear c
  generalize Lib.cellsOf (Lib.splitB ⟨#[32]⟩ 0 (min 3 (s.size + 1) - 1) s) (min 3 (s.size + 1)) = arr at *
  generalize (Lib.splitB ⟨#[32]⟩ 0 (min 3 (s.size + 1) - 1) s).length = ln at *
  generalize min 3 (s.size + 1) = mn at *
  go_enter Tryz.func159, Tryz.ntmps159
  go_wp2_with (go_at_call 185; refine HC.out.mono ?_; rintro e w' ⟨rfl, hw⟩; rw [hw])
  go_ret
  exact ⟨rfl, rfl⟩
end Go.Proofs.YtodandipfjamnaaGreatDoor
