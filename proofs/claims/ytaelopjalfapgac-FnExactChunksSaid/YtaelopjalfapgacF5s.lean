/-
  Chapter 6: a text cut at its first ';'.
-/
import Derived.Test.YtaelopjalfapgacF5
namespace Go.Proofs.Ytaelopjalfapgac
set_option linter.unusedVariables false
set_option linter.unusedSimpArgs false
open Go.RowKit
/-- Where the first ';' stands, or -1. -/
def idxS (s : ByteArray) : Int := Lib.indexByte s.data.toList 59
theorem idxS_some {s : ByteArray} {i : Nat} (h : idxS s = (i : Int)) : i < s.size ∧ at8 s i = 59 ∧ ∀ j, j < i → at8 s j ≠ 59 := by
  obtain ⟨h1, h2⟩ := Lib.indexByte_some h
  have hi : i < s.data.toList.length := (List.getElem?_eq_some_iff.1 h1).1
  rw [len_data] at hi
  refine ⟨hi, by unfold at8; rw [List.getD, h1]; rfl, fun j hj he => h2 j hj ?_⟩
  have hj' : j < s.data.toList.length := by rw [len_data]; omega
  unfold at8 at he
  rw [List.getD, List.getElem?_eq_getElem hj'] at he
  rw [List.getElem?_eq_getElem hj']
  simpa using he
theorem idxS_none {s : ByteArray} (h : idxS s = -1) : ∀ j, j < s.size → at8 s j ≠ 59 := by
  intro j hj he
  have hj' : j < s.data.toList.length := by rw [len_data]; omega
  refine Lib.indexByte_none h j ?_
  unfold at8 at he
  rw [List.getD, List.getElem?_eq_getElem hj'] at he
  rw [List.getElem?_eq_getElem hj']
  simpa using he
theorem idxS_cases (s : ByteArray) : idxS s = -1 ∨ ∃ i : Nat, idxS s = (i : Int) ∧ i < s.size := by
  have h := Lib.indexByte_ge s.data.toList 59
  by_cases h1 : idxS s = -1
  · exact .inl h1
  · right
    have h2 : -1 ≤ idxS s := h
    have h3 : idxS s = ((idxS s).toNat : Int) := by omega
    exact ⟨(idxS s).toNat, h3, (idxS_some h3).1⟩
theorem idxS_of {s : ByteArray} {i : Nat} (h1 : i < s.size) (h2 : at8 s i = 59) (h3 : ∀ j, j < i → at8 s j ≠ 59) : idxS s = (i : Int) := by
  rcases idxS_cases s with h | ⟨k, hk, _⟩
  · exact absurd h2 (idxS_none h i h1)
  · obtain ⟨g1, g2, g3⟩ := idxS_some hk
    rcases Nat.lt_trichotomy k i with h | h | h
    · exact absurd g2 (h3 k h)
    · rw [hk, h]
    · exact absurd h2 (g3 i h)
set_option maxRecDepth 100000 in
set_option maxHeartbeats 1000000 in
theorem Index1S_any (s : ByteArray) (w : World) :
    Calls Try.prog 63 #[.string s, .string ⟨#[59]⟩] w fun e w' => e = .returned (.int .i64 (idxS s)) ∧ w' = w := by
  cases h : eqB ⟨#[59]⟩ s
  · have h1 : (([59] : List UInt8) == s.toList) = false := by
      rw [show ([59] : List UInt8) = (⟨#[59]⟩ : ByteArray).toList by rw [ByteArray.toList_eq]]
      exact h
    have HI := hideB2 (fun W => IndexByte_any s 59 W)
    clear h
    go_enter Try.func63, Try.ntmps63
    go_wp2_with (go_at_call 69; refine (HI.out _).mono ?_; rintro e w' ⟨rfl, rfl⟩)
    go_ret
    exact ⟨rfl, rfl⟩
  · have h1 : (([59] : List UInt8) == s.toList) = true := by
      rw [show ([59] : List UInt8) = (⟨#[59]⟩ : ByteArray).toList by rw [ByteArray.toList_eq]]
      exact h
    have HE := hideB2 (show idxS s = 0 by rw [← eqB_iff.1 h]; unfold idxS; simp [Lib.indexByte])
    clear h
    go_enter Try.func63, Try.ntmps63
    go_wp2
    go_ret
    exact ⟨ret_int HE.out, rfl⟩
set_option maxHeartbeats 1000000 in
theorem Cut0S_none (s : ByteArray) (w : World) (hi : idxS s = -1) :
    Calls Try.prog 53 #[.string s, .string ⟨#[59]⟩] w fun e w' => e = .returned (.tuple #[.string s, .string ⟨#[]⟩, .bool false]) ∧ Below w.heap.size w w' := by
  have HI := hideB2 hi
  clear hi
  go_enter Try.func53, Try.ntmps53
  go_wp2_with (go_at_call 63; refine (Index1S_any _ _).mono ?_; rintro e w' ⟨rfl, rfl⟩; rw [HI.out])
  go_ret3
  exact ⟨rfl, Below.refl _ _⟩
set_option maxHeartbeats 1000000 in
theorem Cut0S_some (s : ByteArray) (i : Nat) (w : World) (hi : idxS s = (i : Int)) (hlt : i < s.size) (hs : s.size ≤ maxLen) :
    Calls Try.prog 53 #[.string s, .string ⟨#[59]⟩] w fun e w' => e = .returned (.tuple #[.string (s.extract 0 i), .string (s.extract (i + 1) s.size), .bool true]) ∧ Below w.heap.size w w' := by
  have HI := hideB2 hi
  unfold maxLen at hs
  clear hi
  have e1 : IntKind.i64.wrap ((i : Int) + 1) = (i : Int) + 1 := by rw [IntKind.wrap_i64]; omega
  have c0 : (0 : Int) ≤ (i : Int) := by omega
  have c1 : (i : Int) ≤ (s.size : Int) := by omega
  have c2 : (0 : Int) ≤ (i : Int) + 1 := by omega
  have c3 : (i : Int) + 1 ≤ (s.size : Int) := by omega
  go_enter Try.func53, Try.ntmps53
  go_wp2_with (go_at_call 63; refine (Index1S_any _ _).mono ?_; rintro e w' ⟨rfl, rfl⟩; rw [HI.out])
  go_region
  go_wp2
  go_ret3
  exact ⟨rfl, (Below.refl _ _).drew⟩
set_option maxHeartbeats 1000000 in
theorem CutS_none (s : ByteArray) (w : World) (hi : idxS s = -1) :
    Calls Try.prog 45 #[.string s, .string ⟨#[59]⟩] w fun e w' => e = .returned (.tuple #[.string s, .string ⟨#[]⟩, .bool false]) ∧ Below w.heap.size w w' := by
  have HC := hideB2 (fun W => Cut0S_none s W hi)
  clear hi
  go_enter Try.func45, Try.ntmps45
  go_wp2_with (go_at_call 53; refine (HC.out _).mono ?_; rintro e w' ⟨rfl, hb⟩)
  go_ret3
  exact ⟨rfl, hb⟩
set_option maxHeartbeats 1000000 in
theorem CutS_some (s : ByteArray) (i : Nat) (w : World) (hi : idxS s = (i : Int)) (hlt : i < s.size) (hs : s.size ≤ maxLen) :
    Calls Try.prog 45 #[.string s, .string ⟨#[59]⟩] w fun e w' => e = .returned (.tuple #[.string (s.extract 0 i), .string (s.extract (i + 1) s.size), .bool true]) ∧ Below w.heap.size w w' := by
  have HC := hideB2 (fun W => Cut0S_some s i W hi hlt hs)
  clear hi
  generalize s.extract 0 i = x at *
  generalize s.extract (i + 1) s.size = y at *
  go_enter Try.func45, Try.ntmps45
  go_wp2_with (go_at_call 53; refine (HC.out _).mono ?_; rintro e w' ⟨rfl, hb⟩)
  go_ret3
  exact ⟨rfl, hb⟩
end Go.Proofs.Ytaelopjalfapgac
