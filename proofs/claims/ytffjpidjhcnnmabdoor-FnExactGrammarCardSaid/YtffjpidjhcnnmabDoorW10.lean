/-
  The walks over chapter 1: a cursor's methods.
-/
import Derived.Test.YtffjpidjhcnnmabDoorW9
namespace Go.Proofs.YtffjpidjhcnnmabDoor
set_option linter.unusedVariables false
set_option linter.unusedSimpArgs false
open Go.RowKit

set_option maxHeartbeats 400000 in
theorem left_any (s : ByteArray) (k : Nat) (w : World) (hs : s.size ≤ maxLen) (hk : k ≤ s.size) :
    Calls Tryd.prog 7 #[.agg #[.string s, .int .i64 (k : Int)]] w fun e w' => e = .returned (.int .i64 ((s.size : Int) - k)) ∧ w' = w.alloc (.cells #[.string s, .int .i64 (k : Int)] 25) := by
  unfold maxLen at hs
  go_enter Tryd.func7, Tryd.ntmps7
  go_wp2
  go_ret
  exact ⟨rfl, rfl⟩
set_option maxHeartbeats 400000 in
theorem next_any (s : ByteArray) (k : Nat) (w : World) (hs : s.size ≤ maxLen) (hk : k < s.size) :
    Calls Tryd.prog 35 #[.agg #[.string s, .int .i64 (k : Int)]] w fun e w' => e = .returned (.int .u8 (s[k].toNat : Int)) ∧ w' = w.alloc (.cells #[.string s, .int .i64 (k : Int)] 25) := by
  unfold maxLen at hs
  go_enter Tryd.func35, Tryd.ntmps35
  go_wp2
  go_ret
  exact ⟨rfl, rfl⟩
set_option maxHeartbeats 400000 in
theorem part_any (s : ByteArray) (k m : Nat) (w : World) (hs : s.size ≤ maxLen) (hk : k + m ≤ s.size) :
    Calls Tryd.prog 36 #[.agg #[.string s, .int .i64 (k : Int)], .int .i64 (m : Int)] w fun e w' => e = .returned (.string (s.extract k (k + m))) ∧ w' = w.alloc (.cells #[.string s, .int .i64 (k : Int)] 25) := by
  unfold maxLen at hs
  have hk2 : k ≤ k + m := by omega
  go_enter Tryd.func36, Tryd.ntmps36
  go_wp2
  go_ret
  exact ⟨rfl, rfl⟩
set_option maxHeartbeats 400000 in
theorem behind_any (s : ByteArray) (k m : Nat) (w : World) (hs : s.size ≤ maxLen) (hk : k + m ≤ s.size) :
    Calls Tryd.prog 34 #[.agg #[.string s, .int .i64 (k : Int)], .int .i64 (m : Int)] w fun e w' => e = .returned (.agg #[.string s, .int .i64 ((k : Int) + m)]) ∧ Below w.heap.size w w' := by
  unfold maxLen at hs
  go_enter Tryd.func34, Tryd.ntmps34
  go_wp2
  exact bodyPost_ret (v := .agg #[.string s, .int .i64 ((k : Int) + m)]) (by simp [results, Tryd.results34, go_sem]) rfl ⟨rfl, (by repeat (first | exact Below.refl _ _ | refine Below.drew ?_ | refine Below.alloc ?_ (by simp <;> omega) _ | refine Below.setCell ?_ (by simp <;> omega) _))⟩
set_option maxHeartbeats 1000000 in
theorem beforeLineEnd_any (s : ByteArray) (k : Nat) (w : World) (hs : s.size ≤ maxLen) (hk : k ≤ s.size) :
    Calls Tryd.prog 33 #[.agg #[.string s, .int .i64 (k : Int)]] w fun e w' => e = .returned (.int .i64 (eolLen s k : Nat)) ∧ Below w.heap.size w w' := by
  have hs' := hs
  unfold maxLen at hs'
  go_enter Tryd.func33, Tryd.ntmps33
  go_wp2_with fail
  go_loopw [3] (fun i wr => ∃ m : Nat, k + m ≤ s.size ∧ i = .int .i64 (m : Int) ∧ wr.cell? ⟨w.heap.size, 0, none⟩ = some (.string s) ∧ wr.cell? ⟨w.heap.size, 1, none⟩ = some (.int .i64 (k : Int)) ∧ w.heap.size < wr.heap.size ∧ Below w.heap.size w wr ∧ ∀ j, j < m → eol8 (at8 s (k + j)) = false) (fun i _ => s.size - (intOf i).toNat)
  case atStart => exact ⟨0, by omega, rfl, by simp, by simp, by simp, (Below.refl _ _).alloc (Nat.le_refl _) _, fun j hj => by omega⟩
  case round =>
    obtain ⟨m, hkm, rfl, q0, q1, qz, hbel, hall⟩ := hrel
    have Hall : Hid (∀ j, j < m → eol8 (at8 s (k + j)) = false) := hall
    clear hall
    have hbel2 : Below w.heap.size w (wr.alloc (.cells #[.string s, .int .i64 (k : Int)] 25)) := hbel.alloc hbel.size _
    by_cases hlt : k + m < s.size
    · have hd : (m : Int) < (s.size : Int) - (k : Int) := by omega
      by_cases h13 : ((at8 s (k + m)).toNat : Int) = 13
      · have g13 : ((s[k + m].toNat : Int) != 13) = false := by rw [at8_eq s (k + m) hlt]; simpa using h13
        have hfin : Hid (eolLen s k = m) := eolLen_of s k m hkm Hall.out (Or.inr (eolP_iff.2 (Or.inl h13)))
        clear h13
        go_wp2_with (go_at_call 7; refine (left_any s k _ hs hk).mono ?_; rintro e w' ⟨rfl, rfl⟩)
        go_ret
        exact ⟨ret_int (by rw [hfin.out]), hbel2⟩
      · have g13 : ((s[k + m].toNat : Int) != 13) = true := by rw [at8_eq s (k + m) hlt]; simpa using h13
        by_cases h10 : ((at8 s (k + m)).toNat : Int) = 10
        · have g10 : ((s[k + m].toNat : Int) != 10) = false := by rw [at8_eq s (k + m) hlt]; simpa using h10
          have hfin : Hid (eolLen s k = m) := eolLen_of s k m hkm Hall.out (Or.inr (eolP_iff.2 (Or.inr h10)))
          clear h13 h10
          go_wp2_with (go_at_call 7; refine (left_any s k _ hs hk).mono ?_; rintro e w' ⟨rfl, rfl⟩)
          go_ret
          exact ⟨ret_int (by rw [hfin.out]), hbel2⟩
        · have g10 : ((s[k + m].toNat : Int) != 10) = true := by rw [at8_eq s (k + m) hlt]; simpa using h10
          have hnew : Hid (eol8 (at8 s (k + m)) = false) := eolP_no.2 ⟨h13, h10⟩
          have r0 : (wr.alloc (.cells #[.string s, .int .i64 (k : Int)] 25)).cell? ⟨w.heap.size, 0, none⟩ = some (.string s) := cell_later ((Below.refl _ wr).alloc (Nat.le_refl _) _) q0
          have r1 : (wr.alloc (.cells #[.string s, .int .i64 (k : Int)] 25)).cell? ⟨w.heap.size, 1, none⟩ = some (.int .i64 (k : Int)) := cell_later ((Below.refl _ wr).alloc (Nat.le_refl _) _) q1
          have R0 : Hid _ := r0
          have R1 : Hid _ := r1
          clear h13 h10 r0 r1
          go_wp2_with (go_at_call 7; refine (left_any s k _ hs hk).mono ?_; rintro e w' ⟨rfl, rfl⟩)
          go_roundw
          case rel => exact ⟨m + 1, by omega, by go_num, R0.out, R1.out, by simp; omega, hbel2, all_succ Hall.out hnew.out⟩
          case measure => simp [intOf]; omega
    · have hd : decide ((m : Int) < (s.size : Int) - (k : Int)) = false := by simp; omega
      have hfin : Hid (eolLen s k = m) := eolLen_of s k m hkm Hall.out (Or.inl (by omega))
      go_wp2_with (go_at_call 7; refine (left_any s k _ hs hk).mono ?_; rintro e w' ⟨rfl, rfl⟩)
      go_ret
      exact ⟨ret_int (by rw [hfin.out]), hbel2⟩
end Go.Proofs.YtffjpidjhcnnmabDoor
