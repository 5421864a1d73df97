/-
  The walks over chapter 2: small functions of the calendar.
-/
import Derived.Test.YtffjpidjhcnnmabDoorProg
import Derived.Test.YtffjpidjhcnnmabDoorM1
import Derived.Test.YtffjpidjhcnnmabDoorMC
import Derived.Test.YtffjpidjhcnnmabDoorB0
import Derived.Deep.QuietTactic
import Derived.BigQuiet
namespace Go.Proofs.YtffjpidjhcnnmabDoor
set_option linter.unusedVariables false
set_option linter.unusedSimpArgs false
open Go.RowKit

/-- The months' lengths, as the package-level table has them. -/
def mlen (k : Nat) : Int := [0, 31, 28, 31, 30, 31, 30, 31, 31, 30, 31, 30, 31].getD k 0
def MonTab (w : World) : Prop := ∀ k : Nat, k < 13 → w.cell? ⟨1, k, none⟩ = some (.int .i64 (mlen k))
theorem mlen_dim (y : Int) (k : Nat) (h0 : 1 ≤ k) (h1 : k ≤ 12) (h : k ≠ 2 ∨ leapB y = false) : mlen k = dim y k := by
  have : k = 1 ∨ k = 2 ∨ k = 3 ∨ k = 4 ∨ k = 5 ∨ k = 6 ∨ k = 7 ∨ k = 8 ∨ k = 9 ∨ k = 10 ∨ k = 11 ∨ k = 12 := by omega
  rcases this with rfl | rfl | rfl | rfl | rfl | rfl | rfl | rfl | rfl | rfl | rfl | rfl <;> simp [mlen, dim]
  rcases h with h | h
  · omega
  · rw [lp_neg h]; rfl
theorem dim_feb {y : Int} (h : leapB y = true) : dim y 2 = 29 := by simp [dim, lp_pos h]

set_option maxHeartbeats 400000 in
theorem leapYear_any (y : Int) (w : World) (h0 : 0 ≤ y) (h1 : y ≤ 10000) :
    Calls Tryd.prog 84 #[.int .i64 y] w fun e w' => e = .returned (.bool (leapB y)) ∧ w' = w := by
  by_cases h4 : y % 4 = 0
  · have b4 : (y % 4 == 0) = true := by rw [beq_iff_eq]; exact h4
    by_cases h100 : y % 100 = 0
    · have b100 : (y % 100 != 0) = false := by rw [bne_eq_false_iff_eq]; exact h100
      by_cases h400 : y % 400 = 0
      · have b400 : (y % 400 == 0) = true := by rw [beq_iff_eq]; exact h400
        rw [(leapB_iff y).2 ⟨h4, Or.inr h400⟩]
        clear h4 h100 h400
        go_enter Tryd.func84, Tryd.ntmps84
        go_wp2
        go_ret
        exact ⟨rfl, rfl⟩
      · have b400 : (y % 400 == 0) = false := by rw [beq_eq_false_iff_ne]; exact h400
        rw [show leapB y = false from Bool.eq_false_iff.2 fun h => by have := (leapB_iff y).1 h; omega]
        clear h4 h100 h400
        go_enter Tryd.func84, Tryd.ntmps84
        go_wp2
        go_ret
        exact ⟨rfl, rfl⟩
    · have b100 : (y % 100 != 0) = true := by rw [bne_iff_ne]; exact h100
      rw [(leapB_iff y).2 ⟨h4, Or.inl h100⟩]
      clear h4 h100
      go_enter Tryd.func84, Tryd.ntmps84
      go_wp2
      go_ret
      exact ⟨rfl, rfl⟩
  · have b4 : (y % 4 == 0) = false := by rw [beq_eq_false_iff_ne]; exact h4
    rw [show leapB y = false from Bool.eq_false_iff.2 fun h => by have := (leapB_iff y).1 h; omega]
    clear h4
    go_enter Tryd.func84, Tryd.ntmps84
    go_wp2
    go_ret
    exact ⟨rfl, rfl⟩
set_option maxHeartbeats 400000 in
theorem monthDays_any (y : Int) (k : Nat) (w : World) (h0 : 0 ≤ y) (h1 : y ≤ 10000) (k0 : 1 ≤ k) (k1 : k ≤ 12) (hM : MonTab w) :
    Calls Tryd.prog 76 #[.int .i64 y, .int .i64 (k : Int)] w fun e w' => e = .returned (.int .i64 (dim y k)) ∧ w' = w := by
  by_cases h2 : k = 2
  · subst h2
    have hc := hM 2 (by omega)
    cases hl : leapB y
    · rw [← mlen_dim y 2 (by omega) (by omega) (Or.inr hl)]
      clear hM
      go_enter Tryd.func76, Tryd.ntmps76
      go_wp2_with (go_at_call 84; refine (leapYear_any _ _ h0 h1).mono ?_; rintro e w' ⟨rfl, rfl⟩)
      go_ret
      exact ⟨rfl, rfl⟩
    · have hd : Hid (dim y 2 = 29) := dim_feb hl
      have hc' : w.cell? ⟨1, 2, none⟩ = some (.int .i64 28) := hc
      clear hM hc
      go_enter Tryd.func76, Tryd.ntmps76
      go_wp2_with (go_at_call 84; refine (leapYear_any _ _ h0 h1).mono ?_; rintro e w' ⟨rfl, rfl⟩)
      go_ret
      exact ⟨ret_int hd.out, rfl⟩
  · have hc := hM k (by omega)
    have hb : ((k : Int) == 2) = false := by rw [beq_eq_false_iff_ne]; omega
    rw [← mlen_dim y k k0 k1 (Or.inl h2)]
    clear hM
    go_enter Tryd.func76, Tryd.ntmps76
    go_wp2_with (go_at_call 84; refine (leapYear_any _ _ h0 h1).mono ?_; rintro e w' ⟨rfl, rfl⟩)
    go_ret
    exact ⟨rfl, rfl⟩
end Go.Proofs.YtffjpidjhcnnmabDoor
