/-
  The walks over the drawing functions of chapter 1.
-/
import Derived.Test.YtpjjgdhcidngfaaWD3
import Derived.Test.YtpjjgdhcidngfaaW1b
namespace Go.Proofs.Ytpjjgdhcidngfaa
set_option linter.unusedVariables false
set_option linter.unusedSimpArgs false
open Go.RowKit

/-- What the laws tell of their code. -/
structure Code (w : World) (a : Option Addr) (len : Nat) : Prop where
  row : CodeRow w w.heap.size a len
  max : len ≤ maxLen
theorem Code.later {w w' : World} {a : Option Addr} {len : Nat} (h : Code w a len) (hb : Below w.heap.size w w') : Code w' a len := ⟨h.row.later hb, h.max⟩

set_option maxHeartbeats 1000000 in
theorem DrawFold_any (a : Option Addr) (len cap : Nat) (w : World) (hc : Code w a len) :
    Calls Try.prog 7 #[.slice a len cap] w fun e w' => (∃ s : ByteArray, s.size ≤ 8 ∧ e = .returned (.string s)) ∧ Below w.heap.size w w' := by
  go_enter Try.func7, Try.ntmps7
  go_wp2_with fail
  refine (l1New_any a len cap _ hc.row hc.max).mono ?_
  rintro e w1 ⟨rfl, hb1, hd1⟩
  go_wp2_with fail
  refine (l1wild_any _ _ hd1).mono ?_
  rintro e w2 ⟨⟨l, hl, rfl⟩, hk2, hd2⟩
  go_wp2
  go_ret
  exact ⟨⟨_, (by show l.toArray.size ≤ 8; simpa using hl), rfl⟩, hb1.trans (hk2.below (Nat.le_refl _) hb1.size)⟩
set_option maxHeartbeats 1000000 in
theorem DrawSameFold_any (a : Option Addr) (len cap : Nat) (w : World) (hc : Code w a len) :
    Calls Try.prog 8 #[.slice a len cap] w fun e w' => (∃ s t : ByteArray, s.size ≤ 8 ∧ t.size ≤ 8 ∧ e = .returned (.tuple #[.string s, .string t])) ∧ Below w.heap.size w w' := by
  go_enter Try.func8, Try.ntmps8
  go_wp2_with fail
  refine (l1New_any a len cap _ hc.row hc.max).mono ?_
  rintro e w1 ⟨rfl, hb1, hd1⟩
  go_wp2_with fail
  refine (l1Below_any _ 6 _ hd1 (by omega)).mono ?_
  rintro e w2 ⟨⟨n, hn, _, _, rfl⟩, hk2, hd2⟩
  have hn6 : n < 6 := by have := hn (by omega); omega
  clear hn
  go_wp2_with fail
  refine (l1of_any _ n _ _ hd2 (by omega) (by decide) (by decide)).mono ?_
  rintro e w3 ⟨⟨l, hl, _, rfl⟩, hk3, hd3⟩
  have hb3 : Below w.heap.size w w3 := hb1.trans ((hk2.trans hk3).below (Nat.le_refl _) hb1.size)
  have hls : (ByteArray.mk l.toArray).size ≤ 6 := by show l.toArray.size ≤ 6; simp; omega
  generalize ByteArray.mk l.toArray = s at *
  clear hl
  go_wp2_with fail
  refine (l1Once_any _ 2 _ hd3 (by omega)).mono ?_
  rintro e w4 ⟨⟨b, rfl⟩, hk4, hd4⟩
  have hb4 : Below w.heap.size w w4 := hb3.trans (hk4.below (Nat.le_refl _) hb3.size)
  cases b
  · go_wp2_with fail
    refine (l1bend_any _ s _ hd4 (by omega)).mono ?_
    rintro e w5 ⟨⟨t, ht, rfl⟩, hk5, hd5⟩
    go_wp2
    go_ret2
    exact ⟨⟨s, t, by omega, by omega, rfl⟩, hb4.trans (hk5.below (Nat.le_refl _) hb4.size)⟩
  · go_wp2_with fail
    refine (sFold_any s _ (by unfold maxLen; omega)).mono ?_
    rintro e w5 ⟨rfl, hb5⟩
    go_wp2
    go_ret2
    exact ⟨⟨s, foldB s, by omega, by rw [foldB_size]; omega, rfl⟩, hb4.trans (hb5.mono hb4.size)⟩
end Go.Proofs.Ytpjjgdhcidngfaa
