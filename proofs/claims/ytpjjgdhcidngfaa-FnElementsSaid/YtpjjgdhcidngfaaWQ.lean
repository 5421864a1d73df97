/-
  The walks over chapter 1: DrawQuote, sameTexts.
-/
import Derived.Test.YtpjjgdhcidngfaaMQ
import Derived.Test.YtpjjgdhcidngfaaAS
import Derived.Test.YtpjjgdhcidngfaaWD4
namespace Go.Proofs.Ytpjjgdhcidngfaa
set_option linter.unusedVariables false
set_option linter.unusedSimpArgs false
open Go.RowKit

/-- A row of texts, as a reader wants it. -/
def RowS (w : World) (a : Option Addr) (l : List ByteArray) : Prop := l = [] ∨ ∃ g, a = some ⟨g, 0, none⟩ ∧ ∀ j, j < l.length → w.cell? ⟨g, j, none⟩ = some (.string (l.getD j ⟨#[]⟩))
theorem BufS.rows {w0 w : World} {v : Value} {l : List ByteArray} (h : BufS w0 w v l) : ∃ a c, v = .slice a l.length c ∧ RowS w a l := by
  rcases Nat.eq_zero_or_pos l.length with h0 | h0
  · obtain ⟨a, c, rfl⟩ := h.form
    exact ⟨a, c, rfl, Or.inl (List.eq_nil_of_length_eq_zero h0)⟩
  · obtain ⟨g, cap, rfl, _, _, hc⟩ := h.cells h0
    exact ⟨_, _, rfl, Or.inr ⟨g, rfl, hc⟩⟩
theorem RowS.later {w w' : World} {a : Option Addr} {l : List ByteArray} (h : RowS w a l) (hb : Below w.heap.size w w') : RowS w' a l := by
  rcases h with h | ⟨g, rfl, hc⟩
  · exact Or.inl h
  · refine Or.inr ⟨g, rfl, fun j hj => ?_⟩
    have hlt := World.block_lt_of_cell? _ _ (hc j hj)
    exact (hb.cell hlt).trans (hc j hj)
theorem RowS.at {w : World} {a : Option Addr} {l : List ByteArray} (h : RowS w a l) (hl : 0 < l.length) : ∃ g, a = some ⟨g, 0, none⟩ ∧ ∀ j, j < l.length → w.cell? ⟨g, j, none⟩ = some (.string (l.getD j ⟨#[]⟩)) := by
  rcases h with rfl | h
  · simp at hl
  · exact h
theorem Below.drewNs {B : Nat} {a w : World} (h : Below B a w) (n : Nat) : Below B a (w.drewN n) := ⟨h.os, h.tape, h.output, h.size, h.block⟩
theorem neT_self (t : ByteArray) : (t.toList != t.toList) = false := by simp
set_option maxHeartbeats 1000000 in
theorem sameTexts_same (w : World) (l : List ByteArray) (a b : Option Addr) (c d : Nat) (ha : RowS w a l) (hb : RowS w b l) (hl : l.length ≤ 1000000) :
    Calls Try.prog 22 #[.slice a l.length c, .slice b l.length d] w fun e w' => e = .returned (.bool true) ∧ Below w.heap.size w w' := by
  have heq : ((l.length : Int) == (l.length : Int)) = true := by simp
  go_enter Try.func22, Try.ntmps22
  go_wp2
  go_loopw [5] (fun i wr => ∃ k : Nat, k ≤ l.length ∧ i = .int .i64 (k : Int) ∧ Below w.heap.size w wr) (fun i _ => l.length - (intOf i).toNat)
  case atStart => exact ⟨0, Nat.zero_le _, rfl, Below.refl _ _⟩
  case round =>
    obtain ⟨k, hk, rfl, hbw⟩ := hrel
    by_cases hlt : k < l.length
    · have hI : (k : Int) < (l.length : Int) := by omega
      obtain ⟨g, rfl, hcg⟩ := (ha.later hbw).at (by omega)
      obtain ⟨g', rfl, hcg'⟩ := (hb.later hbw).at (by omega)
      have c1 := hcg k hlt
      have c2 := hcg' k hlt
      generalize l.getD k ⟨#[]⟩ = t at *
      have hnt := neT_self t
      clear hcg hcg' ha hb
      go_wp2
      go_quiet (fail)
      go_wp2
      go_round
      case rel => exact ⟨k + 1, by omega, by go_num, Below.drewNs hbw _⟩
      case measure => simp [intOf]; omega
    · have hd : decide ((k : Int) < (l.length : Int)) = false := by simp; omega
      go_wp2
      go_ret
      exact ⟨rfl, hbw⟩
set_option maxHeartbeats 1000000 in
theorem DrawQuote_any (a : Option Addr) (len cap : Nat) (w : World) (hc : Code w a len) :
    Calls Try.prog 17 #[.slice a len cap] w fun e w' => (∃ s : ByteArray, s.size ≤ 9 ∧ e = .returned (.string s)) ∧ Below w.heap.size w w' := by
  go_enter Try.func17, Try.ntmps17
  go_wp2_with fail
  refine (l1New_any a len cap _ hc.row hc.max).mono ?_
  rintro e w1 ⟨rfl, hb1, hd1⟩
  go_wp2_with fail
  refine (l1Below_any _ 9 _ hd1 (by omega)).mono ?_
  rintro e w2 ⟨⟨n, hn, _, _, rfl⟩, hk2, hd2⟩
  have hn6 : n < 9 := by have := hn (by omega); omega
  clear hn
  go_wp2_with fail
  refine (l1of_any _ n _ _ hd2 (by omega) (by decide) (by decide)).mono ?_
  rintro e w3 ⟨⟨l, hl, _, rfl⟩, hk3, hd3⟩
  have hb3 : Below w.heap.size w w3 := hb1.trans ((hk2.trans hk3).below (Nat.le_refl _) hb1.size)
  have hls : (ByteArray.mk l.toArray).size ≤ 8 := by show l.toArray.size ≤ 8; simp; omega
  generalize ByteArray.mk l.toArray = s at *
  clear hl
  go_wp2_with fail
  refine (l1Once_any _ 5 _ hd3 (by omega)).mono ?_
  rintro e w4 ⟨⟨b, rfl⟩, hk4, hd4⟩
  have hb4 : Below w.heap.size w w4 := hb3.trans (hk4.below (Nat.le_refl _) hb3.size)
  cases b
  · go_wp2
    go_ret
    exact ⟨⟨s, by omega, rfl⟩, hb4⟩
  · go_wp2_with fail
    refine (l1bend_any _ s _ hd4 (by omega)).mono ?_
    rintro e w5 ⟨⟨t, ht, rfl⟩, hk5, hd5⟩
    go_wp2
    go_ret
    exact ⟨⟨t, by omega, rfl⟩, hb4.trans (hk5.below (Nat.le_refl _) hb4.size)⟩
end Go.Proofs.Ytpjjgdhcidngfaa
