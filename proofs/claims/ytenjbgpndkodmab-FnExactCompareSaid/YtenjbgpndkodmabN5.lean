/-
  Chapter 9: the laws' sizes, copies and comparisons of lines.
-/
import Derived.Test.YtenjbgpndkodmabN4
import Derived.OwnWalk
import Derived.Laws.OwnMore
import Derived.Test.YtenjbgpndkodmabMK
namespace Go.Proofs.Ytenjbgpndkodmab
set_option linter.unusedVariables false
set_option linter.unusedSimpArgs false
open Go.RowKit
theorem made10 (z : Array Value) (hz : z.size = 10) (n j i : Nat) (h : j < n) (hi : i < 10) : (madeCells z (n * 10)).toList[j * 10 + i]? = z[i]? := by
  have h1 : j * 10 + i < n * 10 := by omega
  have e1 : (j * 10 + i) % 10 = i := by omega
  have h2 : i < z.size := by omega
  simp [madeCells, h1, hz, e1, h2]
  rw [Array.getElem?_eq_getElem h2, getElem!_pos z i h2]
set_option maxHeartbeats 1000000 in
theorem szLine_any (x : Lx) (left : Int) (w : World) (hd : ZX x) (h0 : 0 ≤ left) (h1 : left ≤ 1048576) :
    Calls Try.prog 4 #[lxV x, .int .i64 left] w fun e w' => e = .returned (.int .i64 (if (szX x : Int) ≤ left then left - szX x else -1)) ∧ Below w.heap.size w w' := by
  obtain ⟨ke, ti, si, me, st, la, rv, se, wh, sz⟩ := x
  have HB := hideB2 (below_a1 w (.cells #[.string ke, .int .i64 ti, .int .i64 si, .string me, .int .i64 st, .string la, .bool rv, .int .i64 se, .int .i64 wh, .int .i64 sz] 23))
  have e0 : (szX ⟨ke, ti, si, me, st, la, rv, se, wh, sz⟩ : Int) = (ke.size : Int) + (me.size : Int) + (la.size : Int) := by simp [szX]
  obtain ⟨d1, d2, d3⟩ := hd
  unfold maxLen at d1 d2 d3
  simp only at d1 d2 d3
  rw [e0]
  clear e0
  unfold lxV
  simp only
  by_cases h : (ke.size : Int) + (me.size : Int) + (la.size : Int) ≤ left
  · rw [if_pos h]
    go_enter Try.func4, Try.ntmps4
    go_wp2
    go_ret
    exact ⟨ret_int (by omega), HB.out⟩
  · rw [if_neg h]
    by_cases h2 : (ke.size : Int) ≤ left
    · by_cases h3 : (ke.size : Int) + (me.size : Int) ≤ left
      · go_enter Try.func4, Try.ntmps4
        go_wp2
        go_ret
        exact ⟨rfl, HB.out⟩
      · go_enter Try.func4, Try.ntmps4
        go_wp2
        go_ret
        exact ⟨rfl, HB.out⟩
    · go_enter Try.func4, Try.ntmps4
      go_wp2
      go_ret
      exact ⟨rfl, HB.out⟩
set_option maxHeartbeats 2000000 in
theorem toLine_any (x : Lx) (w : World) :
    Calls Try.prog 6 #[lxV x] w fun e w' => e = .returned (lxV x) ∧ Below w.heap.size w w' := by
  obtain ⟨ke, ti, si, me, st, la, rv, se, wh, sz⟩ := x
  unfold lxV
  simp only
  go_enter Try.func6, Try.ntmps6
  go_wp2
  refine bodyPost_ret (v := .agg #[.string ke, .int .i64 ti, .int .i64 si, .string me, .int .i64 st, .string la, .bool rv, .int .i64 se, .int .i64 wh, .int .i64 sz]) (by simp [results, Try.results6, go_sem]) rfl ⟨rfl, below_a3 w _ _ _⟩
theorem toLine_fl (ke : ByteArray) (ti si : Int) (me : ByteArray) (st : Int) (la : ByteArray) (rv : Bool) (se wh sz : Int) (w : World) :
    Calls Try.prog 6 #[.agg #[.string ke, .int .i64 ti, .int .i64 si, .string me, .int .i64 st, .string la, .bool rv, .int .i64 se, .int .i64 wh, .int .i64 sz]] w fun e w' => e = .returned (.agg #[.string ke, .int .i64 ti, .int .i64 si, .string me, .int .i64 st, .string la, .bool rv, .int .i64 se, .int .i64 wh, .int .i64 sz]) ∧ Below w.heap.size w w' := toLine_any ⟨ke, ti, si, me, st, la, rv, se, wh, sz⟩ w
end Go.Proofs.Ytenjbgpndkodmab
