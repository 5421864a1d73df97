/-
  Chapter 6: canned answers, both sides; marks on a message that has no fields.
-/
import Derived.Test.YtaelopjalfapgacH6
import Derived.Test.YtaelopjalfapgacH7
namespace Go.Proofs.Ytaelopjalfapgac
set_option linter.unusedVariables false
set_option linter.unusedSimpArgs false
open Go.RowKit
/-- A canned answer. -/
def canA (n : Int) (b : Bool) : Array Value := if stQ n = true then #[.string ⟨#[]⟩, .string ⟨#[]⟩, .int .i64 n, .string (reasonB n), .bool (b || bareSt n), .slice none 0 0, .string ⟨#[]⟩] else #[.string ⟨#[]⟩, .string ⟨#[]⟩, .int .i64 0, .string ⟨#[]⟩, .bool false, .slice none 0 0, .string ⟨#[]⟩]
set_option maxHeartbeats 1000000 in
theorem Canned_any (n : Int) (b : Bool) (w : World) :
    Calls Try.prog 11 #[.int .i64 n, .bool b] w fun e w' => e = .returned (.agg (canA n b)) ∧ Below w.heap.size w w' := by
  have HB := hideB2 (below_a1 w (.cells #[.string ⟨#[]⟩, .string ⟨#[]⟩, .int .i64 0, .string ⟨#[]⟩, .bool false, .slice none 0 0, .string ⟨#[]⟩] 29))
  unfold canA
  cases hs : stQ n
  · go_enter Try.func11, Try.ntmps11
    go_wp2_with (go_at_call 24; refine (statusOk_any _ _).mono ?_; rintro e w' ⟨rfl, rfl⟩; rw [hs])
    refine bodyPost_ret (results_cellS rfl _ _ _ rfl (Blk.new _ _ _) Try.underlying29 Try.infoMsg) rfl ⟨rfl, below_a1 _ _⟩
  · generalize hR : reasonB n = R
    have HR := hideB2 (fun W => ReasonOf_any n W)
    rw [hR] at HR
    clear hR
    cases b
    · cases hb : bareSt n
      all_goals
        go_enter Try.func11, Try.ntmps11
        go_wp2_with (first
          | (go_at_call 24; refine (statusOk_any _ _).mono ?_; rintro e w' ⟨rfl, rfl⟩; rw [hs])
          | (go_at_call 9; refine (HR.out _).mono ?_; rintro e w' ⟨rfl, rfl⟩)
          | (go_at_call 25; refine (bareStatus_any _ _).mono ?_; rintro e w' ⟨rfl, rfl⟩; rw [hb]))
        refine bodyPost_ret (results_cellS rfl _ _ _ rfl (Blk.new _ _ _) Try.underlying29 Try.infoMsg) rfl ⟨rfl, below_a1 _ _⟩
    · go_enter Try.func11, Try.ntmps11
      go_wp2_with (first
        | (go_at_call 24; refine (statusOk_any _ _).mono ?_; rintro e w' ⟨rfl, rfl⟩; rw [hs])
        | (go_at_call 9; refine (HR.out _).mono ?_; rintro e w' ⟨rfl, rfl⟩))
      refine bodyPost_ret (results_cellS rfl _ _ _ rfl (Blk.new _ _ _) Try.underlying29 Try.infoMsg) rfl ⟨rfl, below_a1 _ _⟩
set_option maxHeartbeats 400000 in
theorem l6bare_at (n : Int) (w : World) :
    Calls Try.prog 23 #[.int .i64 n] w fun e w' => e = .returned (.bool (bareSt n)) ∧ w' = w := by
  cases h : (n == 204)
  · rw [show bareSt n = (n == 304) by simp [bareSt, h]]
    go_enter Try.func23, Try.ntmps23
    go_wp2
    go_ret
    exact ⟨rfl, rfl⟩
  · rw [show bareSt n = true by simp [bareSt, h]]
    go_enter Try.func23, Try.ntmps23
    go_wp2
    go_ret
    exact ⟨rfl, rfl⟩
set_option maxHeartbeats 1000000 in
theorem sCanned_any (n : Int) (b : Bool) (w : World) :
    Calls Try.prog 10 #[.int .i64 n, .bool b] w fun e w' => e = .returned (.agg (canA n b)) ∧ Below w.heap.size w w' := by
  unfold canA
  by_cases h1 : n < 200
  · rw [if_neg (by rw [stQ_iff]; omega)]
    go_enter Try.func10, Try.ntmps10
    go_wp2
    refine bodyPost_ret (results_cellS rfl _ _ _ rfl (Blk.new _ _ _) Try.underlying29 Try.infoMsg) rfl ⟨rfl, below_a1 _ _⟩
  · have d1 : decide (n < 200) = false := decide_eq_false h1
    by_cases h2 : 599 < n
    · rw [if_neg (by rw [stQ_iff]; omega)]
      go_enter Try.func10, Try.ntmps10
      go_wp2
      refine bodyPost_ret (results_cellS rfl _ _ _ rfl (Blk.new _ _ _) Try.underlying29 Try.infoMsg) rfl ⟨rfl, below_a1 _ _⟩
    · have d2 : decide (599 < n) = false := decide_eq_false h2
      rw [if_pos (stQ_iff.2 ⟨by omega, by omega⟩)]
      generalize hR : reasonB n = R
      have HR := hideB2 (fun W => sReasonOf_any n W)
      rw [hR] at HR
      clear hR
      cases b
      · cases hb : bareSt n
        all_goals
          go_enter Try.func10, Try.ntmps10
          go_wp2_with (first
            | (go_at_call 8; refine (HR.out _).mono ?_; rintro e w' ⟨rfl, rfl⟩)
            | (go_at_call 23; refine (l6bare_at _ _).mono ?_; rintro e w' ⟨rfl, rfl⟩; rw [hb]))
          refine bodyPost_ret (results_cellS rfl _ _ _ rfl (Blk.new _ _ _) Try.underlying29 Try.infoMsg) rfl ⟨rfl, below_a1 _ _⟩
      · go_enter Try.func10, Try.ntmps10
        go_wp2_with (first
          | (go_at_call 8; refine (HR.out _).mono ?_; rintro e w' ⟨rfl, rfl⟩))
        refine bodyPost_ret (results_cellS rfl _ _ _ rfl (Blk.new _ _ _) Try.underlying29 Try.infoMsg) rfl ⟨rfl, below_a1 _ _⟩
end Go.Proofs.Ytaelopjalfapgac
