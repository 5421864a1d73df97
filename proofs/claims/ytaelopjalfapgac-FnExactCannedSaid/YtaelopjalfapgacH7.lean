/-
  Chapter 6: reasons, canned answers. Both sides.
-/
import Derived.Test.YtaelopjalfapgacProg
import Derived.Test.YtaelopjalfapgacBK2
namespace Go.Proofs.Ytaelopjalfapgac
set_option linter.unusedVariables false
set_option linter.unusedSimpArgs false
open Go.RowKit
def reasonB (n : Int) : ByteArray :=
  if (n == 200) = true then ⟨#[79, 75]⟩
  else if (n == 304) = true then ⟨#[78, 111, 116, 32, 77, 111, 100, 105, 102, 105, 101, 100]⟩
  else if (n == 400) = true then ⟨#[66, 97, 100, 32, 82, 101, 113, 117, 101, 115, 116]⟩
  else if (n == 413) = true then ⟨#[67, 111, 110, 116, 101, 110, 116, 32, 84, 111, 111, 32, 76, 97, 114, 103, 101]⟩
  else if (n == 431) = true then ⟨#[82, 101, 113, 117, 101, 115, 116, 32, 72, 101, 97, 100, 101, 114, 32, 70, 105, 101, 108, 100, 115, 32, 84, 111, 111, 32, 76, 97, 114, 103, 101]⟩
  else if (n == 502) = true then ⟨#[66, 97, 100, 32, 71, 97, 116, 101, 119, 97, 121]⟩
  else if (n == 503) = true then ⟨#[83, 101, 114, 118, 105, 99, 101, 32, 85, 110, 97, 118, 97, 105, 108, 97, 98, 108, 101]⟩
  else if (n == 504) = true then ⟨#[71, 97, 116, 101, 119, 97, 121, 32, 84, 105, 109, 101, 111, 117, 116]⟩
  else ⟨#[]⟩
set_option maxHeartbeats 1000000 in
theorem ReasonOf_any (n : Int) (w : World) :
    Calls Try.prog 9 #[.int .i64 n] w fun e w' => e = .returned (.string (reasonB n)) ∧ w' = w := by
  go_enter Try.func9, Try.ntmps9
  go_wp2
  all_goals
    go_ret
    exact ⟨ret_str (by simp_all [reasonB]), rfl⟩
set_option maxHeartbeats 1000000 in
theorem sReasonOf_any (n : Int) (w : World) :
    Calls Try.prog 8 #[.int .i64 n] w fun e w' => e = .returned (.string (reasonB n)) ∧ w' = w := by
  go_enter Try.func8, Try.ntmps8
  go_wp2
  all_goals
    go_ret
    exact ⟨ret_str (by simp_all [reasonB]), rfl⟩
end Go.Proofs.Ytaelopjalfapgac
