/-
  The walks over chapter 1: withPiece, Elements.
-/
import Derived.Test.YtaelopjalfapgabAS
import Derived.Test.YtaelopjalfapgabME
import Derived.Test.YtaelopjalfapgabW2
namespace Go.Proofs.Ytaelopjalfapgab
set_option linter.unusedVariables false
set_option linter.unusedSimpArgs false
open Go.RowKit

theorem trimB_list (s : ByteArray) : (trimB s).data.toList = trimL s.data.toList := rfl
theorem keep_none {s : ByteArray} (h : (trimB s).toList.isEmpty = true) : keepP s.data.toList = [] := by
  rw [ByteArray.toList_eq, trimB_list, List.isEmpty_iff] at h
  unfold keepP; rw [if_pos h]
theorem keep_some {s : ByteArray} (h : (trimB s).toList.isEmpty = false) : keepP s.data.toList = [trimB s] := by
  rw [ByteArray.toList_eq, trimB_list, List.isEmpty_eq_false_iff] at h
  unfold keepP; rw [if_neg h]; rfl
set_option maxHeartbeats 1000000 in
theorem withPiece_any (w0 w : World) (v : Value) (l : List ByteArray) (s : ByteArray) (hbuf : BufS w0 w v l) (hl : l.length ≤ 1000000) (hs : s.size ≤ maxLen) :
    Calls Try.prog 43 #[v, .string s] w fun e w' => ∃ v', e = .returned v' ∧ BufS w0 w' v' (l ++ keepP s.data.toList) := by
  go_enter Try.func43, Try.ntmps43
  go_wp2_with fail
  refine (Trim_any s _ hs).mono ?_
  rintro e w1 ⟨rfl, rfl⟩
  cases he : (trimB s).toList.isEmpty
  · have hk : Hid (keepP s.data.toList = [trimB s]) := keep_some he
    generalize trimB s = t at *
    go_wp2_with (at_builtin; refine wp_sapp rfl (.tmp 10) (.tmp 12) rfl _ _ rfl hbuf t rfl (by omega) ?_; intro v2 W2 hbuf2)
    go_ret
    exact ⟨_, rfl, by rw [hk.out]; exact hbuf2⟩
  · have hk : Hid (keepP s.data.toList = []) := keep_none he
    generalize trimB s = t at *
    go_wp2
    go_ret
    exact ⟨_, rfl, by rw [hk.out, List.append_nil]; exact hbuf⟩
end Go.Proofs.Ytaelopjalfapgab
