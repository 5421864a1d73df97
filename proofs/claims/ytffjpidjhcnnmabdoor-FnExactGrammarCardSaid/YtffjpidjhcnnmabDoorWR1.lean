/-
  The walks over chapter 2: what impl reads of a text.
-/
import Derived.Test.YtffjpidjhcnnmabDoorMR
import Derived.Test.YtffjpidjhcnnmabDoorWT2
import Derived.Test.YtffjpidjhcnnmabDoorW2
import Derived.Deep.RegionWith
import Derived.BigRegion
namespace Go.Proofs.YtffjpidjhcnnmabDoor
set_option linter.unusedVariables false
set_option linter.unusedSimpArgs false
open Go.RowKit

theorem dv_yes {b : UInt8} (h : dig8 b = true) : dv b = b.toNat - 48 := by unfold dv; rw [if_pos h]
theorem dv_no {b : UInt8} (h : dig8 b = false) : dv b = 0 := by unfold dv; rw [if_neg (by rw [h]; decide)]
set_option maxHeartbeats 1000000 in
theorem number_any (s : ByteArray) (w : World) (hs : s.size ≤ 8) :
    Calls Tryd.prog 67 #[.string s] w fun e w' => e = .returned (.int .i64 ((nval s : Nat) : Int)) ∧ w' = w := by
  go_enter Tryd.func67, Tryd.ntmps67
  go_wp2
  go_loop [3, 7] (fun n i => ∃ k : Nat, k ≤ s.size ∧ i = .int .i64 k ∧ n = .int .i64 ((valN (s.data.toList.take k) : Nat) : Int)) (fun _ i => s.size - (intOf i).toNat)
  case atStart => exact ⟨0, Nat.zero_le _, rfl, rfl⟩
  case round =>
    obtain ⟨k, hk, rfl, rfl⟩ := hrel
    have hvl : valN (s.data.toList.take k) < 100000000 := by
      have h1 := valN_lt (s.data.toList.take k)
      have h3 : 10 ^ (s.data.toList.take k).length ≤ 10 ^ 8 := Nat.pow_le_pow_right (by decide) (by simp; omega)
      have h4 : (10 : Nat) ^ 8 = 100000000 := by decide
      omega
    by_cases hlt : k < s.size
    · have hval : Hid (valN (s.data.toList.take (k + 1)) = valN (s.data.toList.take k) * 10 + dv (at8 s k)) := by
        show _ = _
        rw [allDig_take_succ s k hlt, valN_snoc]
      cases hg0 : dig8 (at8 s k)
      · have hg : digP (s[k].toNat : Int) = false := by rw [at8_eq s k hlt]; exact hg0
        have hdv := hideB2 (dv_no hg0)
        clear hg0
        generalize valN (s.data.toList.take k) = v at *
        go_wp2_with (go_at_call 55; refine (digitByte_any _ _).mono ?_; rintro e w' ⟨rfl, rfl⟩)
        go_round
        case rel => exact ⟨k + 1, by omega, by go_num, congrArg (Value.int .i64) (by rw [hval.out, hdv.out]; omega)⟩
        case measure => simp [intOf]; omega
      · have hg : digP (s[k].toNat : Int) = true := by rw [at8_eq s k hlt]; exact hg0
        have hb := (dig8_iff _).1 hg0
        have hdv : Hid (dv (at8 s k) = s[k].toNat - 48) := by show _ = _; rw [dv_yes hg0, at8_eq s k hlt]
        have hb1 : 48 ≤ s[k].toNat := by rw [at8_eq s k hlt]; exact hb.1
        have hb2 : s[k].toNat ≤ 57 := by rw [at8_eq s k hlt]; exact hb.2
        clear hg0 hb
        generalize valN (s.data.toList.take k) = v at *
        go_wp2_with (go_at_call 55; refine (digitByte_any _ _).mono ?_; rintro e w' ⟨rfl, rfl⟩)
        go_round
        case rel => exact ⟨k + 1, by omega, by go_num, congrArg (Value.int .i64) (by rw [hval.out, hdv.out]; omega)⟩
        case measure => simp [intOf]; omega
    · obtain rfl : k = s.size := by omega
      have ht : s.data.toList.take s.size = s.data.toList := List.take_of_length_le (by rw [len_data]; exact Nat.le_refl _)
      rw [ht]
      have hfin : Hid (((nval s : Nat) : Int) = ((valN s.data.toList : Nat) : Int)) := rfl
      clear ht hvl
      generalize valN s.data.toList = v at *
      go_wp2
      go_ret
      exact ⟨ret_int hfin.out, rfl⟩
set_option maxHeartbeats 4000000 in
theorem atClock_any (y m d : Int) (s : ByteArray) (w : World) (hs : s.size = 8) :
    Calls Tryd.prog 68 #[civ y m d 0 0 0, .string s] w fun e w' => e = .returned (civ y m d (nval (s.extract 0 2)) (nval (s.extract 3 5)) (nval (s.extract 6 8))) ∧ ∃ o1 o2, w' = ((w.alloc o1).alloc o2).drew := by
  have e0 : (s.extract 0 2).size ≤ 8 := by rw [ext_size s 0 2 (by omega) (by omega)]; omega
  have e1 : (s.extract 3 5).size ≤ 8 := by rw [ext_size s 3 5 (by omega) (by omega)]; omega
  have e2 : (s.extract 6 8).size ≤ 8 := by rw [ext_size s 6 8 (by omega) (by omega)]; omega
  go_enter Tryd.func68, Tryd.ntmps68
  go_wp2
  go_region_with (go_at_call 67; refine (number_any _ _ (by assumption)).mono ?_; rintro e w' ⟨rfl, rfl⟩)
  all_goals
    go_wp2
    refine bodyPost_ret (v := civ y m d (nval (s.extract 0 2)) (nval (s.extract 3 5)) (nval (s.extract 6 8))) (by simp [results, Tryd.results68, go_sem]) rfl ⟨rfl, ?_⟩
    exact ⟨_, _, rfl⟩
end Go.Proofs.YtffjpidjhcnnmabDoor
