/-
  The walks over chapter 2: what impl reads of a text.
-/
import Derived.Test.YtohaghlhdkfkbaaDoorMR
import Derived.Test.YtohaghlhdkfkbaaDoorWT2
import Derived.Test.YtohaghlhdkfkbaaDoorW2
import Derived.Deep.RegionWith
import Derived.BigRegion
namespace Go.Proofs.YtohaghlhdkfkbaaDoor
set_option linter.unusedVariables false
set_option linter.unusedSimpArgs false
open Go.RowKit

theorem dv_yes {b : UInt8} (h : dig8 b = true) : dv b = b.toNat - 48 := by unfold dv; rw [if_pos h]
theorem dv_no {b : UInt8} (h : dig8 b = false) : dv b = 0 := by unfold dv; rw [if_neg (by rw [h]; decide)]
set_option maxHeartbeats 1000000 in
theorem number_any (s : ByteArray) (w : World) (hs : s.size ≤ 8) :
    Calls Tryd.prog 71 #[.string s] w fun e w' => e = .returned (.int .i64 ((nval s : Nat) : Int)) ∧ w' = w := by
  go_enter Tryd.func71, Tryd.ntmps71
  go_wp2
  go_loop [3, 7] (fun n i => ∃ k : Nat, k ≤ s.size ∧ i = .int .i64 k ∧ n = .int .i64 ((valN (s.data.toList.take k) : Nat) : Int)) (fun _ i => s.size - (intOf i).toNat)
  case atStart => exact ⟨0, Nat.zero_le _, rfl, rfl⟩
  case round =>
    obtain ⟨k, hk, rfl, rfl⟩ := hrel
    have hvl : valN (s.data.toList.take k) < 100000000 := by
      have h1 := valN_lt (s.data.toList.take k)
      have h3 : 10 ^ (s.data.toList.take k).length ≤ 10 ^ 8 := Nat.pow_le_pow_right (by decide) (by simp; omega)
      have h4 : (10 : Nat) ^ 8 = 100000000 := by decide
      omega
    by_cases hlt : k < s.size
    · have hval : Hid (valN (s.data.toList.take (k + 1)) = valN (s.data.toList.take k) * 10 + dv (at8 s k)) := by
        show _ = _
        rw [allDig_take_succ s k hlt, valN_snoc]
      cases hg0 : dig8 (at8 s k)
      · have hg : digP (s[k].toNat : Int) = false := by rw [at8_eq s k hlt]; exact hg0
        have hdv := hideB2 (dv_no hg0)
        clear hg0
        generalize valN (s.data.toList.take k) = v at *
        go_wp2_with (go_at_call 65; refine (digitByte_any _ _).mono ?_; rintro e w' ⟨rfl, rfl⟩)
        go_round
        case rel => exact ⟨k + 1, by omega, by go_num, congrArg (Value.int .i64) (by rw [hval.out, hdv.out]; omega)⟩
        case measure => simp [intOf]; omega
      · have hg : digP (s[k].toNat : Int) = true := by rw [at8_eq s k hlt]; exact hg0
        have hb := (dig8_iff _).1 hg0
        have hdv : Hid (dv (at8 s k) = s[k].toNat - 48) := by show _ = _; rw [dv_yes hg0, at8_eq s k hlt]
        have hb1 : 48 ≤ s[k].toNat := by rw [at8_eq s k hlt]; exact hb.1
        have hb2 : s[k].toNat ≤ 57 := by rw [at8_eq s k hlt]; exact hb.2
        clear hg0 hb
        generalize valN (s.data.toList.take k) = v at *
        go_wp2_with (go_at_call 65; refine (digitByte_any _ _).mono ?_; rintro e w' ⟨rfl, rfl⟩)
        go_round
        case rel => exact ⟨k + 1, by omega, by go_num, congrArg (Value.int .i64) (by rw [hval.out, hdv.out]; omega)⟩
        case measure => simp [intOf]; omega
    · obtain rfl : k = s.size := by omega
      have ht : s.data.toList.take s.size = s.data.toList := List.take_of_length_le (by rw [len_data]; exact Nat.le_refl _)
      rw [ht]
      have hfin : Hid (((nval s : Nat) : Int) = ((valN s.data.toList : Nat) : Int)) := rfl
      clear ht hvl
      generalize valN s.data.toList = v at *
      go_wp2
      go_ret
      exact ⟨ret_int hfin.out, rfl⟩
set_option maxHeartbeats 1000000 in
theorem monthNamed_any (s : ByteArray) (w : World) (hN : NamTab w) :
    Calls Tryd.prog 72 #[.string s] w fun e w' => e = .returned (.int .i64 ((monOf s : Nat) : Int)) ∧ w' = w := by
  go_enter Tryd.func72, Tryd.ntmps72
  go_wp2
  go_loop [3] (fun i => ∃ k : Nat, 1 ≤ k ∧ k ≤ 13 ∧ i = .int .i64 k ∧ monOf s = monGo s (13 - k)) (fun i => 13 - (intOf i).toNat)
  case atStart => exact ⟨1, by omega, by omega, rfl, rfl⟩
  case round =>
    obtain ⟨k, hk0, hk1, rfl, hm⟩ := hrel
    have HM := hideB2 hm
    clear hm
    by_cases hlt : k ≤ 12
    · have hc := hN k (by omega)
      clear hN
      cases he : eqB (monB k) s
      · have hn := hideB2 (monGo_no hk0 hlt he)
        unfold eqB at he
        go_wp2
        go_round
        case rel => exact ⟨k + 1, by omega, by omega, by go_num, by rw [HM.out, hn.out]⟩
        case measure => simp [intOf]; omega
      · have hn := hideB2 (monGo_yes hk0 hlt he)
        unfold eqB at he
        go_wp2
        go_ret
        exact ⟨ret_int (by rw [HM.out, hn.out]), rfl⟩
    · obtain rfl : k = 13 := by omega
      have hz : Hid (monOf s = 0) := HM.out
      clear hN
      go_wp2
      go_ret
      exact ⟨ret_int (by rw [hz.out]; rfl), rfl⟩
set_option maxHeartbeats 1000000 in
theorem longYear_any (n : Nat) (w : World) (hn : n < 100) :
    Calls Tryd.prog 74 #[.int .i64 (n : Int)] w fun e w' => e = .returned (.int .i64 ((yOf n : Nat) : Int)) ∧ w' = w := by
  by_cases h : n ≤ 69
  · rw [show ((yOf n : Nat) : Int) = 2000 + (n : Int) by unfold yOf; rw [if_pos h]; omega]
    go_enter Tryd.func74, Tryd.ntmps74
    go_wp2
    go_ret
    exact ⟨rfl, rfl⟩
  · rw [show ((yOf n : Nat) : Int) = 1900 + (n : Int) by unfold yOf; rw [if_neg h]; omega]
    go_enter Tryd.func74, Tryd.ntmps74
    go_wp2
    go_ret
    exact ⟨rfl, rfl⟩
set_option maxHeartbeats 4000000 in
theorem atClock_any (y m d : Int) (s : ByteArray) (w : World) (hs : s.size = 8) :
    Calls Tryd.prog 73 #[civ y m d 0 0 0, .string s] w fun e w' => e = .returned (civ y m d (nval (s.extract 0 2)) (nval (s.extract 3 5)) (nval (s.extract 6 8))) ∧ ∃ o1 o2, w' = ((w.alloc o1).alloc o2).drew := by
  have e0 : (s.extract 0 2).size ≤ 8 := by rw [ext_size s 0 2 (by omega) (by omega)]; omega
  have e1 : (s.extract 3 5).size ≤ 8 := by rw [ext_size s 3 5 (by omega) (by omega)]; omega
  have e2 : (s.extract 6 8).size ≤ 8 := by rw [ext_size s 6 8 (by omega) (by omega)]; omega
  go_enter Tryd.func73, Tryd.ntmps73
  go_wp2
  go_region_with (go_at_call 71; refine (number_any _ _ (by assumption)).mono ?_; rintro e w' ⟨rfl, rfl⟩)
  all_goals
    go_wp2
    refine bodyPost_ret (v := civ y m d (nval (s.extract 0 2)) (nval (s.extract 3 5)) (nval (s.extract 6 8))) (by simp [results, Tryd.results73, go_sem]) rfl ⟨rfl, ?_⟩
    exact ⟨_, _, rfl⟩
end Go.Proofs.YtohaghlhdkfkbaaDoor
