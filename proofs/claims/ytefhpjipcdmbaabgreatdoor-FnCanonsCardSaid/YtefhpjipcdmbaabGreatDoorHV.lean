/-
  Bytes that may stand in a target: walks of both sides.
-/
import Derived.Test.YtefhpjipcdmbaabGreatDoorMA0
import Derived.Test.YtefhpjipcdmbaabGreatDoorD1
import Derived.Test.YtefhpjipcdmbaabGreatDoorW2
namespace Go.Proofs.YtefhpjipcdmbaabGreatDoor
set_option linter.unusedVariables false
set_option linter.unusedSimpArgs false
open Go.RowKit
theorem targQ_no1 {s : ByteArray} (h : withinB (s.size : Int) 1 200 = false) : targQ s = false := by
  unfold targQ; rw [show (decide (1 ≤ (s.size : Int)) && decide ((s.size : Int) ≤ 200)) = false from h]; rfl
theorem targQ_no2 {s : ByteArray} (h : allB vis8 s = false) : targQ s = false := by unfold targQ; rw [h]; simp
theorem targQ_yes {s : ByteArray} (h1 : withinB (s.size : Int) 1 200 = true) (h : allB vis8 s = true) : targQ s = true := by
  unfold targQ; rw [show (decide (1 ≤ (s.size : Int)) && decide ((s.size : Int) ≤ 200)) = true from h1, h]; rfl
set_option maxHeartbeats 1000000 in
theorem targetOk_any (s : ByteArray) (w : World) (hs : s.size ≤ maxLen) :
    Calls Tryz.prog 29 #[.string s] w fun e w' => e = .returned (.bool (targQ s)) ∧ w' = w := by
  unfold maxLen at hs
  cases h1 : withinB (s.size : Int) 1 200
  · have hf := hideB2 (targQ_no1 h1)
    go_enter Tryz.func29, Tryz.ntmps29
    go_wp2_with (go_at_call 63; refine (within_any _ _ _ _).mono ?_; rintro e w' ⟨rfl, rfl⟩; rw [h1])
    go_ret
    exact ⟨ret_bool hf.out, rfl⟩
  · have H1 := hideB2 h1
    clear h1
    go_enter Tryz.func29, Tryz.ntmps29
    go_wp2_with (go_at_call 63; refine (within_any _ _ _ _).mono ?_; rintro e w' ⟨rfl, rfl⟩; rw [H1.out])
    go_loop [10] (fun i => ∃ k : Nat, k ≤ s.size ∧ i = .int .i64 k ∧ ∀ j, j < k → vis8 (at8 s j) = true) (fun i => s.size - (intOf i).toNat)
    case atStart => exact ⟨0, Nat.zero_le _, rfl, fun j hj => by omega⟩
    case round =>
      obtain ⟨k, hk, rfl, hall⟩ := hrel
      have Hall : Hid (∀ j, j < k → vis8 (at8 s j) = true) := hall
      clear hall
      by_cases hlt : k < s.size
      · have e64 : wrap64 (s[k].toNat : Int) = (s[k].toNat : Int) := by
          have h1 := u8_hi s[k]
          have h2 := u8_lo s[k]
          unfold wrap64
          omega
        cases hg0 : vis8 (at8 s k)
        · have hg := hideB2 (show withinB (s[k].toNat : Int) 33 126 = false by rw [at8_eq s k hlt]; exact hg0)
          have hfin : Hid (targQ s = false) := targQ_no2 (allB_no hlt hg0)
          clear hg0
          go_wp2_with (go_at_call 63; refine (within_any _ _ _ _).mono ?_; rintro e w' ⟨rfl, rfl⟩; rw [e64, hg.out])
          go_ret
          exact ⟨ret_bool hfin.out, rfl⟩
        · have hg := hideB2 (show withinB (s[k].toNat : Int) 33 126 = true by rw [at8_eq s k hlt]; exact hg0)
          have Hg : Hid (vis8 (at8 s k) = true) := hg0
          clear hg0
          go_wp2_with (go_at_call 63; refine (within_any _ _ _ _).mono ?_; rintro e w' ⟨rfl, rfl⟩; rw [e64, hg.out])
          go_round
          case rel => exact ⟨k + 1, by omega, by go_num, all_succ Hall.out Hg.out⟩
          case measure => simp [intOf]; omega
      · have hfin : Hid (targQ s = true) := targQ_yes H1.out (allB_yes (fun j hj => Hall.out j (by omega)))
        go_wp2
        go_ret
        exact ⟨ret_bool hfin.out, rfl⟩
theorem vis_int (n : Int) : visP n = (!decide (n < 33) && !decide (126 < n)) := by
  unfold visP
  by_cases h1 : n < 33 <;> by_cases h2 : 126 < n <;> simp [h1, h2] <;> omega
set_option maxHeartbeats 1000000 in
theorem l6visible_any (s : ByteArray) (w : World) (hs : s.size ≤ maxLen) :
    Calls Tryz.prog 25 #[.string s] w fun e w' => e = .returned (.bool (decide (0 < (s.size : Int)) && allB vis8 s)) ∧ w' = w := by
  unfold maxLen at hs
  generalize hR : (decide (0 < (s.size : Int)) && allB vis8 s) = R
  have HR := hideB2 hR
  clear hR
  go_enter Tryz.func25, Tryz.ntmps25
  go_wp2
  go_loop [3] (fun i => ∃ k : Nat, k ≤ s.size ∧ i = .int .i64 k ∧ ∀ j, j < k → vis8 (at8 s j) = true) (fun i => s.size - (intOf i).toNat)
  case atStart => exact ⟨0, Nat.zero_le _, rfl, fun j hj => by omega⟩
  case round =>
    obtain ⟨k, hk, rfl, hall⟩ := hrel
    have Hall : Hid (∀ j, j < k → vis8 (at8 s j) = true) := hall
    clear hall
    by_cases hlt : k < s.size
    · have hat : (s[k].toNat : Int) = ((at8 s k).toNat : Int) := by rw [at8_eq s k hlt]
      by_cases h33 : (s[k].toNat : Int) < 33
      · have hfin : Hid (R = false) := by
          show R = false
          rw [← HR.out, allB_no hlt (by unfold vis8; rw [← hat, vis_int]; simp [h33]), Bool.and_false]
        clear hat
        go_wp2
        go_ret
        exact ⟨ret_bool hfin.out, rfl⟩
      · by_cases h126 : (126 : Int) < (s[k].toNat : Int)
        · have hfin : Hid (R = false) := by
            show R = false
            rw [← HR.out, allB_no hlt (by unfold vis8; rw [← hat, vis_int]; simp [h126]), Bool.and_false]
          clear hat
          have d33 : decide ((s[k].toNat : Int) < 33) = false := decide_eq_false h33
          go_wp2
          go_ret
          exact ⟨ret_bool hfin.out, rfl⟩
        · have Hg : Hid (vis8 (at8 s k) = true) := by
            show vis8 _ = true
            unfold vis8; rw [← hat, vis_int]; simp [h33, h126]
          clear hat
          have d33 : decide ((s[k].toNat : Int) < 33) = false := decide_eq_false h33
          have d126 : decide ((126 : Int) < (s[k].toNat : Int)) = false := decide_eq_false h126
          go_wp2
          go_round
          case rel => exact ⟨k + 1, by omega, by go_num, all_succ Hall.out Hg.out⟩
          case measure => simp [intOf]; omega
    · have hfin : Hid (R = decide (0 < s.size)) := by
        show R = _
        rw [← HR.out, allB_yes (fun j hj => Hall.out j (by omega)), Bool.and_true]
        apply decide_eq_decide.2
        omega
      go_wp2
      go_ret
      exact ⟨ret_bool hfin.out, rfl⟩
end Go.Proofs.YtefhpjipcdmbaabGreatDoor
