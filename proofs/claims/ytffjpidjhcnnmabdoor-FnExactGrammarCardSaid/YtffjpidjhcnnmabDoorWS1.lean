/-
  The walks over chapter 2: what spec reads of a text.
-/
import Derived.Test.YtffjpidjhcnnmabDoorMY
import Derived.Test.YtffjpidjhcnnmabDoorWT5
namespace Go.Proofs.YtffjpidjhcnnmabDoor
set_option linter.unusedVariables false
set_option linter.unusedSimpArgs false
open Go.RowKit

theorem wd_eq : wdN' = wdN := rfl
theorem all_snoc (p : UInt8 → Bool) (l : List UInt8) (b : UInt8) : (l ++ [b]).all p = (l.all p && p b) := by rw [List.all_append]; simp
theorem nS_no {s : ByteArray} {k : Nat} (hk : k < s.size) (h : numb (at8 s k) = false) : nS s = -1 := by
  unfold nS numS
  rw [if_neg]
  intro hh
  rw [List.all_eq_true] at hh
  have hl : k < s.data.toList.length := by rw [len_data]; exact hk
  have := hh (s.data.toList[k]) (List.getElem_mem hl)
  have e : at8 s k = s.data.toList[k] := by simp [at8, List.getD, List.getElem?_eq_getElem hl]
  rw [e, this] at h
  cases h
theorem nS_yes {s : ByteArray} (h : s.data.toList.all numb = true) : nS s = ((valN s.data.toList : Nat) : Int) := by unfold nS numS; rw [if_pos h]
set_option maxHeartbeats 1000000 in
theorem l2num_any (s : ByteArray) (w : World) (hs : s.size ≤ 8) :
    Calls Tryd.prog 28 #[.string s] w fun e w' => e = .returned (.int .i64 (nS s)) ∧ w' = w := by
  go_enter Tryd.func28, Tryd.ntmps28
  go_wp2
  go_loop [3, 4] (fun n i => ∃ k : Nat, k ≤ s.size ∧ i = .int .i64 k ∧ n = .int .i64 ((valN (s.data.toList.take k) : Nat) : Int) ∧ (s.data.toList.take k).all numb = true) (fun _ i => s.size - (intOf i).toNat)
  case atStart => exact ⟨0, Nat.zero_le _, rfl, rfl, rfl⟩
  case round =>
    obtain ⟨k, hk, rfl, rfl, hall⟩ := hrel
    have Hall := hideB2 hall
    clear hall
    have hvl : valN (s.data.toList.take k) < 100000000 := by
      have h1 := valN_lt (s.data.toList.take k)
      have h3 : 10 ^ (s.data.toList.take k).length ≤ 10 ^ 8 := Nat.pow_le_pow_right (by decide) (by simp; omega)
      have h4 : (10 : Nat) ^ 8 = 100000000 := by decide
      omega
    by_cases hlt : k < s.size
    · have hval : Hid (valN (s.data.toList.take (k + 1)) = valN (s.data.toList.take k) * 10 + dv (at8 s k)) := by
        show _ = _
        rw [allDig_take_succ s k hlt, valN_snoc]
      have hal2 : Hid ((s.data.toList.take (k + 1)).all numb = numb (at8 s k)) := by
        show _ = _
        rw [allDig_take_succ s k hlt, all_snoc, Hall.out]; rfl
      by_cases hbl : at8 s k = 32
      · have hq : ((s[k].toNat : Int) == 32) = true := by rw [beq_iff_eq, at8_eq s k hlt, hbl]; rfl
        have hdv : Hid (dv (at8 s k) = 0) := by show _ = _; rw [hbl]; decide
        have hnb : Hid (numb (at8 s k) = true) := by show _ = _; rw [hbl]; decide
        clear hbl
        generalize valN (s.data.toList.take k) = v at *
        go_wp2
        go_round
        case rel => exact ⟨k + 1, by omega, by go_num, congrArg (Value.int .i64) (by rw [hval.out, hdv.out]; omega), by rw [hal2.out]; exact hnb.out⟩
        case measure => simp [intOf]; omega
      · have hq : ((s[k].toNat : Int) == 32) = false := by
          rw [beq_eq_false_iff_ne, at8_eq s k hlt]
          intro hh
          apply hbl
          apply UInt8.toNat_inj.1
          show (at8 s k).toNat = 32
          omega
        cases hg0 : dig8 (at8 s k)
        · have hg : digP (s[k].toNat : Int) = false := by rw [at8_eq s k hlt]; exact hg0
          have hfin : Hid (nS s = -1) := nS_no hlt (by unfold numb; rw [hg0]; simp [hbl])
          clear hg0 hbl
          generalize valN (s.data.toList.take k) = v at *
          go_wp2_with (go_at_call 30; refine (l1digit_any _ _).mono ?_; rintro e w' ⟨rfl, rfl⟩)
          go_ret
          exact ⟨ret_int hfin.out, rfl⟩
        · have hg : digP (s[k].toNat : Int) = true := by rw [at8_eq s k hlt]; exact hg0
          have hb := (dig8_iff _).1 hg0
          have hdv : Hid (dv (at8 s k) = s[k].toNat - 48) := by show _ = _; unfold dv; rw [if_pos hg0, at8_eq s k hlt]
          have hnb : Hid (numb (at8 s k) = true) := by show _ = _; unfold numb; rw [hg0]; simp
          have hb1 : 48 ≤ s[k].toNat := by rw [at8_eq s k hlt]; exact hb.1
          have hb2 : s[k].toNat ≤ 57 := by rw [at8_eq s k hlt]; exact hb.2
          clear hg0 hb hbl
          generalize valN (s.data.toList.take k) = v at *
          go_wp2_with (go_at_call 30; refine (l1digit_any _ _).mono ?_; rintro e w' ⟨rfl, rfl⟩)
          go_round
          case rel => exact ⟨k + 1, by omega, by go_num, congrArg (Value.int .i64) (by rw [hval.out, hdv.out]; omega), by rw [hal2.out]; exact hnb.out⟩
          case measure => simp [intOf]; omega
    · obtain rfl : k = s.size := by omega
      have ht : s.data.toList.take s.size = s.data.toList := List.take_of_length_le (by rw [len_data]; exact Nat.le_refl _)
      rw [ht] at Hall ⊢
      have hfin := hideB2 (nS_yes Hall.out)
      clear ht hvl
      generalize valN s.data.toList = v at *
      go_wp2
      go_ret
      exact ⟨ret_int hfin.out, rfl⟩
set_option maxHeartbeats 4000000 in
theorem l2at_no (y m d : Int) (c : ByteArray) (w : World) (hc : c.size = 8) (hv : vldB y m d (nS (c.extract 0 2)) (nS (c.extract 3 5)) (nS (c.extract 6 8)) = false) :
    Calls Tryd.prog 27 #[.int .i64 y, .int .i64 m, .int .i64 d, .string c] w fun e w' => e = .returned (.int .i64 (-1)) ∧ Below w.heap.size w w' := by
  have e0 : (c.extract 0 2).size ≤ 8 := by rw [ext_size c 0 2 (by omega) (by omega)]; omega
  have e1 : (c.extract 3 5).size ≤ 8 := by rw [ext_size c 3 5 (by omega) (by omega)]; omega
  have e2 : (c.extract 6 8).size ≤ 8 := by rw [ext_size c 6 8 (by omega) (by omega)]; omega
  have HS := hideB2 (fun w => sSecondsOf_no y m d (nS (c.extract 0 2)) (nS (c.extract 3 5)) (nS (c.extract 6 8)) w hv)
  clear hv
  go_enter Tryd.func27, Tryd.ntmps27
  go_wp2
  refine wp_region_grow ?_ ?_ ?_
  · kernel_rfl
  · kernel_rfl
  · intro hne
    repeat (go_big_quiet_step (first
      | (go_at_call 28; exact grow_same (l2num_any _ _ (by assumption)))
      | (go_at_call 44; exact grow_call (HS.out _))))
    refine wpQuiet_nil ?_
    rintro _ ⟨V, rfl⟩
    have hb := grw_below w V
    clear HS
    go_wp2
    go_ret
    exact ⟨rfl, hb⟩
set_option maxHeartbeats 4000000 in
theorem l2at_yes (y : Int) (m : Nat) (d h i s : Int) (c : ByteArray) (w : World) (hc : c.size = 8) (h0 : nS (c.extract 0 2) = h) (h1 : nS (c.extract 3 5) = i) (h2 : nS (c.extract 6 8) = s) (hv : vldB y m d h i s = true) :
    Calls Tryd.prog 27 #[.int .i64 y, .int .i64 (m : Int), .int .i64 d, .string c] w fun e w' => e = .returned (.int .i64 (secs y m d h i s)) ∧ Below w.heap.size w w' := by
  subst h0 h1 h2
  have e0 : (c.extract 0 2).size ≤ 8 := by rw [ext_size c 0 2 (by omega) (by omega)]; omega
  have e1 : (c.extract 3 5).size ≤ 8 := by rw [ext_size c 3 5 (by omega) (by omega)]; omega
  have e2 : (c.extract 6 8).size ≤ 8 := by rw [ext_size c 6 8 (by omega) (by omega)]; omega
  have HS := hideB2 (fun w => sSecondsOf_yes y m d (nS (c.extract 0 2)) (nS (c.extract 3 5)) (nS (c.extract 6 8)) w hv)
  clear hv
  go_enter Tryd.func27, Tryd.ntmps27
  go_wp2
  refine wp_region_grow ?_ ?_ ?_
  · kernel_rfl
  · kernel_rfl
  · intro hne
    repeat (go_big_quiet_step (first
      | (go_at_call 28; exact grow_same (l2num_any _ _ (by assumption)))
      | (go_at_call 44; exact grow_call (HS.out _))))
    refine wpQuiet_nil ?_
    rintro _ ⟨V, rfl⟩
    have hb := grw_below w V
    clear HS
    go_wp2
    go_ret
    exact ⟨rfl, hb⟩
end Go.Proofs.YtffjpidjhcnnmabDoor
