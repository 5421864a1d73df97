/-
  Chapter 5: may a field stand in a head? Both sides.
-/
import Derived.Test.YtaelopjalfapgacFM
import Derived.Test.YtaelopjalfapgacW3
import Derived.Test.YtaelopjalfapgacW7
namespace Go.Proofs.Ytaelopjalfapgac
set_option linter.unusedVariables false
set_option linter.unusedSimpArgs false
open Go.RowKit
theorem fieldQ_no1 {x : Fd} (h : ¬ (x.1.size : Int) ≤ 40) : fieldQ x = false := by
  cases hh : fieldQ x with
  | false => rfl
  | true => exact absurd (fieldQ_iff.1 hh).1 (by omega)
theorem fieldQ_no2 {x : Fd} (h : tokB x.1 = false) : fieldQ x = false := by unfold fieldQ; simp [h]
theorem fieldQ_yes2 {x : Fd} (h1 : (x.1.size : Int) ≤ 40) (h : tokB x.1 = true) : fieldQ x = valQ x.2 := by
  have h0 : x.1.size ≤ 40 := by omega
  unfold fieldQ; simp [h, h0]
theorem valQ_no1 {v : ByteArray} (h : ¬ (v.size : Int) ≤ 190) : valQ v = false := by
  cases hh : valQ v with
  | false => rfl
  | true => exact absurd (valQ_iff.1 hh).1 (by omega)
theorem valQ_no2 {v : ByteArray} (h : plnB v = false) : valQ v = false := by unfold valQ; simp [h]
theorem valQ_yes2 {v : ByteArray} (h1 : (v.size : Int) ≤ 190) (h : plnB v = true) : valQ v = eqB (trimB v) v := by
  have h0 : v.size ≤ 190 := by omega
  unfold valQ; simp [h, h0]
set_option maxHeartbeats 1000000 in
theorem plainText_any (s : ByteArray) (w : World) (hs : s.size ≤ maxLen) :
    Calls Try.prog 79 #[.string s] w fun e w' => e = .returned (.bool (plnB s)) ∧ w' = w := by
  unfold maxLen at hs
  go_enter Try.func79, Try.ntmps79
  go_wp2
  go_loop [6] (fun i => ∃ k : Nat, k ≤ s.size ∧ i = .int .i64 k ∧ ∀ j, j < k → plain8 (at8 s j) = true) (fun i => s.size - (intOf i).toNat)
  case atStart => exact ⟨0, Nat.zero_le _, rfl, fun j hj => by omega⟩
  case round =>
    obtain ⟨k, hk, rfl, hall⟩ := hrel
    have Hall : Hid (∀ j, j < k → plain8 (at8 s j) = true) := hall
    clear hall
    by_cases hlt : k < s.size
    · cases hg0 : plain8 (at8 s k)
      · have hg : plainP (s[k].toNat : Int) = false := by rw [at8_eq s k hlt]; exact hg0
        have hfin : Hid (plnB s = false) := plnB_no hlt hg0
        clear hg0
        go_wp2_with (go_at_call 80; refine (plainByte_any _ _).mono ?_; rintro e w' ⟨rfl, rfl⟩)
        go_ret
        exact ⟨ret_bool hfin.out, rfl⟩
      · have hg : plainP (s[k].toNat : Int) = true := by rw [at8_eq s k hlt]; exact hg0
        have Hg : Hid (plain8 (at8 s k) = true) := hg0
        clear hg0
        go_wp2_with (go_at_call 80; refine (plainByte_any _ _).mono ?_; rintro e w' ⟨rfl, rfl⟩)
        go_round
        case rel => exact ⟨k + 1, by omega, by go_num, all_succ Hall.out Hg.out⟩
        case measure => simp [intOf]; omega
    · have hfin : Hid (plnB s = true) := plnB_yes (fun j hj => Hall.out j (by omega))
      go_wp2
      go_ret
      exact ⟨ret_bool hfin.out, rfl⟩
set_option maxHeartbeats 1000000 in
theorem valueOk_any (s : ByteArray) (w : World) (hs : s.size ≤ maxLen) :
    Calls Try.prog 75 #[.string s] w fun e w' => e = .returned (.bool (valQ s)) ∧ w' = w := by
  have hs' := hs
  unfold maxLen at hs'
  by_cases h1 : (s.size : Int) ≤ 190
  · cases h2 : plnB s
    · rw [valQ_no2 h2]
      go_enter Try.func75, Try.ntmps75
      go_wp2_with (first | (go_at_call 79; refine (plainText_any _ _ hs).mono ?_; rintro e w' ⟨rfl, rfl⟩))
      go_ret
      exact ⟨rfl, rfl⟩
    · rw [valQ_yes2 h1 h2]
      go_enter Try.func75, Try.ntmps75
      go_wp2_with (first | (go_at_call 79; refine (plainText_any _ _ hs).mono ?_; rintro e w' ⟨rfl, rfl⟩) | (go_at_call 66; refine (Trim_any _ _ hs).mono ?_; rintro e w' ⟨rfl, rfl⟩))
      go_ret
      exact ⟨rfl, rfl⟩
  · rw [valQ_no1 h1]
    go_enter Try.func75, Try.ntmps75
    go_wp2
    go_ret
    exact ⟨rfl, rfl⟩
set_option maxHeartbeats 1000000 in
theorem FieldOk_any (d s : ByteArray) (w : World) (hd : d.size ≤ maxLen) (hs : s.size ≤ maxLen) :
    Calls Try.prog 67 #[.agg #[.string d, .string s]] w fun e w' => e = .returned (.bool (fieldQ (d, s))) ∧ Below w.heap.size w w' := by
  have hd' := hd
  unfold maxLen at hd'
  have HB := hideB2 (below_a1 w (.cells #[.string d, .string s] 51))
  by_cases h1 : (d.size : Int) ≤ 40
  · cases h2 : tokB d
    · rw [fieldQ_no2 (x := (d, s)) h2]
      go_enter Try.func67, Try.ntmps67
      go_wp2_with (first | (go_at_call 74; refine (Token_any _ _ hd).mono ?_; rintro e w' ⟨rfl, rfl⟩))
      go_ret
      exact ⟨rfl, HB.out⟩
    · rw [fieldQ_yes2 (x := (d, s)) h1 h2]
      generalize hv : valQ s = q
      have HV := hideB2 hv
      clear hv
      go_enter Try.func67, Try.ntmps67
      go_wp2_with (first | (go_at_call 74; refine (Token_any _ _ hd).mono ?_; rintro e w' ⟨rfl, rfl⟩) | (go_at_call 75; refine (valueOk_any _ _ hs).mono ?_; rintro e w' ⟨rfl, rfl⟩; rw [HV.out]))
      go_ret
      exact ⟨rfl, HB.out⟩
  · rw [fieldQ_no1 (x := (d, s)) h1]
    go_enter Try.func67, Try.ntmps67
    go_wp2
    go_ret
    exact ⟨rfl, HB.out⟩
set_option maxHeartbeats 1000000 in
theorem l5plain_any (s : ByteArray) (w : World) (hs : s.size ≤ maxLen) :
    Calls Try.prog 51 #[.string s] w fun e w' => e = .returned (.bool (plnB s)) ∧ w' = w := by
  unfold maxLen at hs
  go_enter Try.func51, Try.ntmps51
  go_wp2
  go_loop [3] (fun i => ∃ k : Nat, k ≤ s.size ∧ i = .int .i64 k ∧ ∀ j, j < k → plain8 (at8 s j) = true) (fun i => s.size - (intOf i).toNat)
  case atStart => exact ⟨0, Nat.zero_le _, rfl, fun j hj => by omega⟩
  case round =>
    obtain ⟨k, hk, rfl, hall⟩ := hrel
    have Hall : Hid (∀ j, j < k → plain8 (at8 s j) = true) := hall
    clear hall
    by_cases hlt : k < s.size
    · cases hg0 : plain8 (at8 s k)
      · have hg : plainP (s[k].toNat : Int) = false := by rw [at8_eq s k hlt]; exact hg0
        have hfin : Hid (plnB s = false) := plnB_no hlt hg0
        clear hg0
        go_wp2_with (go_at_call 60; refine (l1plain_any _ _).mono ?_; rintro e w' ⟨rfl, rfl⟩)
        go_ret
        exact ⟨ret_bool hfin.out, rfl⟩
      · have hg : plainP (s[k].toNat : Int) = true := by rw [at8_eq s k hlt]; exact hg0
        have Hg : Hid (plain8 (at8 s k) = true) := hg0
        clear hg0
        go_wp2_with (go_at_call 60; refine (l1plain_any _ _).mono ?_; rintro e w' ⟨rfl, rfl⟩)
        go_round
        case rel => exact ⟨k + 1, by omega, by go_num, all_succ Hall.out Hg.out⟩
        case measure => simp [intOf]; omega
    · have hfin : Hid (plnB s = true) := plnB_yes (fun j hj => Hall.out j (by omega))
      go_wp2
      go_ret
      exact ⟨ret_bool hfin.out, rfl⟩
set_option maxHeartbeats 1000000 in
theorem sFieldOk_any (d s : ByteArray) (w : World) (hd : d.size ≤ maxLen) (hs : s.size ≤ maxLen) :
    Calls Try.prog 43 #[.agg #[.string d, .string s]] w fun e w' => e = .returned (.bool (fieldQ (d, s))) ∧ Below w.heap.size w w' := by
  have hd' := hd
  have hs' := hs
  unfold maxLen at hd' hs'
  have HB := hideB2 (below_a1 w (.cells #[.string d, .string s] 51))
  by_cases h1 : (d.size : Int) ≤ 40
  · cases h2 : tokB d
    · skip
      rw [fieldQ_no2 (x := (d, s)) h2]
      go_enter Try.func43, Try.ntmps43
      go_wp2
      refine wp_region_quiet_lit ?_ ?_ ?_
      · kernel_rfl
      · kernel_rfl
      · repeat (go_big_quiet_step ((first | (go_at_call 50; exact Calls.quiet_of_same (sToken_any _ _ hd)) | (go_at_call 51; exact Calls.quiet_of_same (l5plain_any _ _ hs)) | (go_at_call 42; exact Calls.quiet_of_same (sTrim_any _ _ hs)))))
        refine wpQuiet_nil ?_
        rintro _ ⟨nq, rfl⟩
        go_wp2
        go_ret
        exact ⟨rfl, below_drewN HB.out _⟩
    · rw [fieldQ_yes2 (x := (d, s)) h1 h2]
      by_cases h3 : (s.size : Int) ≤ 190
      · cases h4 : plnB s
        · skip
          rw [show valQ (d, s).2 = false from valQ_no2 h4]
          go_enter Try.func43, Try.ntmps43
          go_wp2
          refine wp_region_quiet_lit ?_ ?_ ?_
          · kernel_rfl
          · kernel_rfl
          · repeat (go_big_quiet_step ((first | (go_at_call 50; exact Calls.quiet_of_same (sToken_any _ _ hd)) | (go_at_call 51; exact Calls.quiet_of_same (l5plain_any _ _ hs)) | (go_at_call 42; exact Calls.quiet_of_same (sTrim_any _ _ hs)))))
            refine wpQuiet_nil ?_
            rintro _ ⟨nq, rfl⟩
            go_wp2
            go_ret
            exact ⟨rfl, below_drewN HB.out _⟩
        · skip
          rw [show valQ (d, s).2 = eqB (trimB s) s from valQ_yes2 h3 h4]
          go_enter Try.func43, Try.ntmps43
          go_wp2
          refine wp_region_quiet_lit ?_ ?_ ?_
          · kernel_rfl
          · kernel_rfl
          · repeat (go_big_quiet_step ((first | (go_at_call 50; exact Calls.quiet_of_same (sToken_any _ _ hd)) | (go_at_call 51; exact Calls.quiet_of_same (l5plain_any _ _ hs)) | (go_at_call 42; exact Calls.quiet_of_same (sTrim_any _ _ hs)))))
            refine wpQuiet_nil ?_
            rintro _ ⟨nq, rfl⟩
            go_wp2
            go_ret
            exact ⟨rfl, below_drewN HB.out _⟩
      · have c3 : decide ((s.size : Int) ≤ 190) = false := decide_eq_false h3
        rw [show valQ (d, s).2 = false from valQ_no1 h3]
        go_enter Try.func43, Try.ntmps43
        go_wp2
        refine wp_region_quiet_lit ?_ ?_ ?_
        · kernel_rfl
        · kernel_rfl
        · repeat (go_big_quiet_step ((first | (go_at_call 50; exact Calls.quiet_of_same (sToken_any _ _ hd)) | (go_at_call 51; exact Calls.quiet_of_same (l5plain_any _ _ hs)) | (go_at_call 42; exact Calls.quiet_of_same (sTrim_any _ _ hs)))))
          refine wpQuiet_nil ?_
          rintro _ ⟨nq, rfl⟩
          go_wp2
          go_ret
          exact ⟨rfl, below_drewN HB.out _⟩
  · have c3 : decide ((d.size : Int) ≤ 40) = false := decide_eq_false h1
    rw [fieldQ_no1 (x := (d, s)) h1]
    go_enter Try.func43, Try.ntmps43
    go_wp2
    refine wp_region_quiet_lit ?_ ?_ ?_
    · kernel_rfl
    · kernel_rfl
    · repeat (go_big_quiet_step ((first | (go_at_call 50; exact Calls.quiet_of_same (sToken_any _ _ hd)) | (go_at_call 51; exact Calls.quiet_of_same (l5plain_any _ _ hs)) | (go_at_call 42; exact Calls.quiet_of_same (sTrim_any _ _ hs)))))
      refine wpQuiet_nil ?_
      rintro _ ⟨nq, rfl⟩
      go_wp2
      go_ret
      exact ⟨rfl, below_drewN HB.out _⟩
end Go.Proofs.Ytaelopjalfapgac
