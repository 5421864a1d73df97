/-
  The walks over chapter 1: ReadDec.
-/
import Derived.Test.YtffjpidjhcnnmabDoorW4
namespace Go.Proofs.YtffjpidjhcnnmabDoor
set_option linter.unusedVariables false
set_option linter.unusedSimpArgs false
open Go.RowKit

def rdecN (s : ByteArray) : Int := ((rdec s).getD 0 : Nat)
def rdecOk (s : ByteArray) : Bool := (rdec s).isSome
theorem rdec_none {s : ByteArray} (h : rdec s = none) : rdecN s = 0 ∧ rdecOk s = false := by simp [rdecN, rdecOk, h]
theorem rdec_some {s : ByteArray} {u : Nat} (h : rdec s = some u) : rdecN s = (u : Int) ∧ rdecOk s = true := by simp [rdecN, rdecOk, h]
theorem ret_ib {k : IntKind} {n m : Int} {a b : Bool} (h : m = n) (h' : b = a) : Ending.returned (.tuple #[.int k n, .bool a]) = .returned (.tuple #[.int k m, .bool b]) := by rw [h, h']

set_option maxHeartbeats 1000000 in
theorem sReadDec_any (s : ByteArray) (w : World) (hs : s.size ≤ maxLen) :
    Calls Tryd.prog 16 #[.string s] w fun e w' => e = .returned (.tuple #[.int .i64 (rdecN s), .bool (rdecOk s)]) ∧ Below w.heap.size w w' := by
  unfold maxLen at hs
  by_cases h0 : s.size = 0
  · have hr := rdec_none (rdec_size s (Or.inl h0))
    have hne : ((s.size : Int) == 0) = true := by rw [beq_iff_eq]; omega
    rw [hr.1, hr.2]
    clear hr
    go_enter Tryd.func16, Tryd.ntmps16
    go_wp2
    go_ret2
    exact ⟨rfl, Below.refl _ _⟩
  · have hne2 : ((s.size : Int) == 0) = false := by rw [Bool.eq_false_iff, ne_eq, beq_iff_eq]; omega
    by_cases hbig : (15 : Int) < (s.size : Int)
    · have hr := rdec_none (rdec_size s (Or.inr (by omega)))
      rw [hr.1, hr.2]
      clear hr
      go_enter Tryd.func16, Tryd.ntmps16
      go_wp2
      go_ret2
      exact ⟨rfl, Below.refl _ _⟩
    · go_enter Tryd.func16, Tryd.ntmps16
      go_wp2
      clear hne2
      go_loop [4, 5] (fun n i => ∃ k : Nat, k ≤ s.size ∧ i = .int .i64 k ∧ n = .int .i64 (valL (s.data.toList.take k) : Nat) ∧ allDig (s.data.toList.take k) = true) (fun _ i => s.size - (intOf i).toNat)
      case atStart => exact ⟨0, Nat.zero_le _, rfl, rfl, rfl⟩
      case round =>
        obtain ⟨k, hk, rfl, rfl, hall⟩ := hrel
        have Hall : Hid (allDig (s.data.toList.take k) = true) := hall
        have hvl : valL (s.data.toList.take k) < 1000000000000000 := by
          have h1 := valL_lt _ hall
          have h3 : 10 ^ (s.data.toList.take k).length ≤ 10 ^ 15 := Nat.pow_le_pow_right (by decide) (by simp; omega)
          have h4 : (10 : Nat) ^ 15 = 1000000000000000 := by decide
          omega
        clear hall
        by_cases hlt : k < s.size
        · cases hg0 : dig8 (at8 s k)
          · have hg : digP (s[k].toNat : Int) = false := by rw [at8_eq s k hlt]; exact hg0
            have hfin : Hid (rdecN s = 0 ∧ rdecOk s = false) := rdec_none (rdec_nodig s k hlt hg0)
            clear hg0
            go_wp2_with (go_at_call 30; refine (l1digit_any _ _).mono ?_; rintro e w' ⟨rfl, rfl⟩)
            go_ret2
            exact ⟨ret_ib hfin.out.1 hfin.out.2, Below.refl _ _⟩
          · have hg : digP (s[k].toNat : Int) = true := by rw [at8_eq s k hlt]; exact hg0
            have hb := (dig8_iff _).1 hg0
            have hval : Hid (valL (s.data.toList.take (k + 1)) = valL (s.data.toList.take k) * 10 + (s[k].toNat - 48)) := by
              show _ = _
              rw [allDig_take_succ s k hlt, valL_snoc, at8_eq s k hlt]
            have Hall2 : Hid (allDig (s.data.toList.take (k + 1)) = true) := by
              show _ = _
              rw [allDig_take_succ s k hlt]; exact allDig_snoc _ _ Hall.out hg0
            have hb1 : 48 ≤ s[k].toNat := by rw [at8_eq s k hlt]; exact hb.1
            have hb2 : s[k].toNat ≤ 57 := by rw [at8_eq s k hlt]; exact hb.2
            clear hg0 hb
            generalize valL (s.data.toList.take k) = v at *
            go_wp2_with (go_at_call 30; refine (l1digit_any _ _).mono ?_; rintro e w' ⟨rfl, rfl⟩)
            go_round
            case rel => exact ⟨k + 1, by omega, by go_num, congrArg (Value.int .i64) (by rw [hval.out]; omega), Hall2.out⟩
            case measure => simp [intOf]; omega
        · obtain rfl : k = s.size := by omega
          have ht : s.data.toList.take s.size = s.data.toList := List.take_of_length_le (by rw [len_data]; exact Nat.le_refl _)
          rw [ht] at Hall hvl ⊢
          have hd := decDigits_len (valL s.data.toList) (by omega)
          have hfin : Hid ((eqB (decB (valL s.data.toList)) s = true ∧ rdecN s = (valL s.data.toList : Nat) ∧ rdecOk s = true) ∨ (eqB (decB (valL s.data.toList)) s = false ∧ rdecN s = 0 ∧ rdecOk s = false)) := by
            show _ ∨ _
            by_cases he : Lib.decDigits (valL s.data.toList) = s.data.toList
            · left
              exact ⟨eqB_iff.2 (bytes_ext he), rdec_some (rdec_yes s (by omega) (by omega) Hall.out he)⟩
            · right
              refine ⟨Bool.eq_false_iff.2 (fun hh => he ?_), rdec_none (rdec_ne s he)⟩
              exact (decB_list _).symm.trans (congrArg (fun x : ByteArray => x.data.toList) (eqB_iff.1 hh))
          clear Hall ht hd
          generalize valL s.data.toList = v at *
          rcases hfin.out with ⟨he, hn, ho⟩ | ⟨he, hn, ho⟩
          all_goals
            have HF : Hid (rdecN s = _ ∧ rdecOk s = _) := ⟨hn, ho⟩
            clear hn ho hfin
            unfold eqB at he
            go_wp2_with (go_at_call 31; refine (sDecText_nat _ _ (by omega)).mono ?_; rintro e w1 ⟨rfl, hb⟩)
            go_ret2
            exact ⟨ret_ib HF.out.1 HF.out.2, hb⟩
set_option maxHeartbeats 1000000 in
theorem ReadDec_any (s : ByteArray) (w : World) (hs : s.size ≤ maxLen) :
    Calls Tryd.prog 40 #[.string s] w fun e w' => e = .returned (.tuple #[.int .i64 (rdecN s), .bool (rdecOk s)]) ∧ w' = w := by
  unfold maxLen at hs
  by_cases h0 : s.size = 0
  · have hr := rdec_none (rdec_size s (Or.inl h0))
    have hne : s.toList.isEmpty = true := by rw [ByteArray.toList_eq, List.isEmpty_iff, ← List.length_eq_zero_iff, Array.length_toList]; exact h0
    rw [hr.1, hr.2]
    clear hr
    go_enter Tryd.func40, Tryd.ntmps40
    go_wp2
    go_ret2
    exact ⟨rfl, rfl⟩
  · have hne : s.toList.isEmpty = false := by
      rw [ByteArray.toList_eq, List.isEmpty_eq_false_iff]
      intro hh
      apply h0
      rw [← len_data, hh]; rfl
    have hpos : 0 < s.size := by omega
    by_cases hz : (at8 s 0).toNat = 48 ∧ s.data.toList ≠ [48]
    · have hr := rdec_none (rdec_zero s hpos hz.1 hz.2)
      have hq1 : ((s[0].toNat : Int) == 48) = true := by rw [beq_iff_eq, at8_eq s 0 hpos]; omega
      have hq2 : (s.toList == [48]) = false := by rw [ByteArray.toList_eq, beq_eq_false_iff_ne]; exact hz.2
      rw [hr.1, hr.2]
      clear hr hz
      go_enter Tryd.func40, Tryd.ntmps40
      go_wp2
      go_ret2
      exact ⟨rfl, rfl⟩
    · have hz' : Hid ((at8 s 0).toNat ≠ 48 ∨ s.data.toList = [48]) := by
        show _ ∨ _
        by_cases h1 : (at8 s 0).toNat = 48
        · right; exact Classical.byContradiction fun h2 => hz ⟨h1, h2⟩
        · left; exact h1
      have hway : (((s[0].toNat : Int) == 48) = false) ∨ (((s[0].toNat : Int) == 48) = true ∧ (s.toList == [48]) = true) := by
        rcases hz'.out with h | h
        · left; rw [beq_eq_false_iff_ne, at8_eq s 0 hpos]; omega
        · by_cases h1 : ((s[0].toNat : Int) == 48) = true
          · right; exact ⟨h1, by rw [ByteArray.toList_eq, h]; rfl⟩
          · left; simpa using h1
      clear hz
      rcases hway with hq1 | ⟨hq1, hq2⟩
      all_goals
        go_enter Tryd.func40, Tryd.ntmps40
        go_wp2
        clear hne
        go_loop [4, 19] (fun n i => ∃ k : Nat, k ≤ s.size ∧ i = .int .i64 k ∧ n = .int .i64 (valL (s.data.toList.take k) : Nat) ∧ allDig (s.data.toList.take k) = true ∧ valL (s.data.toList.take k) ≤ 999999999999999) (fun _ i => s.size - (intOf i).toNat)
        case atStart => exact ⟨0, Nat.zero_le _, rfl, rfl, rfl, by simp [valL]⟩
        case round =>
          obtain ⟨k, hk, rfl, rfl, hall, hvl⟩ := hrel
          have Hall : Hid (allDig (s.data.toList.take k) = true) := hall
          clear hall
          by_cases hlt : k < s.size
          · cases hg0 : dig8 (at8 s k)
            · have hg : digP (s[k].toNat : Int) = false := by rw [at8_eq s k hlt]; exact hg0
              have hfin : Hid (rdecN s = 0 ∧ rdecOk s = false) := rdec_none (rdec_nodig s k hlt hg0)
              clear hg0
              go_wp2_with (go_at_call 55; refine (digitByte_any _ _).mono ?_; rintro e w' ⟨rfl, rfl⟩)
              go_ret2
              exact ⟨ret_ib hfin.out.1 hfin.out.2, rfl⟩
            · have hg : digP (s[k].toNat : Int) = true := by rw [at8_eq s k hlt]; exact hg0
              have hb := (dig8_iff _).1 hg0
              have hval0 : valL (s.data.toList.take (k + 1)) = valL (s.data.toList.take k) * 10 + (s[k].toNat - 48) := by
                rw [allDig_take_succ s k hlt, valL_snoc, at8_eq s k hlt]
              have Hall2 : Hid (allDig (s.data.toList.take (k + 1)) = true) := by
                show _ = _
                rw [allDig_take_succ s k hlt]; exact allDig_snoc _ _ Hall.out hg0
              have hb1 : 48 ≤ s[k].toNat := by rw [at8_eq s k hlt]; exact hb.1
              have hb2 : s[k].toNat ≤ 57 := by rw [at8_eq s k hlt]; exact hb.2
              have hbig : Hid (999999999999999 < valL (s.data.toList.take (k + 1)) → rdecN s = 0 ∧ rdecOk s = false) := fun h => rdec_none (rdec_big s (k + 1) hlt Hall2.out h)
              have hval : Hid (valL (s.data.toList.take (k + 1)) = valL (s.data.toList.take k) * 10 + (s[k].toNat - 48)) := hval0
              clear hg0 hb hval0
              generalize valL (s.data.toList.take k) = v at *
              by_cases hover : (999999999999999 : Int) < (v : Int) * 10 + ((s[k].toNat : Int) - 48)
              · go_wp2_with (go_at_call 55; refine (digitByte_any _ _).mono ?_; rintro e w' ⟨rfl, rfl⟩)
                go_ret2
                have hh := hbig.out (by rw [hval.out]; omega)
                exact ⟨ret_ib hh.1 hh.2, rfl⟩
              · go_wp2_with (go_at_call 55; refine (digitByte_any _ _).mono ?_; rintro e w' ⟨rfl, rfl⟩)
                go_round
                case rel => exact ⟨k + 1, by omega, by go_num, congrArg (Value.int .i64) (by rw [hval.out]; omega), Hall2.out, by rw [hval.out]; omega⟩
                case measure => simp [intOf]; omega
          · obtain rfl : k = s.size := by omega
            have ht : s.data.toList.take s.size = s.data.toList := List.take_of_length_le (by rw [len_data]; exact Nat.le_refl _)
            rw [ht] at Hall hvl ⊢
            have hfin : Hid (rdecN s = (valL s.data.toList : Nat) ∧ rdecOk s = true) := rdec_some (rdec_end s hpos Hall.out hz'.out hvl)
            clear ht
            generalize valL s.data.toList = v at *
            go_wp2
            go_ret2
            exact ⟨ret_ib hfin.out.1 hfin.out.2, rfl⟩
end Go.Proofs.YtffjpidjhcnnmabDoor
