/-
  A text cut at its first byte c; up to a byte; both sides.
-/
import Derived.Test.YtffjpidjhcnnmabDoorMSg
import Derived.Test.YtffjpidjhcnnmabDoorB0
import Derived.Test.YtffjpidjhcnnmabDoorSIl
import Derived.Deep.DeepCutAuto
namespace Go.Proofs.YtffjpidjhcnnmabDoor
set_option linter.unusedVariables false
set_option linter.unusedSimpArgs false
open Go.RowKit
/-- A text up to the first byte c, or whole. -/
def uptS (c : UInt8) (s : ByteArray) : ByteArray := if idxS c s < 0 then s else s.extract 0 (idxS c s).toNat
theorem uptS_none {c : UInt8} {s : ByteArray} (h : idxS c s = -1) : uptS c s = s := by unfold uptS; rw [h]; rfl
theorem uptS_some {c : UInt8} {s : ByteArray} {i : Nat} (h : idxS c s = (i : Int)) : uptS c s = s.extract 0 i := by
  unfold uptS; rw [h, if_neg (by omega), Int.toNat_natCast]
set_option maxHeartbeats 1000000 in
theorem l6uptoS_any (s : ByteArray) (c : UInt8) (w : World) (hs : s.size ≤ maxLen) :
    Calls Tryd.prog 10 #[.string s, .int .u8 (c.toNat : Int)] w fun e w' => e = .returned (.string (uptS c s)) ∧ w' = w := by
  unfold maxLen at hs
  generalize hR : uptS c s = R
  have HR := hideB2 hR
  clear hR
  go_enter Tryd.func10, Tryd.ntmps10
  go_wp2
  go_loop [5] (fun i => ∃ k : Nat, k ≤ s.size ∧ i = .int .i64 k ∧ ∀ j, j < k → at8 s j ≠ c) (fun i => s.size - (intOf i).toNat)
  case atStart => exact ⟨0, Nat.zero_le _, rfl, fun j hj => by omega⟩
  case round =>
    obtain ⟨k, hk, rfl, hall⟩ := hrel
    have HA := hideB2 hall
    clear hall
    by_cases hlt : k < s.size
    · have hat : s[k] = at8 s k := at8_eq s k hlt
      have hcc : ((s[k].toNat : Int) == (c.toNat : Int)) = (at8 s k == c) := by rw [hat]; exact u8_beq _ _
      clear hat
      cases hq : (at8 s k == c)
      · rw [hq] at hcc
        have HQ := hideB2 (show at8 s k ≠ c from beq_eq_false_iff_ne.1 hq)
        clear hq
        go_wp2
        go_round
        case rel => exact ⟨k + 1, by omega, by go_num, all_succ HA.out HQ.out⟩
        case measure => simp [intOf]; omega
      · rw [hq] at hcc
        have HF := hideB2 (show R = s.extract 0 k by rw [← HR.out]; exact uptS_some (idxS_of hlt (beq_iff_eq.1 hq) HA.out))
        clear hq
        have c1 : (k : Int) ≤ (s.size : Int) := by omega
        go_wp2
        go_ret
        exact ⟨ret_str HF.out, rfl⟩
    · have HF := hideB2 (show R = s by rw [← HR.out]; exact uptS_none (idxS_miss (fun j hj => HA.out j (by omega))))
      go_wp2
      go_ret
      exact ⟨ret_str HF.out, rfl⟩
/-- What stands behind the first byte c, and is there one? -/
def bhS (c : UInt8) (s : ByteArray) : ByteArray := if idxS c s < 0 then ⟨#[]⟩ else s.extract ((idxS c s).toNat + 1) s.size
def hasS (c : UInt8) (s : ByteArray) : Bool := decide (0 ≤ idxS c s)
theorem cut_none {c : UInt8} {s : ByteArray} (h : idxS c s = -1) : uptS c s = s ∧ bhS c s = ⟨#[]⟩ ∧ hasS c s = false := by
  refine ⟨uptS_none h, ?_, ?_⟩
  · unfold bhS; rw [h]; rfl
  · unfold hasS; rw [h]; rfl
theorem cut_some {c : UInt8} {s : ByteArray} {i : Nat} (h : idxS c s = (i : Int)) : uptS c s = s.extract 0 i ∧ bhS c s = s.extract (i + 1) s.size ∧ hasS c s = true := by
  refine ⟨uptS_some h, ?_, ?_⟩
  · unfold bhS; rw [h, if_neg (by omega), Int.toNat_natCast]
  · unfold hasS; rw [h, decide_eq_true (by omega)]
theorem uptS_size (c : UInt8) (s : ByteArray) : (uptS c s).size ≤ s.size := by
  rcases idxS_cases c s with h | ⟨i, h, hi⟩
  · rw [uptS_none h]; exact Nat.le_refl _
  · rw [uptS_some h, ByteArray.size_extract]; omega
theorem bhS_size (c : UInt8) (s : ByteArray) : (bhS c s).size ≤ s.size := by
  rcases idxS_cases c s with h | ⟨i, h, hi⟩
  · rw [(cut_none h).2.1]; show (0 : Nat) ≤ _; omega
  · rw [(cut_some h).2.1, ByteArray.size_extract]; omega
theorem cut_len (c : UInt8) (s : ByteArray) : hasS c s = decide ((uptS c s).size < s.size) ∧ bhS c s = if (uptS c s).size < s.size then s.extract ((uptS c s).size + 1) s.size else ⟨#[]⟩ := by
  rcases idxS_cases c s with h | ⟨i, h, hi⟩
  · obtain ⟨a1, a2, a3⟩ := cut_none h
    rw [a1, a2, a3, decide_eq_false (Nat.lt_irrefl _), if_neg (Nat.lt_irrefl _)]
    exact ⟨rfl, rfl⟩
  · obtain ⟨a1, a2, a3⟩ := cut_some h
    have e : (s.extract 0 i).size = i := by rw [ByteArray.size_extract]; omega
    rw [a1, a2, a3, e, decide_eq_true hi, if_pos hi]
    exact ⟨rfl, rfl⟩
set_option maxHeartbeats 1000000 in
theorem CutS0_any (s : ByteArray) (c : UInt8) (w : World) (hs : s.size ≤ maxLen) :
    Calls Tryd.prog 61 #[.string s, .string ⟨#[c]⟩] w fun e w' => e = .returned (.tuple #[.string (uptS c s), .string (bhS c s), .bool (hasS c s)]) ∧ Below w.heap.size w w' := by
  unfold maxLen at hs
  have HI := hideB2 (fun W => Any.stringslite_Index_one Tryd.lays219 s c W)
  have hd1 : (⟨#[c]⟩ : ByteArray).size = 1 := rfl
  rcases idxS_cases c s with h | ⟨i, h, hi⟩
  · obtain ⟨a1, a2, a3⟩ := cut_none h
    rw [a1, a2, a3]
    rw [show Lib.indexByte s.data.toList c = -1 from h] at HI
    generalize (⟨#[c]⟩ : ByteArray) = D at *
    clear a1 a2 a3 h
    go_enter Tryd.func61, Tryd.ntmps61
    go_wp2_with (go_at_call 73; refine (HI.out _).mono ?_; rintro e w' ⟨rfl, rfl⟩)
    go_ret3
    exact ⟨rfl, Below.refl _ _⟩
  · obtain ⟨a1, a2, a3⟩ := cut_some h
    rw [a1, a2, a3]
    rw [show Lib.indexByte s.data.toList c = (i : Int) from h] at HI
    generalize (⟨#[c]⟩ : ByteArray) = D at *
    have e1 : IntKind.i64.wrap ((i : Int) + 1) = (i : Int) + 1 := by rw [IntKind.wrap_i64]; omega
    have c0 : (0 : Int) ≤ (i : Int) := by omega
    have c1 : (i : Int) ≤ (s.size : Int) := by omega
    have c2 : (0 : Int) ≤ (i : Int) + 1 := by omega
    have c3 : (i : Int) + 1 ≤ (s.size : Int) := by omega
    have hd2 : (D.size : Int) = 1 := by omega
    clear a1 a2 a3 h
    go_enter Tryd.func61, Tryd.ntmps61
    go_wp2_with (go_at_call 73; refine (HI.out _).mono ?_; rintro e w' ⟨rfl, rfl⟩)
    go_region
    go_wp2
    go_ret3
    exact ⟨rfl, (Below.refl _ _).drew⟩
set_option maxHeartbeats 1000000 in
theorem CutS_any (s : ByteArray) (c : UInt8) (w : World) (hs : s.size ≤ maxLen) :
    Calls Tryd.prog 48 #[.string s, .string ⟨#[c]⟩] w fun e w' => e = .returned (.tuple #[.string (uptS c s), .string (bhS c s), .bool (hasS c s)]) ∧ Below w.heap.size w w' := by
  have HC := hideB2 (fun W => CutS0_any s c W hs)
  generalize uptS c s = x at *
  generalize bhS c s = y at *
  generalize hasS c s = z at *
  generalize (⟨#[c]⟩ : ByteArray) = D at *
  go_enter Tryd.func48, Tryd.ntmps48
  go_wp2_with (go_at_call 61; refine (HC.out _).mono ?_; rintro e w' ⟨rfl, hb⟩)
  go_ret3
  exact ⟨rfl, hb⟩
end Go.Proofs.YtffjpidjhcnnmabDoor
