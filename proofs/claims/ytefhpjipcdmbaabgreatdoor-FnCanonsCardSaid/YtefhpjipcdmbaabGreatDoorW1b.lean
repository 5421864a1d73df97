/-
  The walks over chapter 1: Fold, SameFold.
-/
import Derived.Test.YtefhpjipcdmbaabGreatDoorW1
namespace Go.Proofs.YtefhpjipcdmbaabGreatDoor
set_option linter.unusedVariables false
set_option linter.unusedSimpArgs false
open Go.RowKit

theorem fold_round {s : ByteArray} {k : Nat} {w wr : World} (hlt : k < s.size) (hrow : Hid (Row8 wr w.heap.size (foldTo s k))) (hbel : Hid (Below w.heap.size w wr)) :
    Row8 (wr.setCell ⟨w.heap.size, k, none⟩ (.int .u8 (lowI ((nums s).getD k 0)))) w.heap.size (foldTo s (k + 1)) ∧ Below w.heap.size w (wr.setCell ⟨w.heap.size, k, none⟩ (.int .u8 (lowI ((nums s).getD k 0)))) := by
  refine ⟨?_, hbel.out.setCell (by simp) _⟩
  rw [foldTo_succ s k hlt]
  exact hrow.out.set k _ (by rw [foldTo_length]; exact hlt)

set_option maxHeartbeats 1000000 in
theorem Fold_any (s : ByteArray) (w : World) (hs : s.size ≤ maxLen) :
    Calls Tryz.prog 32 #[.string s] w fun e w' => e = .returned (.string (foldB s)) ∧ Below w.heap.size w w' := by
  unfold maxLen at hs
  have kc := fun w => Lib.run_convert_string_bytes (P := Tryz.prog) w 9 28 5 s Tryz.underlying9 Tryz.underlying28 Tryz.underlying5
  have HR : Hid (Row8 (Lib.bytesWorld w 5 s) w.heap.size (nums s)) := row8_bytes w 5 s
  have HB : Hid (Below w.heap.size w (Lib.bytesWorld w 5 s)) := below_bytes w 5 s
  go_enter Tryz.func32, Tryz.ntmps32
  go_wp2
  generalize Lib.bytesWorld w 5 s = W1 at HR HB
  clear kc
  go_loopw [9] (fun i wr => ∃ k : Nat, k ≤ s.size ∧ i = .int .i64 k ∧ Row8 wr w.heap.size (foldTo s k) ∧ Below w.heap.size w wr) (fun i _ => s.size - (intOf i).toNat)
  case atStart => exact ⟨0, Nat.zero_le _, rfl, by rw [foldTo_zero]; exact HR.out, HB.out⟩
  case round =>
    obtain ⟨k, hk, rfl, hrow, hbel⟩ := hrel
    clear HR HB
    by_cases hlt : k < s.size
    · have hc := hrow.cell k (by rw [foldTo_length]; exact hlt)
      have hf := hrow.free k (by rw [foldTo_length]; exact hlt)
      rw [foldTo_at s k hlt] at hc
      have hbd := nums_bd s k
      have R := fold_round hlt hrow hbel
      have HRR : Hid (Row8 (wr.setCell ⟨w.heap.size, k, none⟩ (.int .u8 (lowI ((nums s).getD k 0)))) w.heap.size (foldTo s (k + 1)) ∧ Below w.heap.size w (wr.setCell ⟨w.heap.size, k, none⟩ (.int .u8 (lowI ((nums s).getD k 0))))) := R
      clear hrow hbel R
      generalize (nums s).getD k 0 = x at *
      go_wp2_with (go_at_call 66; refine (smallByte_any _ _ (by omega) (by omega)).mono ?_; rintro e w' ⟨rfl, rfl⟩)
      go_roundw
      case rel => exact ⟨k + 1, by omega, by go_num, HRR.out.1, HRR.out.2⟩
      case measure => simp [intOf]; omega
    · obtain rfl : k = s.size := by omega
      have kb := hrow.text (P := Tryz.prog) 28 5 9 s.size (grownCap w s.size 0 5) (foldTo_length s s.size) Tryz.underlying28 Tryz.underlying5 Tryz.underlying9
      rw [foldTo_all] at kb
      go_wp2
      go_ret
      exact ⟨rfl, hbel⟩
set_option maxHeartbeats 1000000 in
theorem sFold_any (s : ByteArray) (w : World) (hs : s.size ≤ maxLen) :
    Calls Tryz.prog 27 #[.string s] w fun e w' => e = .returned (.string (foldB s)) ∧ Below w.heap.size w w' := by
  unfold maxLen at hs
  have kc := fun w => Lib.run_convert_string_bytes (P := Tryz.prog) w 9 28 5 s Tryz.underlying9 Tryz.underlying28 Tryz.underlying5
  have HR : Hid (Row8 (Lib.bytesWorld w 5 s) w.heap.size (nums s)) := row8_bytes w 5 s
  have HB : Hid (Below w.heap.size w (Lib.bytesWorld w 5 s)) := below_bytes w 5 s
  go_enter Tryz.func27, Tryz.ntmps27
  go_wp2
  generalize Lib.bytesWorld w 5 s = W1 at HR HB
  clear kc
  go_loopw [4] (fun i wr => ∃ k : Nat, k ≤ s.size ∧ i = .int .i64 k ∧ Row8 wr w.heap.size (foldTo s k) ∧ Below w.heap.size w wr) (fun i _ => s.size - (intOf i).toNat)
  case atStart => exact ⟨0, Nat.zero_le _, rfl, by rw [foldTo_zero]; exact HR.out, HB.out⟩
  case round =>
    obtain ⟨k, hk, rfl, hrow, hbel⟩ := hrel
    clear HR HB
    by_cases hlt : k < s.size
    · have hc := hrow.cell k (by rw [foldTo_length]; exact hlt)
      have hf := hrow.free k (by rw [foldTo_length]; exact hlt)
      rw [foldTo_at s k hlt] at hc
      have hbd := nums_bd s k
      have R := fold_round hlt hrow hbel
      have HRR : Hid (Row8 (wr.setCell ⟨w.heap.size, k, none⟩ (.int .u8 (lowI ((nums s).getD k 0)))) w.heap.size (foldTo s (k + 1)) ∧ Below w.heap.size w (wr.setCell ⟨w.heap.size, k, none⟩ (.int .u8 (lowI ((nums s).getD k 0))))) := R
      clear hrow hbel R
      generalize (nums s).getD k 0 = x at *
      go_wp2_with (go_at_call 60; refine (l1lower_any _ _ (by omega) (by omega)).mono ?_; rintro e w' ⟨rfl, rfl⟩)
      go_roundw
      case rel => exact ⟨k + 1, by omega, by go_num, HRR.out.1, HRR.out.2⟩
      case measure => simp [intOf]; omega
    · obtain rfl : k = s.size := by omega
      have kb := hrow.text (P := Tryz.prog) 28 5 9 s.size (grownCap w s.size 0 5) (foldTo_length s s.size) Tryz.underlying28 Tryz.underlying5 Tryz.underlying9
      rw [foldTo_all] at kb
      go_wp2
      go_ret
      exact ⟨rfl, hbel⟩
end Go.Proofs.YtefhpjipcdmbaabGreatDoor
