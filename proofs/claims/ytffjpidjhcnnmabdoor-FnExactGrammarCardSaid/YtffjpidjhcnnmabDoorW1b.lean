/-
  The walks over chapter 1: Fold, SameFold.
-/
import Derived.Test.YtffjpidjhcnnmabDoorW1
namespace Go.Proofs.YtffjpidjhcnnmabDoor
set_option linter.unusedVariables false
set_option linter.unusedSimpArgs false
open Go.RowKit

theorem fold_round {s : ByteArray} {k : Nat} {w wr : World} (hlt : k < s.size) (hrow : Hid (Row8 wr w.heap.size (foldTo s k))) (hbel : Hid (Below w.heap.size w wr)) :
    Row8 (wr.setCell ⟨w.heap.size, k, none⟩ (.int .u8 (lowI ((nums s).getD k 0)))) w.heap.size (foldTo s (k + 1)) ∧ Below w.heap.size w (wr.setCell ⟨w.heap.size, k, none⟩ (.int .u8 (lowI ((nums s).getD k 0)))) := by
  refine ⟨?_, hbel.out.setCell (by simp) _⟩
  rw [foldTo_succ s k hlt]
  exact hrow.out.set k _ (by rw [foldTo_length]; exact hlt)

set_option maxHeartbeats 1000000 in
theorem Fold_any (s : ByteArray) (w : World) (hs : s.size ≤ maxLen) :
    Calls Tryd.prog 49 #[.string s] w fun e w' => e = .returned (.string (foldB s)) ∧ Below w.heap.size w w' := by
  unfold maxLen at hs
  have kc := fun w => Lib.run_convert_string_bytes (P := Tryd.prog) w 9 48 5 s Tryd.underlying9 Tryd.underlying48 Tryd.underlying5
  have HR : Hid (Row8 (Lib.bytesWorld w 5 s) w.heap.size (nums s)) := row8_bytes w 5 s
  have HB : Hid (Below w.heap.size w (Lib.bytesWorld w 5 s)) := below_bytes w 5 s
  go_enter Tryd.func49, Tryd.ntmps49
  go_wp2
  generalize Lib.bytesWorld w 5 s = W1 at HR HB
  clear kc
  go_loopw [9] (fun i wr => ∃ k : Nat, k ≤ s.size ∧ i = .int .i64 k ∧ Row8 wr w.heap.size (foldTo s k) ∧ Below w.heap.size w wr) (fun i _ => s.size - (intOf i).toNat)
  case atStart => exact ⟨0, Nat.zero_le _, rfl, by rw [foldTo_zero]; exact HR.out, HB.out⟩
  case round =>
    obtain ⟨k, hk, rfl, hrow, hbel⟩ := hrel
    clear HR HB
    by_cases hlt : k < s.size
    · have hc := hrow.cell k (by rw [foldTo_length]; exact hlt)
      have hf := hrow.free k (by rw [foldTo_length]; exact hlt)
      rw [foldTo_at s k hlt] at hc
      have hbd := nums_bd s k
      have R := fold_round hlt hrow hbel
      have HRR : Hid (Row8 (wr.setCell ⟨w.heap.size, k, none⟩ (.int .u8 (lowI ((nums s).getD k 0)))) w.heap.size (foldTo s (k + 1)) ∧ Below w.heap.size w (wr.setCell ⟨w.heap.size, k, none⟩ (.int .u8 (lowI ((nums s).getD k 0))))) := R
      clear hrow hbel R
      generalize (nums s).getD k 0 = x at *
      go_wp2_with (go_at_call 62; refine (smallByte_any _ _ (by omega) (by omega)).mono ?_; rintro e w' ⟨rfl, rfl⟩)
      go_roundw
      case rel => exact ⟨k + 1, by omega, by go_num, HRR.out.1, HRR.out.2⟩
      case measure => simp [intOf]; omega
    · obtain rfl : k = s.size := by omega
      have kb := hrow.text (P := Tryd.prog) 48 5 9 s.size (grownCap w s.size 0 5) (foldTo_length s s.size) Tryd.underlying48 Tryd.underlying5 Tryd.underlying9
      rw [foldTo_all] at kb
      go_wp2
      go_ret
      exact ⟨rfl, hbel⟩
set_option maxHeartbeats 1000000 in
theorem sFold_any (s : ByteArray) (w : World) (hs : s.size ≤ maxLen) :
    Calls Tryd.prog 14 #[.string s] w fun e w' => e = .returned (.string (foldB s)) ∧ Below w.heap.size w w' := by
  unfold maxLen at hs
  have kc := fun w => Lib.run_convert_string_bytes (P := Tryd.prog) w 9 48 5 s Tryd.underlying9 Tryd.underlying48 Tryd.underlying5
  have HR : Hid (Row8 (Lib.bytesWorld w 5 s) w.heap.size (nums s)) := row8_bytes w 5 s
  have HB : Hid (Below w.heap.size w (Lib.bytesWorld w 5 s)) := below_bytes w 5 s
  go_enter Tryd.func14, Tryd.ntmps14
  go_wp2
  generalize Lib.bytesWorld w 5 s = W1 at HR HB
  clear kc
  go_loopw [4] (fun i wr => ∃ k : Nat, k ≤ s.size ∧ i = .int .i64 k ∧ Row8 wr w.heap.size (foldTo s k) ∧ Below w.heap.size w wr) (fun i _ => s.size - (intOf i).toNat)
  case atStart => exact ⟨0, Nat.zero_le _, rfl, by rw [foldTo_zero]; exact HR.out, HB.out⟩
  case round =>
    obtain ⟨k, hk, rfl, hrow, hbel⟩ := hrel
    clear HR HB
    by_cases hlt : k < s.size
    · have hc := hrow.cell k (by rw [foldTo_length]; exact hlt)
      have hf := hrow.free k (by rw [foldTo_length]; exact hlt)
      rw [foldTo_at s k hlt] at hc
      have hbd := nums_bd s k
      have R := fold_round hlt hrow hbel
      have HRR : Hid (Row8 (wr.setCell ⟨w.heap.size, k, none⟩ (.int .u8 (lowI ((nums s).getD k 0)))) w.heap.size (foldTo s (k + 1)) ∧ Below w.heap.size w (wr.setCell ⟨w.heap.size, k, none⟩ (.int .u8 (lowI ((nums s).getD k 0))))) := R
      clear hrow hbel R
      generalize (nums s).getD k 0 = x at *
      go_wp2_with (go_at_call 26; refine (l1lower_any _ _ (by omega) (by omega)).mono ?_; rintro e w' ⟨rfl, rfl⟩)
      go_roundw
      case rel => exact ⟨k + 1, by omega, by go_num, HRR.out.1, HRR.out.2⟩
      case measure => simp [intOf]; omega
    · obtain rfl : k = s.size := by omega
      have kb := hrow.text (P := Tryd.prog) 48 5 9 s.size (grownCap w s.size 0 5) (foldTo_length s s.size) Tryd.underlying48 Tryd.underlying5 Tryd.underlying9
      rw [foldTo_all] at kb
      go_wp2
      go_ret
      exact ⟨rfl, hbel⟩
end Go.Proofs.YtffjpidjhcnnmabDoor
