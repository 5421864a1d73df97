/-
  The walks over chapter 1: spec.DecText, ReadDec.
-/
import Derived.Test.YtffjpidjhcnnmabDoorW2
import Derived.Test.YtffjpidjhcnnmabDoorM4
import Derived.Deep.RegionWith
namespace Go.Proofs.YtffjpidjhcnnmabDoor
set_option linter.unusedVariables false
set_option linter.unusedSimpArgs false
open Go.RowKit

theorem below_call_alloc {w w1 : World} {o : Obj} (hb : Below w.drew.heap.size w.drew w1) : Below w.heap.size w (w1.alloc o) := by
  have h : Below w.heap.size w w1 := (Below.drew (Below.refl _ w)).trans (hb.mono (by simp))
  exact h.alloc h.size _
theorem below_alloc_call {w w1 : World} {o : Obj} (hb : Below (w.alloc o).drew.heap.size (w.alloc o).drew w1) : Below w.heap.size w w1 :=
  (((Below.refl _ w).alloc (Nat.le_refl _) o).drew).trans (hb.mono (by simp))
/-- One byte's text. -/
theorem conv_one {P : Program} (src e dst : TypeId) (hs : P.underlying src = some (.slice e)) (he : P.underlying e = some (.int .u8)) (hd : P.underlying dst = some .string) (w : World) (b cap : Nat) (x : Int) (hc : w.cell? ⟨b, 0, none⟩ = some (.int .u8 x)) :
    (convert src dst (.slice (some ⟨b, 0, none⟩) 1 cap)).run P w = .ok (.string ⟨#[UInt8.ofNat x.toNat]⟩) w :=
  run_convert_bytes_arg (P := P) w src e hs he b 0 1 cap [x] rfl (fun i hi => by obtain rfl : i = 0 := by omega
                                                                                 exact hc) dst hd
set_option maxHeartbeats 1000000 in
theorem sDecText_nat (u : Nat) (w : World) (hu : u ≤ 999999999999999) :
    Calls Tryd.prog 31 #[.int .i64 (u : Int)] w fun e w' => e = .returned (.string (decB u)) ∧ Below w.heap.size w w' := by
  induction u using Nat.strongRecOn generalizing w with
  | _ u ih =>
    have h1 : ¬ (u : Int) < 0 := by omega
    have h2 : ¬ (999999999999999 : Int) < (u : Int) := by omega
    by_cases h10 : (u : Int) < 10
    · have hfin : Hid (decB u = ⟨#[UInt8.ofNat (48 + u)]⟩) := by
        show decB u = _
        unfold decB
        rw [Lib.decDigits, dif_pos (by omega)]
      have kb := fun (w : World) (b cap : Nat) (x : Int) => conv_one (P := Tryd.prog) 48 5 9 Tryd.underlying48 Tryd.underlying5 Tryd.underlying9 w b cap x
      clear ih
      go_enter Tryd.func31, Tryd.ntmps31
      go_wp2
      go_ret
      exact ⟨ret_str (by rw [hfin.out]; simp), (Below.refl _ _).alloc (Nat.le_refl _) _⟩
    · have kb := fun (w : World) (b cap : Nat) (x : Int) => conv_one (P := Tryd.prog) 48 5 9 Tryd.underlying48 Tryd.underlying5 Tryd.underlying9 w b cap x
      obtain ⟨q, r, hqr, hr, hq⟩ : ∃ q r : Nat, u = 10 * q + r ∧ r < 10 ∧ 1 ≤ q := ⟨u / 10, u % 10, by omega, by omega, by omega⟩
      have Hih : Hid (∀ (w : World), Calls Tryd.prog 31 #[.int .i64 (q : Int)] w fun e w' => e = .returned (.string (decB q)) ∧ Below w.heap.size w w') := fun w => ih q (by omega) w (by omega)
      have e1 : IntKind.i64.wrap ((u : Int) / 10) = (q : Int) := by rw [IntKind.wrap_i64]; omega
      have e2 : ((u : Int)).tmod 10 = (r : Int) := by rw [Int.tmod_eq_emod_of_nonneg (by omega)]; omega
      have e3 : IntKind.i64.wrap (48 + (r : Int)) = 48 + (r : Int) := by rw [IntKind.wrap_i64]; omega
      have e4 : IntKind.u8.wrap (48 + (r : Int)) = 48 + (r : Int) := by rw [IntKind.wrap_u8]; omega
      have HQ : Hid (u = 10 * q + r) := hqr
      have hfin : Hid (decB u = decB q ++ ⟨#[UInt8.ofNat (48 + r)]⟩) := by
        apply bytes_ext
        rw [decB_list, decDigits_step u (by omega), show u / 10 = q from by omega, show u % 10 = r from by omega]
        simp [decB, ByteArray.data_append]
      have hsz : (decB q).size ≤ 15 := decDigits_len q (by omega)
      clear ih hqr
      go_enter Tryd.func31, Tryd.ntmps31
      go_wp2
      go_region_with (go_at_call 31; refine (Hih.out _).mono ?_; rintro e w1 ⟨rfl, hb⟩; obtain ⟨hcc, hff⟩ := bcell hb)
      all_goals (go_wp2; go_ret)
      all_goals refine ⟨ret_str (by rw [hfin.out]; simp), ?_⟩
      · exact below_call_alloc hb
      · exact below_alloc_call hb
      · exact below_alloc_call hb
end Go.Proofs.YtffjpidjhcnnmabDoor
