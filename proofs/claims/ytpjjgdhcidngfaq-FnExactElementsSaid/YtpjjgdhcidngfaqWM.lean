/-
  The exact laws' marks: markText.
-/
import Derived.Test.YtpjjgdhcidngfaqWE3
import Derived.Laws.OwnMore
import Derived.Lib.ConvBytes
import Derived.Lib.SmallJoins
namespace Go.Proofs.Ytpjjgdhcidngfaq
set_option linter.unusedVariables false
set_option linter.unusedSimpArgs false
open Go.RowKit
def mtL (k : Nat) (out : List UInt8) : List UInt8 := if h : k = 0 then out else mtL (k / 10) (UInt8.ofNat (48 + k % 10) :: out)
termination_by k
decreasing_by omega
theorem mtL_zero (out : List UInt8) : mtL 0 out = out := by rw [mtL]; simp
theorem mtL_pos {k : Nat} (h : 0 < k) (out : List UInt8) : mtL k out = mtL (k / 10) (UInt8.ofNat (48 + k % 10) :: out) := by rw [mtL, dif_neg (by omega)]
def mtB (k : Nat) : ByteArray := ⟨(109 :: mtL k []).toArray⟩
theorem convM {P : Program} (src e dst : TypeId) (hs : P.underlying src = some (.slice e)) (he : P.underlying e = some (.int .u8)) (hd : P.underlying dst = some .string) (w : World) (b cap : Nat) (x : Int) (hc : w.cell? ⟨b, 0, none⟩ = some (.int .u8 x)) :
    (convert src dst (.slice (some ⟨b, 0, none⟩) 1 cap)).run P w = .ok (.string ⟨#[UInt8.ofNat x.toNat]⟩) w :=
  run_convert_bytes_arg (P := P) w src e hs he b 0 1 cap [x] rfl (fun i hi => by obtain rfl : i = 0 := by omega
                                                                                 exact hc) dst hd
theorem mt_eq (r : Nat) (l : List UInt8) : Value.string (⟨#[48 + UInt8.ofNat r]⟩ ++ ⟨l.toArray⟩) = .string ⟨(UInt8.ofNat (48 + r) :: l).toArray⟩ := by
  have h : (ByteArray.mk #[48 + UInt8.ofNat r] ++ ByteArray.mk l.toArray) = ⟨(UInt8.ofNat (48 + r) :: l).toArray⟩ := by
    apply bytes_ext
    rw [Go.Joins.data_append]; simp
  rw [h]
set_option maxHeartbeats 1000000 in
theorem markText_any (k : Nat) (w : World) (h1 : 0 < k) (h2 : k ≤ 2000000) :
    Calls Try.prog 32 #[.int .i64 (k : Int)] w fun e w' => e = .returned (.string (mtB k)) ∧ Below w.heap.size w w' := by
  have kb := fun (w : World) (b cap : Nat) (x : Int) => convM (P := Try.prog) 35 5 9 Try.underlying35 Try.underlying5 Try.underlying9 w b cap x
  have hn0 : ¬ (k : Int) ≤ 0 := by omega
  go_enter Try.func32, Try.ntmps32
  go_wp2
  go_loopw [0, 3] (fun kk o wr => ∃ (j : Nat) (l : List UInt8), kk = .int .i64 (j : Int) ∧ o = .string ⟨l.toArray⟩ ∧ mtL k [] = mtL j l ∧ l.length + j ≤ k ∧ Below w.heap.size w wr) (fun kk _ _ => (intOf kk).toNat)
  case atStart => exact ⟨k, [], rfl, rfl, rfl, by simp, Below.refl _ _⟩
  case round =>
    obtain ⟨j, l, rfl, rfl, hj, hl, hbw⟩ := hrel
    have HJ : Hid (mtL k [] = mtL j l) := hj
    have hsl : (ByteArray.mk l.toArray).size ≤ 2000000 := by show l.toArray.size ≤ _; simp; omega
    clear hj
    by_cases h0 : 0 < j
    · have hp : (0 : Int) < (j : Int) := by omega
      obtain ⟨q, r, hqr, hr⟩ : ∃ q r : Nat, j = 10 * q + r ∧ r < 10 := ⟨j / 10, j % 10, by omega, by omega⟩
      have HS : Hid (mtL k [] = mtL q (UInt8.ofNat (48 + r) :: l)) := by
        show _ = _
        rw [HJ.out, mtL_pos h0, show j / 10 = q from by omega, show j % 10 = r from by omega]
      have e1 : IntKind.i64.wrap ((j : Int) / 10) = (q : Int) := by rw [IntKind.wrap_i64]; omega
      have e2 : ((j : Int)).tmod 10 = (r : Int) := by rw [Int.tmod_eq_emod_of_nonneg (by omega)]; omega
      have e3 : IntKind.i64.wrap (48 + (r : Int)) = 48 + (r : Int) := by rw [IntKind.wrap_i64]; omega
      have e4 : IntKind.u8.wrap (48 + (r : Int)) = 48 + (r : Int) := by rw [IntKind.wrap_u8]; omega
      have HQ : Hid (j = 10 * q + r) := hqr
      clear hqr
      go_wp2
      go_round
      case rel => exact ⟨q, UInt8.ofNat (48 + r) :: l, by go_num, mt_eq r l, HS.out, by have := HQ.out; simp; omega, hbw.alloc hbw.size _⟩
      case measure => have := HQ.out; simp [intOf] <;> omega
    · have hp : ¬ (0 : Int) < (j : Int) := by omega
      have HE : Hid (mtB k = ⟨#[109]⟩ ++ ⟨l.toArray⟩) := by
        show _ = _
        obtain rfl : j = 0 := by omega
        unfold mtB; rw [HJ.out, mtL_zero]
        apply bytes_ext
        rw [Go.Joins.data_append]; simp
      go_wp2
      go_ret
      exact ⟨ret_str HE.out, hbw⟩
end Go.Proofs.Ytpjjgdhcidngfaq
