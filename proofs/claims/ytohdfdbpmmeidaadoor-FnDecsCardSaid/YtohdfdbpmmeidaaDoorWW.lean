/-
  The walk over laws.words: the small codecs at constants.
-/
import Derived.Test.YtohdfdbpmmeidaaDoorW1b
import Derived.Test.YtohdfdbpmmeidaaDoorW3
import Derived.Test.YtohdfdbpmmeidaaDoorW5
import Derived.Test.YtohdfdbpmmeidaaDoorW7
import Derived.Test.YtohdfdbpmmeidaaDoorW15
import Derived.KernelRfl
namespace Go.Proofs.YtohdfdbpmmeidaaDoor
set_option linter.unusedVariables false
set_option linter.unusedSimpArgs false
open Go.RowKit

theorem kq1 : quoB ⟨#[97, 34, 98]⟩ = ⟨#[34, 97, 92, 34, 98, 34]⟩ := by kernel_rfl
theorem kq2 : quoOk ⟨#[97, 34, 98]⟩ = true := by decide +kernel
theorem kr : rdec ⟨#[49, 50, 48]⟩ = some 120 := by
  have h := rdec_end ⟨#[49, 50, 48]⟩ (by decide) (by decide) (Or.inl (by decide)) (by decide)
  rw [h]
  have : valL (ByteArray.mk #[49, 50, 48]).data.toList = 120 := by decide
  rw [this]
theorem kr1 : rdecN ⟨#[49, 50, 48]⟩ = 120 := (rdec_some kr).1
theorem kr2 : rdecOk ⟨#[49, 50, 48]⟩ = true := (rdec_some kr).2
theorem kb1 : b32B ⟨#[102]⟩ = ⟨#[77, 89]⟩ := by kernel_rfl
theorem kf1 : eqB (foldB ⟨#[97, 66]⟩) (foldB ⟨#[65, 98]⟩) = true := by decide +kernel
theorem kf2 : eqB (foldB ⟨#[97]⟩) (foldB ⟨#[98]⟩) = false := by decide +kernel
theorem kt1 : trimB ⟨#[32, 120, 9]⟩ = ⟨#[120]⟩ := by kernel_rfl
theorem ko1 : tokB ⟨#[120, 45, 49]⟩ = true := by decide +kernel
theorem ko2 : tokB ⟨#[120, 32, 121]⟩ = false := by decide +kernel

set_option maxHeartbeats 2000000 in
theorem words_any (w : World) :
    Calls Tryd.prog 9 #[] w fun e w' => e = .returned (.bool true) ∧ Below w.heap.size w w' := by
  go_enter Tryd.func9, Tryd.ntmps9
  go_wp2_with fail
  refine (Quote_any _ _ (by decide)).mono ?_
  rintro e w1 ⟨rfl, hb1⟩
  rw [kq1, kq2]
  go_wp2_with fail
  refine (ReadDec_any _ _ (by decide)).mono ?_
  rintro e w2 ⟨rfl, rfl⟩
  rw [kr1, kr2]
  go_wp2_with fail
  refine (Base32_any _ _ (by decide)).mono ?_
  rintro e w3 ⟨rfl, hb3⟩
  rw [kb1]
  go_wp2_with fail
  refine (SameFold_any _ _ _ (by decide) (by decide)).mono ?_
  rintro e w4 ⟨rfl, hb4⟩
  rw [kf1]
  go_wp2_with fail
  refine (SameFold_any _ _ _ (by decide) (by decide)).mono ?_
  rintro e w5 ⟨rfl, hb5⟩
  rw [kf2]
  go_wp2_with fail
  refine (Trim_any _ _ (by decide)).mono ?_
  rintro e w6 ⟨rfl, rfl⟩
  rw [kt1]
  go_wp2_with fail
  refine (Token_any _ _ (by decide)).mono ?_
  rintro e w7 ⟨rfl, rfl⟩
  rw [ko1]
  go_wp2_with fail
  refine (Token_any _ _ (by decide)).mono ?_
  rintro e w8 ⟨rfl, rfl⟩
  rw [ko2]
  go_wp2
  go_ret
  have h3 := hb1.trans (hb3.mono hb1.size)
  have h4 := h3.trans (hb4.mono h3.size)
  exact ⟨rfl, h4.trans (hb5.mono h4.size)⟩
end Go.Proofs.YtohdfdbpmmeidaaDoor
