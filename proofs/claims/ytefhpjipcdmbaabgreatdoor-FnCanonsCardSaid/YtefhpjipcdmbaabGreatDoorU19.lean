/-
  What the fixed addresses of the laws give. No Go in sight.
-/
import Derived.Test.YtefhpjipcdmbaabGreatDoorU11
import Derived.Test.YtefhpjipcdmbaabGreatDoorU10
namespace Go.Proofs.YtefhpjipcdmbaabGreatDoor
set_option linter.unusedVariables false
set_option linter.unusedSimpArgs false
open Go.RowKit
def plS : ByteArray := ⟨#[72, 84, 84, 80, 58, 47, 47, 65, 46, 98, 47, 120, 47, 46, 46, 47, 121, 63, 122]⟩
set_option maxRecDepth 100000 in
theorem pl_ok : rdO plS = true := by kernel_rfl
set_option maxRecDepth 100000 in
theorem pl_ur : rdU plS = ⟨⟨#[97, 46, 98]⟩, ⟨#[47, 121]⟩, ⟨#[122]⟩, 80, true⟩ := by kernel_rfl
set_option maxRecDepth 100000 in
theorem pl_q : urlQ ⟨#[97, 46, 98]⟩ ⟨#[47, 121]⟩ ⟨#[122]⟩ 80 true = true := by kernel_rfl
theorem pl_t : utxt ⟨#[97, 46, 98]⟩ ⟨#[47, 121]⟩ ⟨#[122]⟩ 80 true = ⟨#[104, 116, 116, 112, 58, 47, 47, 97, 46, 98, 47, 121, 63, 122]⟩ := by kernel_rfl
theorem pl_s : surtB ⟨#[97, 46, 98]⟩ ⟨#[47, 121]⟩ ⟨#[122]⟩ 80 true = ⟨#[98, 44, 97, 41, 47, 121, 63, 122]⟩ := by kernel_rfl
end Go.Proofs.YtefhpjipcdmbaabGreatDoor
