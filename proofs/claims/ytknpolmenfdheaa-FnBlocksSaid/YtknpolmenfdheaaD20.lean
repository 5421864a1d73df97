/-
  laws.sums: is the digest alive? And spec.DrawLabel.
-/
import Derived.Test.YtknpolmenfdheaaD16
import Derived.Test.YtknpolmenfdheaaD13b
import Derived.Test.YtknpolmenfdheaaD19
namespace Go.Proofs.Ytknpolmenfdheaa
set_option linter.unusedVariables false
set_option linter.unusedSimpArgs false
open Go.RowKit
theorem nz_h0 : (nz h0L).length = 5 := rfl
set_option maxHeartbeats 2000000 in
theorem sums_any (w : World) :
    Calls Try.prog 13 #[] w fun e w' => e = .returned (.bool true) ∧ Below w.heap.size w w' := by
  have ht : turnV 1 31 = 2147483648 := by decide
  have hsz := sha1B_size (⟨#[97]⟩ : ByteArray)
  have h1 : (⟨#[97]⟩ : ByteArray).size ≤ 999999999999999 := by decide
  have hq : shaQ (nz h0L) (⟨#[]⟩ : ByteArray).size 0 = true := by decide
  go_enter Try.func13, Try.ntmps13
  go_wp2_with fail
  refine (Turn_any 1 31 _).mono ?_
  rintro e w1 ⟨rfl, rfl⟩
  rw [ht]
  go_wp2_with fail
  refine (Sha1_any ⟨#[97]⟩ _ h1).mono ?_
  rintro e w2 ⟨rfl, hb2⟩
  have HS := hideB2 (sha1B_size (⟨#[97]⟩ : ByteArray))
  generalize hg : sha1B ⟨#[97]⟩ = x at *
  have HG := hideB2 hg
  clear hg HS
  have hnt : (x.toList == x.toList) = true := by simp
  go_wp2_with fail
  refine (Sha1_any ⟨#[97]⟩ _ h1).mono ?_
  rintro e w3 ⟨rfl, hb3⟩
  rw [HG.out]
  go_wp2_with fail
  refine (sSha1_any ⟨#[97]⟩ _ h1).mono ?_
  rintro e w4 ⟨rfl, hb4⟩
  rw [HG.out]
  go_wp2_with fail
  refine (ShaNew_any _).mono ?_
  rintro e w5 ⟨b5, rfl, hle5, hr5, hb5⟩
  go_wp2_with fail
  refine (ShaOk_any b5 5 5 (nz h0L) ⟨#[]⟩ 0 _ hr5.z nz_h0 (by unfold maxLen; decide) (by unfold maxLen; decide)).mono ?_
  rintro e w6 ⟨rfl, hb6⟩
  rw [hq]
  go_wp2
  go_ret
  exact ⟨rfl, below_then (below_then (below_then (below_then hb2 hb3) hb4) hb5) hb6⟩
end Go.Proofs.Ytknpolmenfdheaa
