/-
  The fixed addresses of the laws; a text at another's beginning.
-/
import Derived.Test.YtefhpjipcdmbaabGreatDoorU19
import Derived.Test.YtefhpjipcdmbaabGreatDoorU14
namespace Go.Proofs.YtefhpjipcdmbaabGreatDoor
set_option linter.unusedVariables false
set_option linter.unusedSimpArgs false
open Go.RowKit
set_option maxRecDepth 100000 in
set_option maxHeartbeats 4000000 in
theorem places_any (w : World) (htab : Tab10 w) :
    Calls Tryz.prog 16 #[] w fun e w' => e = .returned (.bool true) ∧ Below w.heap.size w w' := by
  have HR := hideB2 (fun W (h : Tab10 W) => ReadUrl_any plS W (by decide) h)
  rw [pl_ok, pl_ur] at HR
  simp only [valU] at HR
  have HT := hideB2 htab
  have HX := hideB2 (fun W (h : Tab10 W) => UrlText_any ⟨#[97, 46, 98]⟩ ⟨#[47, 121]⟩ ⟨#[122]⟩ 80 true W h (by decide) (by decide) (by decide))
  have HS := hideB2 (fun W (h : Tab10 W) => Surt_any ⟨#[97, 46, 98]⟩ ⟨#[47, 121]⟩ ⟨#[122]⟩ 80 true W h (by decide) (by decide) (by decide))
  rw [show textB ⟨#[97, 46, 98]⟩ ⟨#[47, 121]⟩ ⟨#[122]⟩ 80 true = ⟨#[104, 116, 116, 112, 58, 47, 47, 97, 46, 98, 47, 121, 63, 122]⟩ from by unfold textB; rw [pl_q, if_pos rfl, pl_t]] at HX
  rw [pl_s] at HS
  clear htab
  have e1 : (⟨#[104, 116, 116, 112, 58, 47, 47, 97, 46, 98, 47, 121, 63, 122]⟩ : ByteArray) = ⟨#[104, 116, 116, 112, 58, 47, 47, 97, 46, 98, 47, 121, 63, 122]⟩ := rfl
  generalize hA : (⟨#[97, 46, 98]⟩ : ByteArray) = ho at *
  generalize hB : (⟨#[47, 121]⟩ : ByteArray) = pa at *
  generalize hC : (⟨#[122]⟩ : ByteArray) = qu at *
  generalize hP : (80 : Int) = po at *
  generalize hQ : true = hq at *
  clear hA hB hC hP
  go_enter Tryz.func16, Tryz.ntmps16
  go_wp2_with fail
  refine (HR.out _ HT.out).mono ?_
  rintro e w1 ⟨rfl, hb1⟩
  have hb1' := below_then hb1 (below_a1 w1 (.cells #[.string ho, .int .i64 po, .string pa, .string qu, .bool hq] 23))
  have HB1 := hideB2 hb1'
  have A1 := hideB2 (Blk.new w1 #[.string ho, .int .i64 po, .string pa, .string qu, .bool hq] 23)
  clear hb1 hb1'
  subst hQ
  go_wp2_with (first
    | (go_at_call 23; refine (HX.out _ (tab_later HT.out HB1.out)).mono ?_; rintro e w2 ⟨rfl, hb2⟩; obtain ⟨p0, p1, p2, p3, p4⟩ := (A1.out.later hb2).u5)
    | (go_at_call 24; refine (HS.out _ (tab_later HT.out (below_then HB1.out hb2))).mono ?_; rintro e w3 ⟨rfl, hb3⟩))
  go_ret
  exact ⟨rfl, below_then HB1.out (below_then hb2 hb3)⟩
set_option maxHeartbeats 1000000 in
theorem within_text (a b : ByteArray) (w : World) (ha : a.size ≤ maxLen) (hb : b.size ≤ maxLen) (h : a.size ≤ b.size) (he : b.extract 0 a.size = a) :
    Calls Tryz.prog 17 #[.string a, .string b] w fun e w' => e = .returned (.bool true) ∧ Below w.heap.size w w' := by
  have h1 : (a.size : Int) ≤ (b.size : Int) := by omega
  have h0 : (0 : Int) ≤ (a.size : Int) := by omega
  have hz : a.size ≤ maxLen ∧ b.size ≤ maxLen := ⟨ha, hb⟩
  unfold maxLen at ha hb
  go_enter Tryz.func17, Tryz.ntmps17
  go_wp2
  go_ret
  exact ⟨rfl, Below.refl _ _⟩
end Go.Proofs.YtefhpjipcdmbaabGreatDoor
