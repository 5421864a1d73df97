/-
  Chapter 8: a looser reader's record, how many there are; the program's side.
-/
import Derived.Test.YtffjpidjhcnnmabDoorR8
import Derived.Test.YtffjpidjhcnnmabDoorW5
import Derived.Test.YtffjpidjhcnnmabDoorW11
import Derived.Test.YtffjpidjhcnnmabDoorW10
namespace Go.Proofs.YtffjpidjhcnnmabDoor
set_option linter.unusedVariables false
set_option linter.unusedSimpArgs false
open Go.RowKit
theorem Tryd.infoLr : (Tryd.prog.info? 31).map (·.size) = some 2 := by kernel_rfl
theorem ReadWarcDate_all (a : ByteArray) (w : World) (hM : MonTab w) :
    Calls Tryd.prog 38 #[.string a] w fun e w' => e = .returned (.tuple #[.int .i64 (wqN a), .bool (wqO a)]) ∧ Below w.heap.size w w' := by
  obtain ⟨t, b, h1, h2⟩ := ReadWarcDate_ex a
  obtain ⟨rfl, rfl⟩ := wq_same h1
  exact h2 w hM
theorem foldB_da : foldB ⟨#[87, 65, 82, 67, 45, 68, 97, 116, 101]⟩ = daF := by kernel_rfl
theorem foldB_ty : foldB ⟨#[87, 65, 82, 67, 45, 84, 121, 112, 101]⟩ = tyF := by kernel_rfl
theorem foldB_id : foldB ⟨#[87, 65, 82, 67, 45, 82, 101, 99, 111, 114, 100, 45, 73, 68]⟩ = idF := by kernel_rfl
theorem foldB_len : foldB ⟨#[99, 111, 110, 116, 101, 110, 116, 45, 108, 101, 110, 103, 116, 104]⟩ = lenF := by kernel_rfl
theorem rdecN_le (s : ByteArray) : rdecN s ≤ 999999999999999 := by
  unfold rdecN
  cases h : rdec s with
  | none => show ((0 : Nat) : Int) ≤ _; omega
  | some u =>
    show ((u : Nat) : Int) ≤ _
    unfold rdec at h
    split at h
    · rename_i hh
      obtain rfl := Option.some.inj h
      have h1 := valL_lt _ hh.2.2.1
      have h2 : s.data.toList.length ≤ 15 := by rw [len_data]; exact hh.2.1
      have h3 : (10 : Nat) ^ s.data.toList.length ≤ 10 ^ 15 := Nat.pow_le_pow_right (by omega) h2
      have h4 : (10 : Nat) ^ 15 = 1000000000000000 := by decide
      omega
    · cases h
set_option maxRecDepth 100000 in
set_option maxHeartbeats 4000000 in
theorem size_any (v : Value) (l : List Fd) (b : ByteArray) (w : World) (hv : SlW w v l) (hl : l.length ≤ 1048576) (hz : ∀ x ∈ l, x.1.size ≤ 300 ∧ x.2.size ≤ 300) (hM : MonTab w) :
    Calls Tryd.prog 20 #[.agg #[v, .string b]] w fun e w' => e = .returned (.tuple #[.int .i64 (sizeN l), .bool (sizeO l)]) ∧ Below w.heap.size w w' := by
  have h1 : ∀ s : ByteArray, s.size ≤ 300 → s.size ≤ maxLen := fun s h => by unfold maxLen; omega
  have HD := hideB2 (fun W (h : SlW W v l) => only_any v l b ⟨#[87, 65, 82, 67, 45, 68, 97, 116, 101]⟩ W h hl hz (h1 _ (of_decide_eq_true (by kernel_rfl))))
  have HT := hideB2 (fun W (h : SlW W v l) => only_any v l b ⟨#[87, 65, 82, 67, 45, 84, 121, 112, 101]⟩ W h hl hz (h1 _ (of_decide_eq_true (by kernel_rfl))))
  have HI := hideB2 (fun W (h : SlW W v l) => only_any v l b ⟨#[87, 65, 82, 67, 45, 82, 101, 99, 111, 114, 100, 45, 73, 68]⟩ W h hl hz (h1 _ (of_decide_eq_true (by kernel_rfl))))
  have HL := hideB2 (fun W (h : SlW W v l) => only_any v l b ⟨#[99, 111, 110, 116, 101, 110, 116, 45, 108, 101, 110, 103, 116, 104]⟩ W h hl hz (h1 _ (of_decide_eq_true (by kernel_rfl))))
  rw [foldB_da] at HD
  rw [foldB_ty] at HT
  rw [foldB_id] at HI
  rw [foldB_len] at HL
  have z1 := onlyV_le hz daF
  have z2 := onlyV_le hz tyF
  have z3 := onlyV_le hz idF
  have z4 := onlyV_le hz lenF
  have HWD := hideB2 (fun W (h : MonTab W) => ReadWarcDate_all (onlyV l daF) W h)
  have HRD := hideB2 (fun W => ReadDec_any (onlyV l lenF) W (h1 _ z4))
  have HTK := hideB2 (fun W => Token_any (onlyV l tyF) W (h1 _ z2))
  have HBR := hideB2 (fun W => bracketed_any (onlyV l idF) W (by omega))
  unfold sizeN sizeO
  have HV := hideB2 hv
  have HMT := hideB2 hM
  have HB0 := hideB2 (below_a1 w (.cells #[v, .string b] 31))
  have A0 := hideB2 (Blk.new w #[v, .string b] 31)
  obtain ⟨a, c0, hvf⟩ := hv.form
  clear hv hl hz hM h1 z1 z2 z3 z4
  subst hvf
  generalize hD : onlyV l daF = D at *
  generalize hTy : onlyV l tyF = T at *
  generalize hId : onlyV l idF = I at *
  generalize hLn : onlyV l lenF = N at *
  generalize l.length = m at *
  clear hD hTy hId hLn
  generalize rdecN N = n at *
  generalize rdecOk N = nk at *
  generalize wqN D = dn at *
  generalize wqO D = dk at *
  generalize tokB T = tk at *
  generalize brQ I = bk at *
  cases dk <;> cases nk <;> cases tk
  all_goals
    go_enter Tryd.func20, Tryd.ntmps20
    go_wp2_with fail
    refine (HD.out _ (HV.out.keep HB0.out)).mono ?_
    rintro e w1 ⟨rfl, hb1⟩
    have HB1 := hideB2 (below_then HB0.out hb1)
    have A1 := hideB2 (A0.out.later hb1)
    clear hb1
    go_wp2_with fail
    refine (HWD.out _ (HMT.out.below HB1.out)).mono ?_
    rintro e w2 ⟨rfl, hb2⟩
    have HB2 := hideB2 (below_then HB1.out hb2)
    have A2 := hideB2 (A1.out.later hb2)
    obtain ⟨p0, p1⟩ := A2.out.c2
    clear hb2
    go_wp2_with fail
    refine (HL.out _ (HV.out.keep HB2.out)).mono ?_
    rintro e w3 ⟨rfl, hb3⟩
    have HB3 := hideB2 (below_then HB2.out hb3)
    have A3 := hideB2 (A2.out.later hb3)
    clear hb3 p0 p1
    obtain ⟨p0, p1⟩ := A3.out.c2
    go_wp2_with (first | (go_at_call 40; refine (HRD.out _).mono ?_; rintro e w' ⟨rfl, rfl⟩) | fail)
    first
      | (refine (HT.out _ (HV.out.keep HB3.out)).mono ?_
         rintro e w4 ⟨rfl, hb4⟩
         have HB4 := hideB2 (below_then HB3.out hb4)
         have A4 := hideB2 (A3.out.later hb4)
         clear hb4 p0 p1
         obtain ⟨p0, p1⟩ := A4.out.c2
         go_wp2_with (first | (go_at_call 41; refine (HTK.out _).mono ?_; rintro e w' ⟨rfl, rfl⟩) | fail)
         first
           | (refine (HI.out _ (HV.out.keep HB4.out)).mono ?_
              rintro e w5 ⟨rfl, hb5⟩
              have HB5 := hideB2 (below_then HB4.out hb5)
              clear hb5
              go_wp2_with (go_at_call 42; refine (HBR.out _).mono ?_; rintro e w' ⟨rfl, rfl⟩)
              go_ret2
              exact ⟨rfl, HB5.out⟩)
           | (go_ret2
              exact ⟨rfl, HB4.out⟩))
      | (go_ret2
         exact ⟨rfl, HB3.out⟩)
end Go.Proofs.YtffjpidjhcnnmabDoor
