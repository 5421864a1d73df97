/-
  Chapter 5: may they all stand in a head? A field as a line. Both sides.
-/
import Derived.Test.YtaelopjalfapgabF2
import Derived.Lib.AppendStr
import Derived.Lib.SmallJoins
namespace Go.Proofs.Ytaelopjalfapgab
set_option linter.unusedVariables false
set_option linter.unusedSimpArgs false
open Go.RowKit
set_option maxHeartbeats 2000000 in
theorem FieldsOk_any (v : Value) (l : List Fd) (w : World) (hv : SlF w v l) (hl : l.length ≤ 1048576) (ht : totF l ≤ 1099511627776) :
    Calls Try.prog 16 #[v] w fun e w' => e = .returned (.bool (fieldsQ l)) ∧ Below w.heap.size w w' := by
  obtain ⟨a, c0, rfl⟩ := hv.form
  have HV := hideB2 hv
  clear hv
  generalize hQ : fieldsQ l = R
  have HQ := hideB2 hQ
  clear hQ
  generalize hn : l.length = n at *
  have HN := hideB2 hn
  clear hn
  by_cases h0 : n ≤ 20
  · go_enter Try.func16, Try.ntmps16
    go_wp2
    go_loopw [10] (fun i wr => ∃ k : Nat, k ≤ n ∧ i = .int .i64 k ∧ (∀ j, j < k → fieldQ (fdAt l j) = true) ∧ Below w.heap.size w wr) (fun i _ => n - (intOf i).toNat)
    case atStart => exact ⟨0, Nat.zero_le _, rfl, fun j hj => absurd hj (by omega), Below.refl _ _⟩
    case round =>
      obtain ⟨k, hk, rfl, hall, hb⟩ := hrel
      by_cases hlt : k < n
      · obtain ⟨b, rfl, hr⟩ := HV.out.row (by rw [HN.out]; omega)
        have p0 := (hr.keep hb).dat k (by rw [HN.out]; exact hlt)
        have p1 := (hr.keep hb).saf k (by rw [HN.out]; exact hlt)
        have hat := totF_at l k (by rw [HN.out]; exact hlt)
        have HBAD := hideB2 (fun h => fieldsQ_bad (l := l) (k := k) (by rw [HN.out]; exact hlt) h)
        have HALL := hideB2 hall
        have HBW := hideB2 hb
        clear hr hall hb
        generalize hx : fdAt l k = x at *
        have HX := hideB2 hx
        clear hx
        obtain ⟨d, s⟩ := x
        simp only at p0 p1 hat
        have hds : d.size ≤ maxLen ∧ s.size ≤ maxLen := by simp only [szF] at hat; unfold maxLen; omega
        have HDS := hideB2 hds
        clear hat hds
        cases hq : fieldQ (d, s)
        · have HF := hideB2 (show false = R by rw [← HQ.out]; exact (HBAD.out hq).symm)
          have HQ2 := hideB2 hq
          clear hq HBAD
          go_wp2_with (go_at_call 29; refine (FieldOk_any d s _ HDS.out.1 HDS.out.2).mono ?_; rintro e w2 ⟨rfl, hb2⟩; rw [HQ2.out])
          go_ret
          exact ⟨ret_bool HF.out.symm, below_then HBW.out (below_then (below_a1 wr _) hb2)⟩
        · have HQ2 := hideB2 hq
          clear hq HBAD
          go_wp2_with (go_at_call 29; refine (FieldOk_any d s _ HDS.out.1 HDS.out.2).mono ?_; rintro e w2 ⟨rfl, hb2⟩; rw [HQ2.out])
          refine ⟨⟨k + 1, by omega, by go_num, fun j hj => ?_, below_then HBW.out (below_then (below_a1 wr _) hb2)⟩, by simp [intOf]; omega⟩
          by_cases e : j = k
          · subst e; rw [HX.out]; exact HQ2.out
          · exact HALL.out j (by omega)
      · obtain rfl : k = n := by omega
        have HF := hideB2 (show true = R by rw [← HQ.out]; exact (fieldsQ_all (by rw [HN.out]; exact h0) (fun j hj => hall j (by rw [HN.out] at hj; exact hj))).symm)
        clear hall
        go_wp2
        go_ret
        exact ⟨ret_bool HF.out.symm, hb⟩
  · have HF := hideB2 (show false = R by
      rw [← HQ.out]
      cases hh : fieldsQ l with
      | false => rfl
      | true => have := (fieldsQ_iff.1 hh).1; rw [HN.out] at this; exact absurd this h0)
    have h1 : (20 : Int) < (n : Int) := by omega
    go_enter Try.func16, Try.ntmps16
    go_wp2
    go_ret
    exact ⟨ret_bool HF.out.symm, Below.refl _ _⟩
set_option maxHeartbeats 2000000 in
theorem sFieldsOk_any (v : Value) (l : List Fd) (w : World) (hv : SlF w v l) (hl : l.length ≤ 1048576) (ht : totF l ≤ 1099511627776) :
    Calls Try.prog 10 #[v] w fun e w' => e = .returned (.bool (fieldsQ l)) ∧ Below w.heap.size w w' := by
  obtain ⟨a, c0, rfl⟩ := hv.form
  have HV := hideB2 hv
  clear hv
  generalize hQ : fieldsQ l = R
  have HQ := hideB2 hQ
  clear hQ
  generalize hn : l.length = n at *
  have HN := hideB2 hn
  clear hn
  by_cases h0 : n ≤ 20
  · go_enter Try.func10, Try.ntmps10
    go_wp2
    go_loopw [3] (fun i wr => ∃ k : Nat, k ≤ n ∧ i = .int .i64 k ∧ (∀ j, j < k → fieldQ (fdAt l j) = true) ∧ Below w.heap.size w wr) (fun i _ => n - (intOf i).toNat)
    case atStart => exact ⟨0, Nat.zero_le _, rfl, fun j hj => absurd hj (by omega), Below.refl _ _⟩
    case round =>
      obtain ⟨k, hk, rfl, hall, hb⟩ := hrel
      by_cases hlt : k < n
      · obtain ⟨b, rfl, hr⟩ := HV.out.row (by rw [HN.out]; omega)
        have p0 := (hr.keep hb).dat k (by rw [HN.out]; exact hlt)
        have p1 := (hr.keep hb).saf k (by rw [HN.out]; exact hlt)
        have hat := totF_at l k (by rw [HN.out]; exact hlt)
        have HBAD := hideB2 (fun h => fieldsQ_bad (l := l) (k := k) (by rw [HN.out]; exact hlt) h)
        have HALL := hideB2 hall
        have HBW := hideB2 hb
        clear hr hall hb
        generalize hx : fdAt l k = x at *
        have HX := hideB2 hx
        clear hx
        obtain ⟨d, s⟩ := x
        simp only at p0 p1 hat
        have hds : d.size ≤ maxLen ∧ s.size ≤ maxLen := by simp only [szF] at hat; unfold maxLen; omega
        have HDS := hideB2 hds
        clear hat hds
        cases hq : fieldQ (d, s)
        · have HF := hideB2 (show false = R by rw [← HQ.out]; exact (HBAD.out hq).symm)
          have HQ2 := hideB2 hq
          clear hq HBAD
          go_wp2_with (go_at_call 22; refine (sFieldOk_any d s _ HDS.out.1 HDS.out.2).mono ?_; rintro e w2 ⟨rfl, hb2⟩; rw [HQ2.out])
          go_ret
          exact ⟨ret_bool HF.out.symm, below_then HBW.out hb2⟩
        · have HQ2 := hideB2 hq
          clear hq HBAD
          go_wp2_with (go_at_call 22; refine (sFieldOk_any d s _ HDS.out.1 HDS.out.2).mono ?_; rintro e w2 ⟨rfl, hb2⟩; rw [HQ2.out])
          refine ⟨⟨k + 1, by omega, by go_num, fun j hj => ?_, below_then HBW.out hb2⟩, by simp [intOf]; omega⟩
          by_cases e : j = k
          · subst e; rw [HX.out]; exact HQ2.out
          · exact HALL.out j (by omega)
      · obtain rfl : k = n := by omega
        have HF := hideB2 (show true = R by rw [← HQ.out]; exact (fieldsQ_all (by rw [HN.out]; exact h0) (fun j hj => hall j (by rw [HN.out] at hj; exact hj))).symm)
        clear hall
        go_wp2
        go_ret
        exact ⟨ret_bool HF.out.symm, hb⟩
  · have HF := hideB2 (show false = R by
      rw [← HQ.out]
      cases hh : fieldsQ l with
      | false => rfl
      | true => have := (fieldsQ_iff.1 hh).1; rw [HN.out] at this; exact absurd this h0)
    have h1 : (20 : Int) < (n : Int) := by omega
    go_enter Try.func10, Try.ntmps10
    go_wp2
    go_ret
    exact ⟨ret_bool HF.out.symm, Below.refl _ _⟩
/-- A field as a line. -/
def lineF (x : Fd) : ByteArray := ⟨(x.1.data.toList ++ [58, 32] ++ x.2.data.toList).toArray⟩
def ftextB (x : Fd) : ByteArray := if fieldQ x = true then lineF x else ⟨#[]⟩
theorem lineF_eq1 (d s : ByteArray) : d ++ ⟨#[58]⟩ ++ ⟨#[32]⟩ ++ s = lineF (d, s) := by
  apply bytes_ext
  simp [lineF, Go.Joins.data_append]
theorem lineF_eq2 (d s : ByteArray) : d ++ ⟨#[58, 32]⟩ ++ s = lineF (d, s) := by
  apply bytes_ext
  simp [lineF, Go.Joins.data_append]
end Go.Proofs.Ytaelopjalfapgab
