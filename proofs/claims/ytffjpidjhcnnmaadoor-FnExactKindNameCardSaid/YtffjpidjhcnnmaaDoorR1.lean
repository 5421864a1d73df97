/-
  Chapter 8 on lists: a kind's word, an id's text, where a head ends. No Go in sight.
-/
import Derived.Test.YtffjpidjhcnnmaaDoorHT
import Derived.Test.YtffjpidjhcnnmaaDoorW5
import Derived.Test.YtffjpidjhcnnmaaDoorMX
import Derived.Lib.Index
import Derived.Lib.IndexMore
import Derived.Lib.Strings
namespace Go.Proofs.YtffjpidjhcnnmaaDoor
set_option linter.unusedVariables false
set_option linter.unusedSimpArgs false
open Go.RowKit
def kindB (k : Int) : ByteArray :=
  if k = 0 then ⟨#[119, 97, 114, 99, 105, 110, 102, 111]⟩ else if k = 1 then ⟨#[114, 101, 113, 117, 101, 115, 116]⟩ else if k = 2 then ⟨#[114, 101, 115, 112, 111, 110, 115, 101]⟩
  else if k = 3 then ⟨#[114, 101, 118, 105, 115, 105, 116]⟩ else if k = 4 then ⟨#[109, 101, 116, 97, 100, 97, 116, 97]⟩ else ⟨#[]⟩
theorem kindB_no {k : Int} (h : ¬ (0 ≤ k ∧ k ≤ 4)) : kindB k = ⟨#[]⟩ := by
  unfold kindB
  rw [if_neg (by omega), if_neg (by omega), if_neg (by omega), if_neg (by omega), if_neg (by omega)]
theorem kindB_size (k : Int) : (kindB k).size ≤ 8 := by
  unfold kindB
  split
  · exact of_decide_eq_true (by kernel_rfl)
  · split
    · exact of_decide_eq_true (by kernel_rfl)
    · split
      · exact of_decide_eq_true (by kernel_rfl)
      · split
        · exact of_decide_eq_true (by kernel_rfl)
        · split
          · exact of_decide_eq_true (by kernel_rfl)
          · exact of_decide_eq_true (by kernel_rfl)
/-- '<urn:stillroom:' -/
def idA : ByteArray := ⟨#[60, 117, 114, 110, 58, 115, 116, 105, 108, 108, 114, 111, 111, 109, 58]⟩
def gtB : ByteArray := ⟨#[62]⟩
def idB (n : Int) : ByteArray := if 0 ≤ n ∧ n ≤ 999999 then (idA ++ decT n) ++ gtB else ⟨#[]⟩
theorem idB_yes {n : Int} (h : 0 ≤ n ∧ n ≤ 999999) : idB n = (idA ++ decT n) ++ gtB := by unfold idB; rw [if_pos h]
theorem idB_no {n : Int} (h : ¬ (0 ≤ n ∧ n ≤ 999999)) : idB n = ⟨#[]⟩ := by unfold idB; rw [if_neg h]
theorem decT_six {n : Int} (h : 0 ≤ n ∧ n ≤ 999999) : 1 ≤ (decT n).size ∧ (decT n).size ≤ 6 := by
  unfold decT
  rw [if_pos (by omega)]
  have h1 : n.toNat ≤ 999999 := by omega
  generalize n.toNat = u at *
  have h2 := dec_len_le 5 u (by omega)
  have h3 := decDigits_ne_nil u
  have h4 : 0 < (Lib.decDigits u).length := List.length_pos_iff.2 h3
  show 1 ≤ (Lib.decDigits u).toArray.size ∧ (Lib.decDigits u).toArray.size ≤ 6
  rw [List.size_toArray]
  omega
theorem rdec_decT {n : Int} (h : 0 ≤ n ∧ n ≤ 999999999999999) : rdecOk (decT n) = true ∧ rdecN (decT n) = n := by
  have h1 : rdec (decT n) = some n.toNat := by
    unfold decT
    rw [if_pos h]
    have hu : n.toNat ≤ 999999999999999 := by omega
    generalize n.toNat = u at *
    have h2 := decDigits_len u hu
    have h3 := decDigits_ne_nil u
    have h4 : 0 < (Lib.decDigits u).length := List.length_pos_iff.2 h3
    have hz : (decB u).size = (Lib.decDigits u).length := by show (Lib.decDigits u).toArray.size = _; rw [List.size_toArray]
    rw [rdec_yes (decB u) (by omega) (by omega) (by rw [decB_list]; exact allDig_dec u) (by rw [decB_list, valL_dec]), decB_list, valL_dec]
  unfold rdecOk rdecN
  rw [h1]
  refine ⟨rfl, ?_⟩
  show ((n.toNat : Nat) : Int) = n
  omega
theorem idA_size : idA.size = 15 := rfl
theorem gtB_size : gtB.size = 1 := rfl
theorem idB_size {n : Int} (h : 0 ≤ n ∧ n ≤ 999999) : (idB n).size = 16 + (decT n).size := by
  rw [idB_yes h, ByteArray.size_append, ByteArray.size_append, idA_size, gtB_size]; omega
theorem idB_le (n : Int) : (idB n).size ≤ 22 := by
  by_cases h : 0 ≤ n ∧ n ≤ 999999
  · have := decT_six h; rw [idB_size h]; omega
  · rw [idB_no h]; show (0 : Nat) ≤ 22; omega
theorem idB_list {n : Int} (h : 0 ≤ n ∧ n ≤ 999999) : (idB n).data.toList = idA.data.toList ++ (decT n).data.toList ++ [62] := by
  rw [idB_yes h, app_list, app_list]; rfl
def midB (s : ByteArray) : ByteArray := s.extract 15 (s.size - 1)
theorem midB_id {n : Int} (h : 0 ≤ n ∧ n ≤ 999999) : midB (idB n) = decT n := by
  apply bytes_ext
  unfold midB
  have hz := idB_size h
  refine mid_bytes (idB n) idA.data.toList (decT n).data.toList [62] 15 _ (idB_list h) rfl ?_
  rw [len_data, hz]; omega
def ridO (s : ByteArray) : Bool := decide (17 ≤ s.size ∧ s.size ≤ 22) && rdecOk (midB s) && eqB (idB (rdecN (midB s))) s
def ridN (s : ByteArray) : Int := if ridO s = true then rdecN (midB s) else 0
theorem rid_id {n : Int} (h : 0 ≤ n ∧ n ≤ 999999) : ridO (idB n) = true ∧ ridN (idB n) = n := by
  obtain ⟨h1, h2⟩ := rdec_decT (n := n) (by omega)
  have h3 := decT_six h
  have h4 := idB_size h
  have ho : ridO (idB n) = true := by
    unfold ridO
    rw [midB_id h, h1, h2, eqB_self, decide_eq_true (by omega)]; rfl
  refine ⟨ho, ?_⟩
  unfold ridN
  rw [if_pos ho, midB_id h, h2]
theorem ridO_ex {s : ByteArray} (h : ridO s = true) : (0 ≤ ridN s ∧ ridN s ≤ 999999) ∧ s = idB (ridN s) := by
  unfold ridN
  rw [if_pos h]
  unfold ridO at h
  rw [Bool.and_eq_true, Bool.and_eq_true, decide_eq_true_eq] at h
  obtain ⟨⟨h1, _⟩, h3⟩ := h
  have h4 := eqB_iff.1 h3
  refine ⟨?_, h4.symm⟩
  by_cases hr : 0 ≤ rdecN (midB s) ∧ rdecN (midB s) ≤ 999999
  · exact hr
  · rw [idB_no hr] at h4
    rw [← h4] at h1
    exact absurd h1.1 (of_decide_eq_true (by kernel_rfl))
theorem ridN_no {s : ByteArray} (h : ridO s = false) : ridN s = 0 := by unfold ridN; rw [if_neg (by rw [h]; decide)]
/-- What the program reads: the two ends taken off where they stand. -/
def trmB (s : ByteArray) : ByteArray := ⟨(Lib.trimSuffix (Lib.trimPrefix s.data.toList idA.data.toList) [62]).toArray⟩
theorem trimPrefix_app (p l : List UInt8) : Lib.trimPrefix (p ++ l) p = l := by
  simp [Lib.trimPrefix, Lib.hasPrefix]
theorem trimSuffix_app (p l : List UInt8) : Lib.trimSuffix (l ++ p) p = l := by
  simp [Lib.trimSuffix, Lib.hasSuffix]
theorem trmB_id {n : Int} (h : 0 ≤ n ∧ n ≤ 999999) : trmB (idB n) = decT n := by
  apply bytes_ext
  unfold trmB
  rw [idB_list h, List.append_assoc, trimPrefix_app, trimSuffix_app]
theorem trmB_le (s : ByteArray) : (trmB s).size ≤ s.size := by
  show (Lib.trimSuffix (Lib.trimPrefix s.data.toList idA.data.toList) [62]).toArray.size ≤ _
  rw [List.size_toArray, ← len_data s]
  have h1 : ∀ l p : List UInt8, (Lib.trimPrefix l p).length ≤ l.length := by
    intro l p; unfold Lib.trimPrefix; split <;> simp
  have h2 : ∀ l p : List UInt8, (Lib.trimSuffix l p).length ≤ l.length := by
    intro l p; unfold Lib.trimSuffix; split <;> simp
  exact Nat.le_trans (h2 _ _) (h1 _ _)
theorem rid_trm (s : ByteArray) : (rdecOk (trmB s) && eqB (idB (rdecN (trmB s))) s) = ridO s ∧ (ridO s = true → rdecN (trmB s) = ridN s) := by
  have key : ridO s = true → rdecOk (trmB s) = true ∧ rdecN (trmB s) = ridN s := by
    intro h
    obtain ⟨hr, he⟩ := ridO_ex h
    generalize ridN s = n at *
    subst he
    rw [trmB_id hr]
    exact rdec_decT (by omega)
  refine ⟨?_, fun h => (key h).2⟩
  cases ho : ridO s
  · cases h1 : rdecOk (trmB s)
    · rfl
    · rw [Bool.true_and]
      cases h2 : eqB (idB (rdecN (trmB s))) s
      · rfl
      · exfalso
        have h3 := eqB_iff.1 h2
        by_cases hr : 0 ≤ rdecN (trmB s) ∧ rdecN (trmB s) ≤ 999999
        · have := (rid_id hr).1
          rw [h3, ho] at this
          cases this
        · rw [idB_no hr] at h3
          rw [← h3] at h1
          revert h1
          decide +kernel
  · obtain ⟨h1, h2⟩ := key ho
    obtain ⟨_, he⟩ := ridO_ex ho
    rw [h1, h2, ← he, eqB_self]; rfl
/-! Where a head ends. -/
def crlf2 : List UInt8 := [13, 10, 13, 10]
def hdI (b : ByteArray) : Int := Lib.index b.data.toList crlf2
def hdO (b : ByteArray) : Bool := decide (0 ≤ hdI b)
def hdN (b : ByteArray) : Nat := (hdI b).toNat + 4
def headPB (b : ByteArray) : ByteArray := if 0 ≤ hdI b then b.extract 0 (hdN b) else ⟨#[]⟩
def payB (b : ByteArray) : ByteArray := if 0 ≤ hdI b then b.extract (hdN b) b.size else ⟨#[]⟩
theorem hdI_room {b : ByteArray} (h : 0 ≤ hdI b) : hdN b ≤ b.size ∧ hdI b = ((hdN b - 4 : Nat) : Int) ∧ 4 ≤ hdN b := by
  have h1 := Lib.index_room b.data.toList crlf2 h
  rw [len_data] at h1
  have h2 : crlf2.length = 4 := rfl
  unfold hdN
  unfold hdI at *
  omega
theorem payB_le (b : ByteArray) : (payB b).size ≤ b.size := by
  unfold payB
  split
  · rw [ByteArray.size_extract]; omega
  · show (0 : Nat) ≤ _; omega
theorem headPB_le (b : ByteArray) : (headPB b).size ≤ b.size := by
  unfold headPB
  split
  · rw [ByteArray.size_extract]; omega
  · show (0 : Nat) ≤ _; omega
theorem hdI_neg {b : ByteArray} (h : ¬ 0 ≤ hdI b) : hdI b = -1 := by
  rcases Lib.index_spec b.data.toList crlf2 with ⟨h1, _⟩ | ⟨i, h1, _⟩
  · exact h1
  · unfold hdI at h; rw [h1] at h; omega
end Go.Proofs.YtffjpidjhcnnmaaDoor
