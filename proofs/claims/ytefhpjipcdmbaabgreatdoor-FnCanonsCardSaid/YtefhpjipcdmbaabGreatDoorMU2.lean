/-
  Chapter 7: addresses, on lists. No Go in sight.
-/
import Derived.Test.YtefhpjipcdmbaabGreatDoorMU
import Derived.Test.YtefhpjipcdmbaabGreatDoorHT
import Derived.Test.YtefhpjipcdmbaabGreatDoorD1
namespace Go.Proofs.YtefhpjipcdmbaabGreatDoor
set_option linter.unusedVariables false
set_option linter.unusedSimpArgs false
open Go.RowKit
/-- A sign of a host, and of a host's piece. -/
def pcP (n : Int) : Bool := (decide (97 ≤ n) && decide (n ≤ 122)) || digP n || n == 45
def hstP (n : Int) : Bool := pcP n || n == 46
def pc8 (b : UInt8) : Bool := pcP (b.toNat : Int)
def hst8 (b : UInt8) : Bool := hstP (b.toNat : Int)
def hostQ (h : ByteArray) : Bool := decide (h.size ≤ 60) && allB hst8 h && !((splS 46 h).any fun x => eqB x ⟨#[]⟩)
def portB (n : Int) : ByteArray := if n = 80 then ⟨#[]⟩ else (⟨#[58]⟩ : ByteArray) ++ decT n
def qryB (q : ByteArray) (b : Bool) : ByteArray := if b = true then (⟨#[63]⟩ : ByteArray) ++ q else ⟨#[]⟩
def schB : ByteArray := ⟨#[104, 116, 116, 112, 58, 47, 47]⟩
def utxt (ho pa qu : ByteArray) (po : Int) (hq : Bool) : ByteArray := ((schB ++ ho) ++ portB po) ++ pa ++ qryB qu hq
def queQ (q : ByteArray) (b : Bool) : Bool := (b || eqB q ⟨#[]⟩) && decide (idxS 35 q < 0)
def urlQ (ho pa qu : ByteArray) (po : Int) (hq : Bool) : Bool := hostQ ho && withinB po 1 65535 && !eqB pa ⟨#[]⟩ && eqB (clnB pa) pa && queQ qu hq && targQ (utxt ho pa qu po hq)
theorem portB_size (n : Int) : (portB n).size ≤ 16 := by
  unfold portB
  have h := decT_size n
  split
  · show (0 : Nat) ≤ _; omega
  · rw [ByteArray.size_append]
    have e : (⟨#[58]⟩ : ByteArray).size = 1 := rfl
    omega
theorem qryB_size (q : ByteArray) (b : Bool) : (qryB q b).size ≤ q.size + 1 := by
  unfold qryB
  split
  · rw [ByteArray.size_append]
    have e : (⟨#[63]⟩ : ByteArray).size = 1 := rfl
    omega
  · show (0 : Nat) ≤ _; omega
theorem utxt_size (ho pa qu : ByteArray) (po : Int) (hq : Bool) : (utxt ho pa qu po hq).size = 7 + ho.size + (portB po).size + pa.size + (qryB qu hq).size := by
  unfold utxt
  rw [ByteArray.size_append, ByteArray.size_append, ByteArray.size_append, ByteArray.size_append]
  rfl
theorem all_app (p : UInt8 → Bool) (a b : ByteArray) : allB p (a ++ b) = (allB p a && allB p b) := by
  unfold allB
  rw [Go.Joins.data_append, List.all_append]
/-- The pieces have no sign that parts them. -/
theorem splS_all (c : UInt8) (p q : UInt8 → Bool) (hpq : ∀ b, b ≠ c → p b = q b) (hc : p c = true) : ∀ (n : Nat) (s : ByteArray), s.size ≤ n → allB p s = (splS c s).all (allB q)
  | n, s, hn => by
    rcases idxS_cases c s with h | ⟨i, h, hi⟩
    · rw [(splS_none h).2]
      have h0 := idxS_none h
      have e : allB p s = allB q s := by
        unfold allB
        rw [Bool.eq_iff_iff, List.all_eq_true, List.all_eq_true]
        have hx : ∀ b ∈ s.data.toList, p b = q b := by
          intro b hb
          obtain ⟨j, hj, rfl⟩ := List.mem_iff_getElem.1 hb
          have hj' : j < s.size := by rw [len_data] at hj; exact hj
          have := h0 j hj'
          unfold at8 at this
          rw [List.getD, List.getElem?_eq_getElem hj] at this
          exact hpq _ this
        constructor
        · intro hh b hb; rw [← hx b hb]; exact hh b hb
        · intro hh b hb; rw [hx b hb]; exact hh b hb
      rw [e]; simp
    · cases n with
      | zero => omega
      | succ n =>
        obtain ⟨g1, g2, g3⟩ := idxS_some h
        have e2 : (s.extract (i + 1) s.size).size = s.size - (i + 1) := by rw [ByteArray.size_extract]; omega
        have ih := splS_all c p q hpq hc n (s.extract (i + 1) s.size) (by omega)
        have e0 : (s.extract 0 i).size = i := by rw [ByteArray.size_extract]; omega
        have hn0 : idxS c (s.extract 0 i) = -1 := idxS_miss (fun j hj => by
          rw [at8_extS (by omega) (by omega), Nat.zero_add]; exact g3 j (by omega))
        have ih0 := splS_all c p q hpq hc n (s.extract 0 i) (by omega)
        rw [(splS_none hn0).2] at ih0
        rw [(splS_some h).2, List.all_cons, ← ih]
        have e1 : s.data.toList = (s.extract 0 i).data.toList ++ c :: (s.extract (i + 1) s.size).data.toList := by
          have t1 : (s.extract 0 i).data.toList = s.data.toList.take i := by rw [Lib.extract_data, List.drop_zero, Nat.sub_zero]
          have t2 : (s.extract (i + 1) s.size).data.toList = s.data.toList.drop (i + 1) := by
            rw [Lib.extract_data]; exact List.take_of_length_le (by rw [List.length_drop, len_data]; omega)
          rw [t1, t2, ← g2, ← drop_at8 g1, List.take_append_drop]
        have e3 : allB p s = (allB p (s.extract 0 i) && allB p (s.extract (i + 1) s.size)) := by
          unfold allB
          rw [e1, List.all_append, List.all_cons, hc, Bool.true_and]
        rw [e3, ih0]
        simp
theorem hst_pieces (s : ByteArray) : allB hst8 s = (splS 46 s).all (allB pc8) := by
  refine splS_all 46 hst8 pc8 ?_ rfl s.size s (Nat.le_refl _)
  intro b hb
  unfold hst8 pc8 hstP
  have : ((b.toNat : Int) == 46) = false := by
    rw [beq_eq_false_iff_ne]
    intro hh
    exact hb (UInt8.toNat_inj.1 (by have : b.toNat = 46 := by omega
                                    rw [this]; rfl))
  rw [this, Bool.or_false]
theorem pcP_vis {n : Int} (h : hstP n = true) : visP n = true := by
  unfold hstP pcP digP at h
  unfold visP
  simp at h ⊢
  omega
theorem allB_mono {p q : UInt8 → Bool} {s : ByteArray} (h : allB p s = true) (hpq : ∀ b, p b = true → q b = true) : allB q s = true := by
  unfold allB at *
  rw [List.all_eq_true] at *
  intro b hb
  exact hpq b (h b hb)
theorem host_vis {s : ByteArray} (h : allB hst8 s = true) : allB vis8 s = true := allB_mono h (fun b hb => pcP_vis hb)
end Go.Proofs.YtefhpjipcdmbaabGreatDoor
