/-
  Plain functions of chapter 1: what is quoted, read back and found among elements. No Go in sight.
-/
import Derived.Test.YtbdggopdhnlbfaaDoorME
import Derived.Test.YtbdggopdhnlbfaaDoorM8
import Derived.Lib.SmallJoins
namespace Go.Proofs.YtbdggopdhnlbfaaDoor
set_option linter.unusedVariables false
set_option linter.unusedSimpArgs false
open Go.RowKit

theorem quo8_iff (b : UInt8) : quo8 b = true ↔ b = 34 ∨ b = 92 := by
  unfold quo8 quoP
  rw [Bool.or_eq_true, beq_iff_eq, beq_iff_eq]
  constructor
  · rintro (h | h)
    · left; apply UInt8.toNat_inj.1; show b.toNat = 34; omega
    · right; apply UInt8.toNat_inj.1; show b.toNat = 92; omega
  · rintro (rfl | rfl) <;> simp
theorem escL_cons (b : UInt8) (l : List UInt8) : escL (b :: l) = esc8 b ++ escL l := by simp [escL]
theorem unq_escL : ∀ (l : List UInt8), (∀ x ∈ l, plain8 x = true) → unq (escL l) = some l
  | [], _ => rfl
  | b :: l, h => by
    have ih := unq_escL l fun x hx => h x (List.mem_cons_of_mem _ hx)
    have hb := h b List.mem_cons_self
    rw [escL_cons]
    unfold esc8
    by_cases hq : quo8 b = true
    · rw [if_pos hq, List.cons_append, List.cons_append, List.nil_append, unq_esc _ _ hb, ih]; rfl
    · have hn : ¬ (b = 34 ∨ b = 92) := fun hh => hq ((quo8_iff b).2 hh)
      rw [if_neg hq, List.cons_append, List.nil_append, unq_plain b _ (fun e => hn (Or.inr e)) (fun e => hn (Or.inl e)) hb, ih]; rfl
theorem quoL_len (l : List UInt8) : (quoL l).length = (escL l).length + 2 := by simp [quoL]
theorem quoB_size {s : ByteArray} (h : quoOk s = true) : (quoB s).size = (escL s.data.toList).length + 2 := by
  unfold quoB; rw [if_pos h]
  show (quoL s.data.toList).toArray.size = _
  simp [quoL_len]
theorem quoB_size_le (s : ByteArray) : (quoB s).size ≤ 2 * s.size + 2 := by
  cases h : quoOk s
  · unfold quoB; rw [if_neg (by rw [h]; decide)]; exact Nat.zero_le _
  · rw [quoB_size h]
    have := escL_len s.data.toList
    rw [len_data] at this
    omega
theorem quo_none {s : ByteArray} (h : quoOk s = false) : quoB s = ⟨#[]⟩ := by unfold quoB; rw [if_neg (by rw [h]; decide)]
theorem unqO_quoB {s : ByteArray} (h : quoOk s = true) : unqO (quoB s) = some s.data.toList := by
  have hs := quoB_size h
  have hd : (quoB s).data.toList = quoL s.data.toList := by unfold quoB; rw [if_pos h]
  have hp : s.size ≤ 4000 ∧ ∀ x ∈ s.data.toList, plain8 x = true := by
    unfold quoOk at h
    rw [Bool.and_eq_true, decide_eq_true_iff, List.all_eq_true] at h
    exact h
  refine unqO_some (by omega) ?_ ?_ ?_ (by rw [len_data]; exact hp.1)
  · unfold at8; rw [hd]; rfl
  · unfold at8
    rw [hd, hs]
    have e : (escL s.data.toList).length + 2 - 1 = (34 :: escL s.data.toList).length := by simp
    rw [e]
    unfold quoL
    rw [List.getD, List.getElem?_append_right (Nat.le_refl _), Nat.sub_self]; rfl
  · unfold inner
    rw [hd, hs]
    have e : (escL s.data.toList).length + 2 - 1 = (34 :: escL s.data.toList).length := by simp
    rw [e]
    unfold quoL
    rw [List.take_left]
    exact unq_escL _ hp.2
theorem unq_quo {s : ByteArray} (h : quoOk s = true) : unqB (quoB s) = s ∧ unqOk (quoB s) = true := by
  have := unq_some (unqO_quoB h)
  refine ⟨?_, this.2⟩
  rw [this.1]
theorem elG_esc : ∀ (l cur rest : List UInt8), elG 1 cur (escL l ++ rest) = elG 1 (cur ++ escL l) rest
  | [], cur, rest => by simp [escL]
  | b :: l, cur, rest => by
    have ih := elG_esc l
    rw [escL_cons]
    unfold esc8
    by_cases hq : quo8 b = true
    · rw [if_pos hq]
      have e1 : ([92, b] ++ escL l) ++ rest = 92 :: b :: (escL l ++ rest) := by simp
      rw [e1, elG, if_neg (by decide), if_pos rfl, elG, ih]
      · simp
      · intro hh; cases hh
      · intro hh; cases hh
    · have hn : ¬ (b = 34 ∨ b = 92) := fun hh => hq ((quo8_iff b).2 hh)
      rw [if_neg hq]
      have e1 : ([b] ++ escL l) ++ rest = b :: (escL l ++ rest) := by simp
      rw [e1, elG, if_neg (fun e => hn (Or.inl e)), if_neg (fun e => hn (Or.inr e)), ih]
      simp
theorem elG_quo (l : List UInt8) : elG 0 [] ([120, 44, 32] ++ quoL l ++ [32, 44, 121]) = [[120], [32] ++ quoL l ++ [32], [121]] := by
  have e : [120, 44, 32] ++ quoL l ++ [32, 44, 121] = 120 :: 44 :: 32 :: 34 :: (escL l ++ [34, 32, 44, 121]) := by simp [quoL]
  have f : elG 0 [] (120 :: 44 :: 32 :: 34 :: (escL l ++ [34, 32, 44, 121])) = [120] :: elG 1 [32, 34] (escL l ++ [34, 32, 44, 121]) := rfl
  have g : ∀ cur : List UInt8, elG 1 cur [34, 32, 44, 121] = [((cur ++ [34]) ++ [32]), [121]] := fun _ => rfl
  rw [e, f, elG_esc, g]
  simp [quoL]
theorem keep_quo (l : List UInt8) : keepP ([32] ++ quoL l ++ [32]) = [⟨(quoL l).toArray⟩] := by
  have ht : trimL ([32] ++ quoL l ++ [32]) = quoL l := by
    refine trimL_of [32] (quoL l) [32] (by intro x hx; simp at hx; subst hx; decide) (by intro x hx; simp at hx; subst hx; decide) (Or.inr ⟨34, 34, escL l ++ [34], 34 :: escL l, by simp [quoL], by simp [quoL], by decide, by decide⟩)
  unfold keepP
  rw [ht, if_neg (by simp [quoL])]
/-- What the law asks of Elements. -/
theorem els_quo {s : ByteArray} (h : quoOk s = true) (hs : s.size ≤ 1000) :
    elsB ((⟨#[120, 44, 32]⟩ ++ quoB s) ++ ⟨#[32, 44, 121]⟩) = [⟨#[120]⟩, quoB s, ⟨#[121]⟩] := by
  have hd : (quoB s).data.toList = quoL s.data.toList := by unfold quoB; rw [if_pos h]
  have hq : quoB s = ⟨(quoL s.data.toList).toArray⟩ := by unfold quoB; rw [if_pos h]
  have hz := quoB_size_le s
  rw [els_small (by
    rw [ByteArray.size_append, ByteArray.size_append]
    have e1 : (ByteArray.mk #[120, 44, 32]).size = 3 := rfl
    have e2 : (ByteArray.mk #[32, 44, 121]).size = 3 := rfl
    omega), Go.Joins.data_append, Go.Joins.data_append, hd]
  have e := elG_quo s.data.toList
  show cleanP (elG 0 [] ([120, 44, 32] ++ quoL s.data.toList ++ [32, 44, 121])) = _
  rw [e, hq]
  have k1 : keepP [120] = [⟨#[120]⟩] := by decide
  have k2 : keepP [121] = [⟨#[121]⟩] := by decide
  show keepP [120] ++ (keepP ([32] ++ quoL s.data.toList ++ [32]) ++ (keepP [121] ++ [])) = _
  rw [k1, k2, keep_quo]; rfl
end Go.Proofs.YtbdggopdhnlbfaaDoor
