/-
  Chapter 4: stores as lists: what an operation makes of one.
-/
import Derived.Test.YtknpolmenfdheaaDoorG14
import Derived.Test.YtknpolmenfdheaaDoorG15
import Derived.Test.YtknpolmenfdheaaDoorG16
namespace Go.Proofs.YtknpolmenfdheaaDoor
set_option linter.unusedVariables false
set_option linter.unusedSimpArgs false
open Go.RowKit
theorem split_last {l : List Sg} (h : 1 ≤ l.length) : ∃ p y, l = p ++ [y] := by
  refine ⟨l.dropLast, l.getLast (by intro e; subst e; simp at h), ?_⟩
  exact (List.dropLast_concat_getLast _).symm
theorem lastG_snoc (p : List Sg) (y : Sg) : lastG (p ++ [y]) = y := by
  unfold lastG
  rw [sgAt_get (by simp)]
  simp
theorem putLast_snoc (p : List Sg) (y x : Sg) : putLast (p ++ [y]) x = p ++ [x] := by
  unfold putLast
  rw [List.length_append, List.length_singleton, Nat.add_sub_cancel, List.set_append_right _ _ (Nat.le_refl _), Nat.sub_self]
  rfl
theorem sgAt_left (p q : List Sg) (j : Nat) (h : j < p.length) : sgAt (p ++ q) j = sgAt p j := by
  rw [sgAt_get (by simp; omega), sgAt_get h, List.getElem_append_left h]
theorem sgAt_mem (p : List Sg) (j : Nat) (h : j < p.length) : sgAt p j ∈ p := by rw [sgAt_get h]; exact List.getElem_mem h
/-- A store, its last segment by name. -/
structure Stq (p : List Sg) (y : Sg) (c : Int) : Prop where
  c0 : 0 ≤ c
  c1 : c ≤ 60000
  len : p.length + 1 ≤ 40
  full : ∀ s ∈ p, 0 < s.1.size ∧ s.2 = (s.1.size : Int)
  s0 : 0 ≤ y.2
  s1 : y.2 ≤ (y.1.size : Int)
  tot : (totG p : Int) + (y.1.size : Int) ≤ c
theorem stq_iff {p : List Sg} {y : Sg} {c : Int} : storeQ (p ++ [y]) c = true ↔ Stq p y c := by
  rw [storeQ_iff, totG_app, totG_one]
  simp only [List.length_append, List.length_singleton]
  constructor
  · rintro ⟨h1, h2, _, h4, h5, h6⟩
    refine ⟨h1, h2, h4, fun s hs => ?_, ?_, ?_, by omega⟩
    · obtain ⟨j, hj, rfl⟩ := List.getElem_of_mem hs
      have := rowQ_iff.1 (h5 j (by omega))
      rw [sgAt_left _ _ _ hj, sgAt_get hj] at this
      exact this.2.2 (by omega)
    · have := rowQ_iff.1 (h5 p.length (by omega))
      rw [sgAt_get (by simp)] at this
      simpa using this.1
    · have := rowQ_iff.1 (h5 p.length (by omega))
      rw [sgAt_get (by simp)] at this
      simpa using this.2.1
  · intro h
    refine ⟨h.c0, h.c1, by omega, h.len, fun j hj => rowQ_iff.2 ?_, by have := h.tot; omega⟩
    by_cases e : j < p.length
    · rw [sgAt_left _ _ _ e]
      have := h.full _ (sgAt_mem p j e)
      exact ⟨by rw [this.2]; omega, by rw [this.2]; exact Int.le_refl _, fun _ => this⟩
    · obtain rfl : j = p.length := by omega
      rw [sgAt_get (by simp)]
      simp only [List.getElem_append_right (Nat.le_refl _), Nat.sub_self, List.getElem_singleton]
      exact ⟨h.s0, h.s1, fun h => by omega⟩
theorem storeQ_snoc {l : List Sg} {c : Int} (h : storeQ l c = true) : ∃ p y, l = p ++ [y] ∧ Stq p y c := by
  obtain ⟨p, y, rfl⟩ := split_last (storeQ_iff.1 h).2.2.1
  exact ⟨p, y, rfl, stq_iff.1 h⟩
theorem Stq.app {p : List Sg} {y : Sg} {c : Int} (h : Stq p y c) (b : ByteArray) (hb : ¬ c - (totG (p ++ [y]) : Int) < (b.size : Int)) : Stq p (y.1 ++ b, y.2) c := by
  rw [totG_app, totG_one] at hb
  have e : (y.1 ++ b).size = y.1.size + b.size := ByteArray.size_append
  exact ⟨h.c0, h.c1, h.len, h.full, h.s0, by have := h.s1; simp only [e]; omega, by simp only [e]; omega⟩
theorem Stq.sync {p : List Sg} {y : Sg} {c : Int} (h : Stq p y c) : Stq p (y.1, (y.1.size : Int)) c := ⟨h.c0, h.c1, h.len, h.full, by show (0 : Int) ≤ _; omega, Int.le_refl _, h.tot⟩
theorem Stq.roll {p : List Sg} {y : Sg} {c : Int} (h : Stq p y c) (hz : ¬ y.1.size = 0) (hl : ¬ (p ++ [y]).length = 40) : Stq (p ++ [(y.1, (y.1.size : Int))]) sg0 c := by
  have hl' := h.len
  simp only [List.length_append, List.length_singleton] at hl
  refine ⟨h.c0, h.c1, by simp only [List.length_append, List.length_singleton]; omega, fun s hs => ?_, by decide, by decide, ?_⟩
  · rcases List.mem_append.1 hs with hs | hs
    · exact h.full s hs
    · rw [List.mem_singleton] at hs
      subst hs
      exact ⟨Nat.pos_of_ne_zero hz, rfl⟩
  · rw [totG_app, totG_one]
    have := h.tot
    have e : (sg0.1.size : Int) = 0 := rfl
    rw [e]
    simp only
    omega
theorem ext_size (d : ByteArray) (q : Int) (h0 : 0 ≤ q) (h1 : q ≤ (d.size : Int)) : ((d.extract 0 q.toNat).size : Int) = q := by
  simp [ByteArray.size_extract]; omega
theorem Stq.shorten {p : List Sg} {y : Sg} {c : Int} (h : Stq p y c) (q : Int) (h0 : 0 ≤ q) (h1 : q ≤ (y.1.size : Int)) : Stq p (y.1.extract 0 q.toNat, q) c := by
  have e := ext_size y.1 q h0 h1
  exact ⟨h.c0, h.c1, h.len, h.full, h0, by rw [e]; exact Int.le_refl _, by have := h.tot; rw [e]; omega⟩
theorem Stq.back {p : List Sg} {x y : Sg} {c : Int} (h : Stq (p ++ [x]) y c) : Stq p x c := by
  have hx := h.full x (by simp)
  have hl := h.len
  have ht := h.tot
  rw [totG_app, totG_one] at ht
  rw [List.length_append, List.length_singleton] at hl
  exact ⟨h.c0, h.c1, by omega, fun s hs => h.full s (by simp [hs]), by rw [hx.2]; omega, by rw [hx.2]; exact Int.le_refl _, by omega⟩
theorem appR_ok {l : List Sg} {c : Int} {b : ByteArray} (h : (appR l c b).2 = 0) : ∃ p y, l = p ++ [y] ∧ Stq p y c ∧ appR l c b = (some (p ++ [(y.1 ++ b, y.2)]), 0) ∧ Stq p (y.1 ++ b, y.2) c := by
  unfold appR at h ⊢
  cases hq : storeQ l c with
  | false => rw [hq] at h; simp at h
  | true =>
    rw [hq, if_pos rfl] at h
    obtain ⟨p, y, rfl, hs⟩ := storeQ_snoc hq
    by_cases hf : c - (totG (p ++ [y]) : Int) < (b.size : Int)
    · rw [if_pos hf] at h; simp at h
    · refine ⟨p, y, rfl, hs, ?_, hs.app b hf⟩
      rw [if_pos rfl, if_neg hf]
      unfold appL
      rw [lastG_snoc, putLast_snoc]
theorem appR_no {l : List Sg} {c : Int} {b : ByteArray} (h : ¬ (appR l c b).2 = 0) : (appR l c b).1 = none := by
  unfold appR at h ⊢
  split
  · rename_i hq
    rw [if_pos hq] at h
    split
    · rfl
    · rename_i hf; rw [if_neg hf] at h; simp at h
  · rfl
theorem rollR_ok {l : List Sg} {c : Int} (h : (rollR l c).2 = 0) : ∃ p y, l = p ++ [y] ∧ Stq p y c ∧ rollR l c = (some (p ++ [(y.1, (y.1.size : Int))] ++ [sg0]), 0) ∧ Stq (p ++ [(y.1, (y.1.size : Int))]) sg0 c := by
  unfold rollR at h ⊢
  cases hq : storeQ l c with
  | false => rw [hq] at h; simp at h
  | true =>
    rw [hq, if_pos rfl] at h
    obtain ⟨p, y, rfl, hs⟩ := storeQ_snoc hq
    rw [lastG_snoc] at h ⊢
    by_cases hz : y.1.size = 0
    · rw [if_pos hz] at h; simp at h
    · rw [if_neg hz] at h
      by_cases h4 : (p ++ [y]).length = 40
      · rw [if_pos h4] at h; simp at h
      · refine ⟨p, y, rfl, hs, ?_, hs.roll hz h4⟩
        rw [if_pos rfl, if_neg hz, if_neg h4]
        unfold rollL syncL
        rw [lastG_snoc, putLast_snoc]
theorem rollR_no {l : List Sg} {c : Int} (h : ¬ (rollR l c).2 = 0) : (rollR l c).1 = none := by
  unfold rollR at h ⊢
  split
  · rename_i hq
    rw [if_pos hq] at h
    split
    · rfl
    · rename_i hz
      rw [if_neg hz] at h
      split
      · rfl
      · rename_i h4; rw [if_neg h4] at h; simp at h
  · rfl
theorem cutR_no {l : List Sg} {c m : Int} (h : ¬ (cutR l c m).2 = 0) : (cutR l c m).1 = none := by
  unfold cutR at h ⊢
  split
  · rename_i hq
    rw [if_pos hq] at h
    split
    · rename_i hm
      rw [if_pos hm] at h
      split
      · rename_i hz; rw [if_pos hz] at h; simp at h
      · rename_i hz; rw [if_neg hz] at h; simp at h
    · rfl
  · rfl
/-- What is cut: the last segment is shortened, or it is empty now and gone. -/
theorem cutR_ok {l : List Sg} {c m : Int} (h : (cutR l c m).2 = 0) : ∃ p y, l = p ++ [y] ∧ Stq p y c ∧ 0 ≤ m ∧ m ≤ (y.1.size : Int) ∧
    ((cutR l c m = (some (p ++ [(y.1.extract 0 m.toNat, m)]), 0) ∧ Stq p (y.1.extract 0 m.toNat, m) c) ∨
     (m = 0 ∧ ∃ p' x, p = p' ++ [x] ∧ cutR l c m = (some (p' ++ [x]), 0) ∧ Stq p' x c ∧ x.2 = (x.1.size : Int))) := by
  unfold cutR at h ⊢
  cases hq : storeQ l c with
  | false => rw [hq] at h; simp at h
  | true =>
    rw [hq, if_pos rfl] at h
    obtain ⟨p, y, rfl, hs⟩ := storeQ_snoc hq
    rw [lastG_snoc] at h ⊢
    by_cases hm : 0 ≤ m ∧ m ≤ (y.1.size : Int)
    · rw [if_pos hm] at h
      refine ⟨p, y, rfl, hs, hm.1, hm.2, ?_⟩
      by_cases hz : m = 0 ∧ 1 < (p ++ [y]).length
      · right
        refine ⟨hz.1, ?_⟩
        have hp : 1 ≤ p.length := by have := hz.2; simp at this; omega
        obtain ⟨p', x, rfl⟩ := split_last hp
        refine ⟨p', x, rfl, ?_, hs.back, (hs.full x (by simp)).2⟩
        rw [if_pos rfl, if_pos hm, if_pos hz]
        rw [show (p' ++ [x] ++ [y]).length - 1 = (p' ++ [x]).length by simp, List.take_left]
      · left
        rw [if_pos rfl, if_pos hm, if_neg hz]
        unfold cutL
        rw [lastG_snoc, putLast_snoc]
        exact ⟨rfl, hs.shorten m hm.1 hm.2⟩
    · rw [if_neg hm] at h; simp at h
theorem syncL_ok {l : List Sg} {c : Int} (h : storeQ l c = true) : storeQ (syncL l) c = true := by
  obtain ⟨p, y, rfl, hs⟩ := storeQ_snoc h
  unfold syncL
  rw [lastG_snoc, putLast_snoc]
  exact stq_iff.2 hs.sync
theorem appR_some {l : List Sg} {c : Int} {b : ByteArray} (h : (appR l c b).2 = 0) : ∃ L, (appR l c b).1 = some L ∧ storeQ L c = true := by
  obtain ⟨p, y, _, _, e, hs⟩ := appR_ok h
  exact ⟨_, by rw [e], stq_iff.2 hs⟩
theorem rollR_some {l : List Sg} {c : Int} (h : (rollR l c).2 = 0) : ∃ L, (rollR l c).1 = some L ∧ storeQ L c = true := by
  obtain ⟨p, y, _, _, e, hs⟩ := rollR_ok h
  exact ⟨_, by rw [e], stq_iff.2 hs⟩
theorem syncL_snoc (p : List Sg) (y : Sg) : syncL (p ++ [y]) = p ++ [(y.1, (y.1.size : Int))] := by unfold syncL; rw [lastG_snoc, putLast_snoc]
theorem crashL_snoc (p : List Sg) (y : Sg) (keep : Int) : crashL (p ++ [y]) keep = p ++ [(y.1.extract 0 (crashN y keep).toNat, crashN y keep)] := by unfold crashL; rw [lastG_snoc, putLast_snoc]
end Go.Proofs.YtknpolmenfdheaaDoor
