/-
  Plain functions of chapter 1: the elements of a list. No Go in sight. And: a scope with several labels.
-/
import Derived.Test.YtaelopjalfapgabM2
import Derived.Scope
import Derived.ScopeJumps
namespace Go.Proofs.Ytaelopjalfapgab
set_option linter.unusedVariables false
set_option linter.unusedSimpArgs false
open Go.RowKit

/-- The pieces of a list, cut at commas outside quotes: state 0 outside, 1 inside, 2 behind a backslash inside. -/
def elG : Nat → List UInt8 → List UInt8 → List (List UInt8)
  | _, cur, [] => [cur]
  | 0, cur, b :: r => if b = 44 then cur :: elG 0 [] r else elG (if b = 34 then 1 else 0) (cur ++ [b]) r
  | 1, cur, b :: r => elG (if b = 34 then 0 else if b = 92 then 2 else 1) (cur ++ [b]) r
  | _, cur, b :: r => elG 1 (cur ++ [b]) r
def keepP (p : List UInt8) : List ByteArray := if trimL p = [] then [] else [⟨(trimL p).toArray⟩]
def cleanP (ps : List (List UInt8)) : List ByteArray := ps.flatMap keepP
def elsB (s : ByteArray) : List ByteArray := if s.size ≤ 4000 then cleanP (elG 0 [] s.data.toList) else []

theorem elG_nil (q : Nat) (cur : List UInt8) : elG q cur [] = [cur] := by
  match q with
  | 0 => rfl
  | 1 => rfl
  | n + 2 => rfl
def ERel (L : List UInt8) (q fr k : Nat) (P : List (List UInt8)) : Prop := fr ≤ k ∧ k ≤ L.length ∧ elG 0 [] L = P ++ elG q ((L.take k).drop fr) (L.drop k)
theorem erel_start (L : List UInt8) : ERel L 0 0 0 [] := ⟨Nat.le_refl _, Nat.zero_le _, by simp⟩
theorem dropAt (L : List UInt8) (p : Nat) (h : p < L.length) : L.drop p = L.getD p 0 :: L.drop (p + 1) := by
  rw [List.drop_eq_getElem_cons h]
  simp [List.getD, List.getElem?_eq_getElem h]
theorem takeAt (L : List UInt8) (fr k : Nat) (hf : fr ≤ k) (h : k < L.length) : (L.take (k + 1)).drop fr = (L.take k).drop fr ++ [L.getD k 0] := by
  rw [List.take_succ_eq_append_getElem h, List.drop_append_of_le_length (by simp; omega)]
  simp [List.getD, List.getElem?_eq_getElem h]
theorem erel_end {L : List UInt8} {q fr : Nat} {P : List (List UInt8)} (h : ERel L q fr L.length P) : elG 0 [] L = P ++ [L.drop fr] := by
  rw [h.2.2, List.drop_eq_nil_of_le (Nat.le_refl _), elG_nil, List.take_of_length_le (Nat.le_refl _)]
theorem erel_comma {L : List UInt8} {fr k : Nat} {P : List (List UInt8)} (h : ERel L 0 fr k P) (hk : k < L.length) (hb : L.getD k 0 = 44) : ERel L 0 (k + 1) (k + 1) (P ++ [(L.take k).drop fr]) := by
  refine ⟨Nat.le_refl _, hk, ?_⟩
  rw [h.2.2, dropAt L k hk, elG, if_pos hb]
  have : (L.take (k + 1)).drop (k + 1) = [] := List.drop_eq_nil_of_le (by simp; omega)
  rw [this]; simp
theorem erel_out {L : List UInt8} {fr k : Nat} {P : List (List UInt8)} (h : ERel L 0 fr k P) (hk : k < L.length) (hb : L.getD k 0 ≠ 44) : ERel L (if L.getD k 0 = 34 then 1 else 0) fr (k + 1) P := by
  refine ⟨by have := h.1; omega, hk, ?_⟩
  rw [h.2.2, dropAt L k hk, elG, if_neg hb, takeAt L fr k h.1 hk]
theorem erel_in {L : List UInt8} {fr k : Nat} {P : List (List UInt8)} (h : ERel L 1 fr k P) (hk : k < L.length) : ERel L (if L.getD k 0 = 34 then 0 else if L.getD k 0 = 92 then 2 else 1) fr (k + 1) P := by
  refine ⟨by have := h.1; omega, hk, ?_⟩
  rw [h.2.2, dropAt L k hk, elG, takeAt L fr k h.1 hk]
theorem erel_behind {L : List UInt8} {fr k : Nat} {P : List (List UInt8)} (h : ERel L 2 fr k P) (hk : k < L.length) : ERel L 1 fr (k + 1) P := by
  refine ⟨by have := h.1; omega, hk, ?_⟩
  rw [h.2.2, dropAt L k hk, elG, takeAt L fr k h.1 hk]
  · intro hh; cases hh
  · intro hh; cases hh
theorem erel_behind_end {L : List UInt8} {fr : Nat} {P : List (List UInt8)} (h : ERel L 2 fr L.length P) : ERel L 1 fr L.length P := by
  refine ⟨h.1, h.2.1, ?_⟩
  rw [h.2.2, List.drop_eq_nil_of_le (Nat.le_refl _), elG_nil, elG_nil]
theorem cleanP_snoc (P : List (List UInt8)) (p : List UInt8) : cleanP (P ++ [p]) = cleanP P ++ keepP p := by simp [cleanP]
theorem keepP_len (p : List UInt8) : (keepP p).length ≤ 1 := by unfold keepP; split <;> simp
theorem els_big {s : ByteArray} (h : 4000 < s.size) : elsB s = [] := by unfold elsB; rw [if_neg (by omega)]
theorem els_small {s : ByteArray} (h : s.size ≤ 4000) : elsB s = cleanP (elG 0 [] s.data.toList) := by unfold elsB; rw [if_pos h]
/-- How many pieces there can be. -/
theorem cleanP_len (P : List (List UInt8)) : (cleanP P).length ≤ P.length := by
  induction P with
  | nil => simp [cleanP]
  | cons p P ih =>
    have e : cleanP (p :: P) = keepP p ++ cleanP P := by simp [cleanP]
    rw [e, List.length_append, List.length_cons]
    have := keepP_len p
    omega

/-! A scope in which the run jumps to one of several labels. -/
/-- As Q; by a goto to label l: J l. -/
def jumpsTo (J : Nat → Act → World → Prop) (Q : Exit → Act → World → Prop) : Exit → Act → World → Prop
  | .goto l, a, w => J l a w
  | e, a, w => Q e a w
theorem wp_labels {P : Program} {a : Act} {w : World} {Q : Exit → Act → World → Prop} {c : Code} (rest : Nat → Code) (J : Nat → Act → World → Prop) (μ : Nat → Act → World → Nat)
    (hf : ∀ l a w, J l a w → findLabel c l = some (rest l)) (first : c.wp P (jumpsTo J Q) a w)
    (pass : ∀ l a w, J l a w → (rest l).wp P (jumpsTo (fun l' a' w' => J l' a' w' ∧ μ l' a' w' < μ l a w) Q) a w) : (Code.scope c).wp P Q a w := by
  intro b k cs
  have key : ∀ n l a w, μ l a w = n → J l a w → ∃ e a' w', Q e a' w' ∧ Arrives P (lone (b.at a (.code (rest l) :: .inScope c :: k)) cs w) b k cs e a' w' := by
    intro n
    induction n using Nat.strongRecOn with
    | _ n ih =>
      intro l a w hn hJ
      obtain ⟨e, a₁, w₁, hq, harr⟩ := pass l a w hJ b (.inScope c :: k) cs
      cases e with
      | normal => exact ⟨.normal, a₁, w₁, hq, Steps.trans harr (.one step_inScope)⟩
      | exit id => exact ⟨.exit id, a₁, w₁, hq, fun k' hk => harr k' (by simp [exitTo, hk])⟩
      | goto l' =>
        obtain ⟨hJ', hlt⟩ := hq
        have hg : gotoIn l' (.inScope c :: k) = some (.code (rest l') :: .inScope c :: k) := by simp [gotoIn, hf l' a₁ w₁ hJ']
        obtain ⟨e₂, a₂, w₂, hq₂, harr₂⟩ := ih _ (by omega) l' a₁ w₁ rfl hJ'
        exact ⟨e₂, a₂, w₂, hq₂, .of_steps (harr _ hg) harr₂⟩
      | ret => exact ⟨_, a₁, w₁, hq, harr⟩
      | panic ch => exact ⟨_, a₁, w₁, hq, harr⟩
      | outgrown => exact ⟨_, a₁, w₁, hq, harr⟩
  obtain ⟨e, a₁, w₁, hq, harr⟩ := first b (.inScope c :: k) cs
  cases e with
  | normal => exact ⟨.normal, a₁, w₁, hq, .head step_scope (Steps.trans harr (.one step_inScope))⟩
  | exit id => exact ⟨.exit id, a₁, w₁, hq, fun k' hk => .head step_scope (harr k' (by simp [exitTo, hk]))⟩
  | goto l' =>
    have hJ' : J l' a₁ w₁ := hq
    have hg : gotoIn l' (.inScope c :: k) = some (.code (rest l') :: .inScope c :: k) := by simp [gotoIn, hf l' a₁ w₁ hJ']
    obtain ⟨e₂, a₂, w₂, hq₂, harr₂⟩ := key _ l' a₁ w₁ rfl hJ'
    exact ⟨e₂, a₂, w₂, hq₂, .of_steps (.head step_scope (harr _ hg)) harr₂⟩
  | ret => exact ⟨_, a₁, w₁, hq, .of_steps (.one step_scope) harr⟩
  | panic ch => exact ⟨_, a₁, w₁, hq, .of_steps (.one step_scope) harr⟩
  | outgrown => exact ⟨_, a₁, w₁, hq, .of_steps (.one step_scope) harr⟩
end Go.Proofs.Ytaelopjalfapgab
