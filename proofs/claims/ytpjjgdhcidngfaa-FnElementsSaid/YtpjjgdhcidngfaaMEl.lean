/-
  Plain functions of chapter 1: words among commas and gaps. No Go in sight.
-/
import Derived.Test.YtpjjgdhcidngfaaME
import Derived.Lib.SmallJoins
namespace Go.Proofs.Ytpjjgdhcidngfaa
set_option linter.unusedVariables false
set_option linter.unusedSimpArgs false
open Go.RowKit
def gapsL (l : List UInt8) : Prop := ∀ x ∈ l, gap8 x = true
theorem keep_gaps {l : List UInt8} (h : gapsL l) : keepP l = [] := by
  have ht : trimL l = [] := by
    have := trimL_of l [] [] h (fun x hx => by cases hx) (Or.inl rfl)
    simpa using this
  unfold keepP; rw [if_pos ht]
theorem elG_plain : ∀ (l cur r : List UInt8), (∀ b ∈ l, b ≠ 44 ∧ b ≠ 34) → elG 0 cur (l ++ r) = elG 0 (cur ++ l) r
  | [], cur, r, _ => by simp
  | b :: l, cur, r, h => by
    have hb := h b List.mem_cons_self
    rw [List.cons_append, elG, if_neg hb.1, if_neg hb.2, elG_plain l _ r fun x hx => h x (List.mem_cons_of_mem _ hx)]
    simp
theorem elG_comma (cur r : List UInt8) : elG 0 cur (44 :: r) = cur :: elG 0 [] r := by rw [elG, if_pos rfl]
theorem elG_gap (cur r : List UInt8) : elG 0 cur (32 :: r) = elG 0 (cur ++ [32]) r := by rw [elG, if_neg (by decide), if_neg (by decide)]
theorem elG_tab (cur r : List UInt8) : elG 0 cur (9 :: r) = elG 0 (cur ++ [9]) r := by rw [elG, if_neg (by decide), if_neg (by decide)]
theorem cleanP_cons (p : List UInt8) (P : List (List UInt8)) : cleanP (p :: P) = keepP p ++ cleanP P := by simp [cleanP]
theorem gapsL_nil : gapsL [] := fun x hx => by cases hx
theorem gapsL_snoc {l : List UInt8} (h : gapsL l) : gapsL (l ++ [32]) := by
  intro x hx
  rcases List.mem_append.1 hx with h1 | h1
  · exact h x h1
  · simp at h1; subst h1; decide
def preB : Nat → ByteArray
  | 0 => ⟨#[]⟩
  | 1 => ⟨#[32]⟩
  | 2 => ⟨#[44]⟩
  | _ => ⟨#[44, 32, 9, 44]⟩
def sufB : Nat → ByteArray
  | 0 => ⟨#[44]⟩
  | 1 => ⟨#[32, 44]⟩
  | 2 => ⟨#[44, 44]⟩
  | _ => ⟨#[44, 32]⟩
theorem preB_at {q : Nat} (h : q < 4) : (#[Value.string ⟨#[]⟩, .string ⟨#[32]⟩, .string ⟨#[44]⟩, .string ⟨#[44, 32, 9, 44]⟩] : Array Value)[q]? = some (.string (preB q)) := by
  match q, h with
  | 0, _ => rfl
  | 1, _ => rfl
  | 2, _ => rfl
  | 3, _ => rfl
theorem sufB_at {q : Nat} (h : q < 4) : (#[Value.string ⟨#[44]⟩, .string ⟨#[32, 44]⟩, .string ⟨#[44, 44]⟩, .string ⟨#[44, 32]⟩] : Array Value)[q]? = some (.string (sufB q)) := by
  match q, h with
  | 0, _ => rfl
  | 1, _ => rfl
  | 2, _ => rfl
  | 3, _ => rfl
theorem preB_get {q : Nat} (h : q < 4) (h' : q < ([Value.string ⟨#[]⟩, .string ⟨#[32]⟩, .string ⟨#[44]⟩, .string ⟨#[44, 32, 9, 44]⟩] : List Value).length) : ([Value.string ⟨#[]⟩, .string ⟨#[32]⟩, .string ⟨#[44]⟩, .string ⟨#[44, 32, 9, 44]⟩] : List Value)[q]'h' = .string (preB q) := by
  match q, h with
  | 0, _ => rfl
  | 1, _ => rfl
  | 2, _ => rfl
  | 3, _ => rfl
theorem sufB_get {q : Nat} (h : q < 4) (h' : q < ([Value.string ⟨#[44]⟩, .string ⟨#[32, 44]⟩, .string ⟨#[44, 44]⟩, .string ⟨#[44, 32]⟩] : List Value).length) : ([Value.string ⟨#[44]⟩, .string ⟨#[32, 44]⟩, .string ⟨#[44, 44]⟩, .string ⟨#[44, 32]⟩] : List Value)[q]'h' = .string (sufB q) := by
  match q, h with
  | 0, _ => rfl
  | 1, _ => rfl
  | 2, _ => rfl
  | 3, _ => rfl
theorem preB_size (q : Nat) : (preB q).size ≤ 4 := by
  match q with
  | 0 => decide
  | 1 => decide
  | 2 => decide
  | n + 3 => show (ByteArray.mk #[44, 32, 9, 44]).size ≤ 4; decide
theorem sufB_size (q : Nat) : (sufB q).size ≤ 2 := by
  match q with
  | 0 => decide
  | 1 => decide
  | 2 => decide
  | n + 3 => show (ByteArray.mk #[44, 32]).size ≤ 2; decide
theorem pre_step {cur : List UInt8} (hg : gapsL cur) (q : Nat) (hq : q < 4) : ∃ cur', gapsL cur' ∧ ∀ r, cleanP (elG 0 cur ((preB q).data.toList ++ r)) = cleanP (elG 0 cur' r) := by
  match q, hq with
  | 0, _ => exact ⟨cur, hg, fun r => rfl⟩
  | 1, _ => exact ⟨cur ++ [32], gapsL_snoc hg, fun r => by show cleanP (elG 0 cur (32 :: r)) = _; rw [elG_gap]⟩
  | 2, _ => exact ⟨[], gapsL_nil, fun r => by show cleanP (elG 0 cur (44 :: r)) = _; rw [elG_comma, cleanP_cons, keep_gaps hg, List.nil_append]⟩
  | 3, _ => exact ⟨[], gapsL_nil, fun r => by
      show cleanP (elG 0 cur (44 :: 32 :: 9 :: 44 :: r)) = _
      rw [elG_comma, cleanP_cons, keep_gaps hg, List.nil_append, elG_gap, elG_tab, elG_comma, cleanP_cons, keep_gaps (by intro x hx; simp at hx; rcases hx with rfl | rfl <;> decide), List.nil_append]⟩
/-- A word: no gap at its ends, no comma and no quote in it. -/
structure Word (x : List UInt8) : Prop where
  plain : ∀ b ∈ x, b ≠ 44 ∧ b ≠ 34
  ends : ∃ (a z : UInt8) (r q : List UInt8), x = a :: r ∧ x = q ++ [z] ∧ gap8 a = false ∧ gap8 z = false
theorem keep_word {cur x g : List UInt8} (h1 : gapsL cur) (hx : Word x) (h2 : gapsL g) : keepP (cur ++ x ++ g) = [⟨x.toArray⟩] := by
  have ht := trimL_of cur x g h1 h2 (Or.inr hx.ends)
  obtain ⟨a, _, r, _, he, _⟩ := hx.ends
  unfold keepP
  rw [ht, if_neg (by rw [he]; simp)]
theorem suf_step {cur x : List UInt8} (hg : gapsL cur) (hx : Word x) (q : Nat) (hq : q < 4) : ∃ cur', gapsL cur' ∧ ∀ r, cleanP (elG 0 (cur ++ x) ((sufB q).data.toList ++ r)) = [⟨x.toArray⟩] ++ cleanP (elG 0 cur' r) := by
  have k0 : keepP (cur ++ x) = [⟨x.toArray⟩] := by simpa using keep_word hg hx gapsL_nil
  have k1 : keepP (cur ++ x ++ [32]) = [⟨x.toArray⟩] := keep_word hg hx (by intro b hb; simp at hb; subst hb; decide)
  match q, hq with
  | 0, _ => exact ⟨[], gapsL_nil, fun r => by show cleanP (elG 0 (cur ++ x) (44 :: r)) = _; rw [elG_comma, cleanP_cons, k0]⟩
  | 1, _ => exact ⟨[], gapsL_nil, fun r => by show cleanP (elG 0 (cur ++ x) (32 :: 44 :: r)) = _; rw [elG_gap, elG_comma, cleanP_cons, k1]⟩
  | 2, _ => exact ⟨[], gapsL_nil, fun r => by show cleanP (elG 0 (cur ++ x) (44 :: 44 :: r)) = _; rw [elG_comma, elG_comma, cleanP_cons, cleanP_cons, k0, keep_gaps gapsL_nil, List.nil_append]⟩
  | 3, _ => exact ⟨[32], by intro b hb; simp at hb; subst hb; decide, fun r => by show cleanP (elG 0 (cur ++ x) (44 :: 32 :: r)) = _; rw [elG_comma, cleanP_cons, k0, elG_gap, List.nil_append]⟩
/-- What is told of a text when more will follow. -/
def ES (s : List UInt8) (L : List ByteArray) : Prop := ∃ cur, gapsL cur ∧ ∀ rest, cleanP (elG 0 [] (s ++ rest)) = L ++ cleanP (elG 0 cur rest)
theorem es_start : ES [] [] := ⟨[], gapsL_nil, fun _ => rfl⟩
theorem es_step {s x : ByteArray} {L : List ByteArray} (h : ES s.data.toList L) (hx : Word x.data.toList) {q1 q2 : Nat} (h1 : q1 < 4) (h2 : q2 < 4) : ES (s ++ preB q1 ++ x ++ sufB q2).data.toList (L ++ [x]) := by
  obtain ⟨cur, hg, hr⟩ := h
  obtain ⟨c1, hg1, hr1⟩ := pre_step hg q1 h1
  obtain ⟨c2, hg2, hr2⟩ := suf_step hg1 hx q2 h2
  refine ⟨c2, hg2, fun rest => ?_⟩
  rw [Go.Joins.data_append, Go.Joins.data_append, Go.Joins.data_append, List.append_assoc, List.append_assoc, List.append_assoc, hr, hr1, elG_plain _ _ _ hx.plain, hr2, List.append_assoc]
theorem es_end {s : ByteArray} {L : List ByteArray} (h : ES s.data.toList L) (hs : s.size ≤ 4000) : elsB s = L := by
  obtain ⟨cur, hg, hr⟩ := h
  have := hr []
  rw [List.append_nil, elG_nil, cleanP_cons, keep_gaps hg] at this
  rw [els_small hs, this]
  simp [cleanP]
theorem word_fin : ∀ (a : Fin 26) (d : Fin 10), ((UInt8.ofNat (97 + a.val) ≠ 44 ∧ UInt8.ofNat (97 + a.val) ≠ 34) ∧ (UInt8.ofNat (48 + d.val) ≠ 44 ∧ UInt8.ofNat (48 + d.val) ≠ 34)) ∧ gap8 (UInt8.ofNat (97 + a.val)) = false ∧ gap8 (UInt8.ofNat (48 + d.val)) = false := by decide +kernel
theorem word_of (z : Nat) : Word (ByteArray.mk #[UInt8.ofNat (97 + z % 26), UInt8.ofNat (48 + z % 10)]).data.toList := by
  obtain ⟨⟨h1, h2⟩, h3, h4⟩ := word_fin ⟨z % 26, by omega⟩ ⟨z % 10, by omega⟩
  refine ⟨?_, ⟨UInt8.ofNat (97 + z % 26), UInt8.ofNat (48 + z % 10), [UInt8.ofNat (48 + z % 10)], [UInt8.ofNat (97 + z % 26)], rfl, rfl, h3, h4⟩⟩
  · intro b hb
    simp only [List.mem_cons, List.not_mem_nil, or_false] at hb
    rcases hb with rfl | rfl
    · exact h1
    · exact h2
end Go.Proofs.Ytpjjgdhcidngfaa
