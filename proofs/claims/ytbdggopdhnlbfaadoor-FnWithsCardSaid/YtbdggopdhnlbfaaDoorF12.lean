/-
  Chapter 5: HopNames and EndToEnd, the specification's side.
-/
import Derived.Test.YtbdggopdhnlbfaaDoorF11
import Derived.Laws.OwnMore
namespace Go.Proofs.YtbdggopdhnlbfaaDoor
set_option linter.unusedVariables false
set_option linter.unusedSimpArgs false
open Go.RowKit Go.Maps
theorem inNl_no {M : List ByteArray} {s : ByteArray} (h : ∀ j, j < M.length → eqB (txAt M j) s = false) : inNl M s = false := by
  cases hh : inNl M s with
  | false => rfl
  | true =>
    have := inNl_iff.1 hh
    obtain ⟨j, hj, he⟩ := List.mem_iff_getElem.1 this
    have h1 := h j hj
    rw [txAt_get hj, he, eqB_self] at h1
    cases h1
theorem inNl_yes {M : List ByteArray} {s : ByteArray} {j : Nat} (hj : j < M.length) (h : eqB (txAt M j) s = true) : inNl M s = true := by
  rw [inNl_iff, ← eqB_iff.1 h, txAt_get hj]; exact List.getElem_mem _
/-- What stands in the new list after k of the old one: s has been put in (t) or not. -/
def putTo (M : List ByteArray) (s : ByteArray) (k : Nat) (t : Bool) : List ByteArray := if t = true then insM s (M.take k) else M.take k
def pastK (M : List ByteArray) (s : ByteArray) (k : Nat) (t : Bool) : Prop := (t = true → ∃ x ∈ M.take k, Op.bytesLess s.toList x.toList = true) ∧ (t = false → ∀ x ∈ M.take k, Op.bytesLess s.toList x.toList = false)
theorem take_txt (M : List ByteArray) (k : Nat) (h : k < M.length) : M.take (k + 1) = M.take k ++ [txAt M k] := by rw [List.take_succ_eq_append_getElem h, txAt_get h]
theorem putTo_yes {M : List ByteArray} {s : ByteArray} {k : Nat} (h : k < M.length) (hp : pastK M s k true) : pastK M s (k + 1) true ∧ putTo M s (k + 1) true = putTo M s k true ++ [txAt M k] := by
  refine ⟨⟨fun _ => ?_, fun hh => by cases hh⟩, ?_⟩
  · obtain ⟨x, hx, hl⟩ := hp.1 rfl
    exact ⟨x, by rw [take_txt M k h]; simp [hx], hl⟩
  · unfold putTo
    rw [if_pos rfl, if_pos rfl, take_txt M k h, insM_done _ _ _ (hp.1 rfl)]
theorem putTo_here {M : List ByteArray} {s : ByteArray} {k : Nat} (h : k < M.length) (hp : pastK M s k false) (hl : Op.bytesLess s.toList (txAt M k).toList = true) : pastK M s (k + 1) true ∧ putTo M s (k + 1) true = putTo M s k false ++ [s] ++ [txAt M k] := by
  refine ⟨⟨fun _ => ⟨_, by rw [take_txt M k h]; simp, hl⟩, fun hh => by cases hh⟩, ?_⟩
  unfold putTo
  rw [if_pos rfl, if_neg (by simp), take_txt M k h, insM_past _ _ _ (hp.2 rfl), insM, if_pos hl]; simp
theorem putTo_on {M : List ByteArray} {s : ByteArray} {k : Nat} (h : k < M.length) (hp : pastK M s k false) (hl : Op.bytesLess s.toList (txAt M k).toList = false) : pastK M s (k + 1) false ∧ putTo M s (k + 1) false = putTo M s k false ++ [txAt M k] := by
  refine ⟨⟨fun hh => (by cases hh), fun _ x hx => ?_⟩, ?_⟩
  · rw [take_txt M k h, List.mem_append, List.mem_singleton] at hx
    rcases hx with hx | rfl
    · exact hp.2 rfl x hx
    · exact hl
  · unfold putTo
    rw [if_neg (by simp), if_neg (by simp), take_txt M k h]
theorem putTo_end_yes {M : List ByteArray} {s : ByteArray} : putTo M s M.length true = insM s M := by unfold putTo; rw [if_pos rfl, List.take_length]
theorem putTo_end_no {M : List ByteArray} {s : ByteArray} (hp : pastK M s M.length false) : putTo M s M.length false ++ [s] = insM s M := by
  have h2 := hp.2 rfl
  unfold putTo
  rw [if_neg (by simp)]
  rw [List.take_length] at h2 ⊢
  have := insM_past s M [] h2
  rw [List.append_nil] at this
  rw [this]; rfl
theorem putTo_len (M : List ByteArray) (s : ByteArray) (k : Nat) (t : Bool) : (putTo M s k t).length ≤ M.length + 1 := by
  unfold putTo
  split
  · rw [insM_len, List.length_take]; omega
  · rw [List.length_take]; omega
/-- The seven in a row of the call's own. -/
theorem base7_buf (w : World) : BufS w (w.alloc (.cells #[.string ⟨#[99, 111, 110, 110, 101, 99, 116, 105, 111, 110]⟩, .string ⟨#[107, 101, 101, 112, 45, 97, 108, 105, 118, 101]⟩, .string ⟨#[112, 114, 111, 120, 121, 45, 99, 111, 110, 110, 101, 99, 116, 105, 111, 110]⟩, .string ⟨#[116, 101]⟩, .string ⟨#[116, 114, 97, 105, 108, 101, 114]⟩, .string ⟨#[116, 114, 97, 110, 115, 102, 101, 114, 45, 101, 110, 99, 111, 100, 105, 110, 103]⟩, .string ⟨#[117, 112, 103, 114, 97, 100, 101]⟩] 9)) (.slice (some ⟨w.heap.size, 0, none⟩) 7 7) base7 := by
  refine ⟨(Below.refl _ w).alloc (Nat.le_refl _) _, rfl, .inr ⟨w.heap.size, 7, _, rfl, Nat.le_refl _, heap_alloc_new w _, Nat.le_refl _, by decide, rfl, rfl⟩⟩
theorem own_block {w : World} {base : Nat} {e : TypeId} {size : Nat} {v : Value} {n : Nat} {xs : List Value} (h : w.ownsRow base e size v n xs) {g : Nat} (hg : v.ownBlock = some g) : ∃ cur, w.heap[g]? = some (.cells cur e (0, 0)) := by
  rcases h.2 with ⟨h1, _⟩ | ⟨g', cap, cur, h1, _, hh, _⟩
  · rw [h1] at hg; cases hg
  · rw [h1] at hg
    injection hg with hg
    subst hg
    exact ⟨cur, hh⟩
/-- A row of texts stays where a row of fields is put behind. -/
theorem BufS.past {w0 W W' : World} {vt vf : Value} {N : List ByteArray} {L : List Fd} (h : BufS w0 W vt N) (k : BufF w0 W vf L) (hg : W.grownBy W' vf.ownBlock) (hb : Below w0.heap.size w0 W') : BufS w0 W' vt N := by
  refine ⟨hb, h.own.kept hg ?_⟩
  cases hv : vt.ownBlock with
  | none => exact .inl rfl
  | some g =>
    refine .inr fun e => ?_
    obtain ⟨c1, h1⟩ := own_block h.own hv
    obtain ⟨c2, h2⟩ := own_block k.own e.symm
    rw [h1] at h2
    injection h2 with h2
    injection h2 with _ h2
    exact absurd h2 (by decide)
theorem e2eL_hop {l : List Fd} (h : fieldsQ l = true) : e2eL l = elseL l (hopL l) := by unfold e2eL; rw [if_pos h]
theorem hopL_pos {l : List Fd} (h : fieldsQ l = true) : 0 < (hopL l).length := by unfold hopL; rw [if_pos h]; exact hopTo_pos _
theorem hopL_nil {l : List Fd} (h : fieldsQ l = false) : hopL l = [] := by unfold hopL; rw [h]; rfl
end Go.Proofs.YtbdggopdhnlbfaaDoor
