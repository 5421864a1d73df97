/-
  Chapter 5: rows of fields of the call's own; counts by name in a map. The program's side of Without.
-/
import Derived.Test.YtaelopjalfapgabDoorF4
import Derived.Test.YtaelopjalfapgabDoorFK
import Derived.Test.YtaelopjalfapgabDoorFT
import Derived.Maps.OwnOps
import Derived.Maps.OwnSet
namespace Go.Proofs.YtaelopjalfapgabDoor
set_option linter.unusedVariables false
set_option linter.unusedSimpArgs false
open Go.RowKit Go.Maps
/-- The cells of a row of fields. -/
def cellsF (l : List Fd) : List Value := l.flatMap fun s => [.string s.1, .string s.2]
theorem cellsF_app (a b : List Fd) : cellsF (a ++ b) = cellsF a ++ cellsF b := by simp [cellsF]
theorem cellsF_cons (s : Fd) (l : List Fd) : cellsF (s :: l) = .string s.1 :: .string s.2 :: cellsF l := rfl
theorem cellsF_len (l : List Fd) : (cellsF l).length = l.length * 2 := by
  induction l with
  | nil => rfl
  | cons s l ih => rw [cellsF_cons, List.length_cons, List.length_cons, ih, List.length_cons]; omega
theorem cellsF_at (l : List Fd) : ∀ j, j < l.length → (cellsF l)[j * 2]? = some (.string (fdAt l j).1) ∧ (cellsF l)[j * 2 + 1]? = some (.string (fdAt l j).2) := by
  induction l with
  | nil => intro j h; simp at h
  | cons s l ih =>
    intro j h
    cases j with
    | zero => rw [cellsF_cons]; exact ⟨rfl, rfl⟩
    | succ j =>
      rw [cellsF_cons, show fdAt (s :: l) (j + 1) = fdAt l j from rfl, show (j + 1) * 2 = j * 2 + 1 + 1 by omega]
      exact ih j (by simpa using h)
theorem cellsF_one (l : List Fd) : ∀ u ∈ cellsF l, u.oneCell' = true := by
  intro u hu
  simp only [cellsF, List.mem_flatMap] at hu
  obtain ⟨s, _, hs⟩ := hu
  simp at hs
  rcases hs with rfl | rfl <;> rfl
/-- The value v is a slice of the call's own that holds the fields l; nothing that was there in w0 has turned. -/
structure BufF (w0 w : World) (v : Value) (l : List Fd) : Prop where
  below : Below w0.heap.size w0 w
  own : w.ownsRow w0.heap.size 49 2 v l.length (cellsF l)
theorem BufF.start (w : World) : BufF w w (.slice none 0 0) [] := ⟨Below.refl _ _, World.ownsRow_nil _ _ _ _⟩
theorem BufF.alloc {w0 w : World} {v : Value} {l : List Fd} (h : BufF w0 w v l) (o : Obj) : BufF w0 (w.alloc o) v l := ⟨h.below.alloc h.below.size o, h.own.alloc o⟩
theorem BufF.form {w0 w : World} {v : Value} {l : List Fd} (h : BufF w0 w v l) : ∃ (a : Option Addr) (c : Nat), v = .slice a l.length c := by
  rcases h.own.2 with ⟨h1, h2⟩ | ⟨g, cap, cur, h1, _⟩
  · exact ⟨none, 0, by rw [h1, h2]⟩
  · exact ⟨_, _, h1⟩
theorem BufF.later {w0 w w' : World} {v : Value} {l : List Fd} (h : BufF w0 w v l) (hb : Below w.heap.size w w') : BufF w0 w' v l := by
  refine ⟨h.below.trans (hb.mono h.below.size), ?_⟩
  exact h.own.kept (row := none) ⟨hb.os, hb.tape, hb.output, hb.size, fun k hk _ => hb.block k hk⟩ (by
    cases hv : v.ownBlock with
    | none => exact Or.inl rfl
    | some g => exact Or.inr (by intro e; cases e))
/-- Its memory is none of an elder world's. -/
theorem BufF.base {w0 w1 w : World} {v : Value} {l : List Fd} (h : BufF w0 w v l) (hb : Below w1.heap.size w1 w0) : BufF w1 w v l := by
  refine ⟨below_then hb h.below, h.own.1, ?_⟩
  rcases h.own.2 with h2 | ⟨g, cap, cur, h1, hg, r⟩
  · exact .inl h2
  · exact .inr ⟨g, cap, cur, h1, Nat.le_trans hb.size hg, r⟩
/-- What is handed back: a slice of fields, its memory new. -/
def AnsF (w0 w' : World) (s : Value) (L : List Fd) : Prop := SlF w' s L ∧ (∀ g, s.ownBlock = some g → w0.heap.size ≤ g) ∧ Below w0.heap.size w0 w'
theorem BufF.ans {w0 w : World} {v : Value} {l : List Fd} (h : BufF w0 w v l) : AnsF w0 w v l := by
  have ho := h.own
  rcases h.own.2 with ⟨h1, h2⟩ | ⟨g, cap, cur, h1, hg, hh, _⟩
  · refine ⟨.inl ⟨h1, List.eq_nil_of_length_eq_zero h2⟩, fun g hg => ?_, h.below⟩
    rw [h1] at hg; cases hg
  · have hlt := (h.own.lt g (by rw [h1]; rfl)).2
    rw [h1] at ho
    refine ⟨.inr ⟨g, cap, h1, ⟨fun j hj => ?_, fun j hj => ?_, fun j => ho.frozenAt j, hlt⟩⟩, fun g' hg' => ?_, h.below⟩
    · rw [ho.cellAt (j * 2) (by omega)]; exact (cellsF_at l j hj).1
    · rw [ho.cellAt (j * 2 + 1) (by omega)]; exact (cellsF_at l j hj).2
    · rw [h1] at hg'
      injection hg' with hg'
      subst hg'; exact hg
theorem wp_fapp {ops : Array Oper} {rest : List Oper} {o : Oper} {a : Act} {Q : Exit → Act → World → Prop} {w0 W : World} (hgd : o.guard = none) (s x : Operand)
    (ho : o.op = .call { callee := .builtin .append, args := #[s, x], argTypes := #[27, 27] }) (v : Value) (l : List Fd) (hs : a.eval s = v) (hbuf : BufF w0 W v l)
    (d t : ByteArray) (hx : a.eval x = .slice (some ⟨W.heap.size, 0, none⟩) 1 1) (hlen : l.length ≤ 1048576)
    (h : ∀ v' W', BufF w0 W' v' (l ++ [(d, t)]) → W.grownBy W' v.ownBlock → wpList Tryd.prog ops Q rest (a.put o.dst v') W') :
    wpList Tryd.prog ops Q (o :: rest) a (W.alloc (.cells #[.string d, .string t] 49)) := by
  obtain ⟨i0, hi, hz0, hz1, hz2⟩ := info_parts Tryd.infoF
  refine wpList_append_own _ hgd s x 27 ho w0.heap.size 49 i0 _ 2 32 Tryd.underlying27 hi hz0 hz1 hz2 rfl (by decide) v l.length (cellsF l) hs (hbuf.own.alloc _) ⟨W.heap.size, 0, none⟩ 1 1 (cellsF [(d, t)]) hx (by rw [cellsF_len]; rfl) ?_ (cellsF_one _) (by unfold maxLen; omega) (by omega) (by have := hbuf.below.size; simp; omega) ?_
  · intro j u hu
    have hj : j < 2 := by have := (List.getElem?_eq_some_iff.1 hu).1; rwa [cellsF_len] at this
    rw [Addr.add_lit, Nat.zero_add, (Blk.new W _ _).cell j, ← hu]
    rcases j with _ | _ | j
    · rfl
    · rfl
    · omega
  intro v' W' hown hgrow _
  refine h v' W' ⟨?_, ?_⟩ ((World.grownBy_alloc W _ _).trans hgrow)
  · refine (hbuf.alloc _).below.grown hgrow (by have := hbuf.below.size; simp; omega) ?_
    intro k hk
    exact (hbuf.own.lt k hk).1
  · rw [List.length_append, List.length_singleton, cellsF_app]
    exact hown
/-- A block that is a map is none of a row. -/
theorem own_ne_map {w : World} {base : Nat} {e : TypeId} {size : Nat} {v : Value} {n : Nat} {xs : List Value} (h : w.ownsRow base e size v n xs) {b : Nat} {es : Array MapEntry} {c : Nat} (hb : w.heap[b]? = some (.map es c)) : some b ≠ v.ownBlock := by
  intro hh
  rcases h.2 with ⟨h1, _⟩ | ⟨g, cap, cur, h1, _, hg, _⟩
  · rw [h1] at hh; cases hh
  · rw [h1] at hh
    injection hh with hh
    subst hh
    rw [hb] at hg
    cases hg
theorem below_gb {w w' : World} (h : Below w.heap.size w w') (r : Option Nat) : w.grownBy w' r := ⟨h.os, h.tape, h.output, h.size, fun k hk _ => h.block k hk⟩
/-- Is it the folded name of one of them? -/
def hasNm (l : List Fd) (s : List UInt8) : Bool := l.any fun x => s == (foldB x.1).data.toList
theorem hasNm_next (l : List Fd) (k : Nat) (h : k < l.length) (s : List UInt8) : hasNm (l.take (k + 1)) s = (hasNm (l.take k) s || s == (foldB (fdAt l k).1).data.toList) := by
  unfold hasNm
  rw [takeF_next l k h, List.any_append]; simp
theorem hasNm_mem {l : List Fd} {x : Fd} (h : x ∈ l) : hasNm l (foldB x.1).data.toList = true := by
  unfold hasNm
  rw [List.any_eq_true]
  exact ⟨x, h, by simp⟩
end Go.Proofs.YtaelopjalfapgabDoor
