/-
  Chapter 8: rows of loose lines in memory; those of the call's own.
-/
import Derived.Test.YtffjpidjhcnnmabDoorBK2
import Derived.Test.YtffjpidjhcnnmabDoorPT
import Derived.OwnWalk
import Derived.Laws.OwnMore
namespace Go.Proofs.YtffjpidjhcnnmabDoor
set_option linter.unusedVariables false
set_option linter.unusedSimpArgs false
open Go.RowKit
/-- A row of loose lines in memory: block b, two cells each. -/
structure RowW (w : World) (b : Nat) (l : List Fd) : Prop where
  dat : ∀ j, j < l.length → w.cell? ⟨b, j * 2, none⟩ = some (.string (fdAt l j).1)
  saf : ∀ j, j < l.length → w.cell? ⟨b, j * 2 + 1, none⟩ = some (.string (fdAt l j).2)
  free : ∀ j, w.frozen? ⟨b, j, none⟩ = false
  lt : b < w.heap.size
theorem RowW.later {w w' : World} {b B : Nat} {l : List Fd} (h : RowW w b l) (k : Below B w w') (hb : b < B) : RowW w' b l :=
  ⟨fun j hj => by rw [k.cell (p := ⟨b, j * 2, none⟩) hb]; exact h.dat j hj, fun j hj => by rw [k.cell (p := ⟨b, j * 2 + 1, none⟩) hb]; exact h.saf j hj, fun j => by rw [k.frozen (p := ⟨b, j, none⟩) hb]; exact h.free j, Nat.lt_of_lt_of_le h.lt k.size⟩
theorem RowW.keep {w w' : World} {b : Nat} {l : List Fd} (h : RowW w b l) (k : Below w.heap.size w w') : RowW w' b l := h.later k h.lt
theorem RowW.oth {w : World} {b g : Nat} {l : List Fd} (h : RowW w b l) (hne : g ≠ b) (k : Nat) (v : Value) : RowW (w.setCell ⟨g, k, none⟩ v) b l :=
  ⟨fun j hj => by rw [World.cell?_setCell_other _ _ _ _ (by intro hh; injection hh with h1 _; exact hne h1)]; exact h.dat j hj,
   fun j hj => by rw [World.cell?_setCell_other _ _ _ _ (by intro hh; injection hh with h1 _; exact hne h1)]; exact h.saf j hj,
   fun j => by rw [World.frozen?_setCell]; exact h.free j, by simpa [World.setCell] using h.lt⟩
def SlW (w : World) (v : Value) (l : List Fd) : Prop := (v = .slice none 0 0 ∧ l = []) ∨ ∃ b c, v = .slice (some ⟨b, 0, none⟩) l.length c ∧ RowW w b l
theorem SlW.keep {w w' : World} {v : Value} {l : List Fd} (h : SlW w v l) (k : Below w.heap.size w w') : SlW w' v l := by
  rcases h with h | ⟨b, c, h1, h2⟩
  · exact .inl h
  · exact .inr ⟨b, c, h1, h2.keep k⟩
theorem SlW.form {w : World} {v : Value} {l : List Fd} (h : SlW w v l) : ∃ (a : Option Addr) (c : Nat), v = .slice a l.length c := by
  rcases h with ⟨h1, h2⟩ | ⟨g, c, h1, _⟩
  · exact ⟨none, 0, by rw [h1, h2]; rfl⟩
  · exact ⟨_, _, h1⟩
theorem Tryd.infoW : (Tryd.prog.info? 56).map (fun i => (i.zero, i.size, i.bytes)) = some (some (.agg #[.string ⟨#[]⟩, .string ⟨#[]⟩]), 2, 32) := by kernel_rfl
/-- The value v is a slice of the call's own, its memory from block B on, that holds the lines l. -/
structure OwW (B : Nat) (w : World) (v : Value) (l : List Fd) : Prop where
  own : w.ownsRow B 56 2 v l.length (cellsF l)
  le : B ≤ w.heap.size
theorem OwW.start {B : Nat} {w : World} (h : B ≤ w.heap.size) : OwW B w (.slice none 0 0) [] := ⟨World.ownsRow_nil _ _ _ _, h⟩
theorem OwW.alloc {B : Nat} {w : World} {v : Value} {l : List Fd} (h : OwW B w v l) (o : Obj) : OwW B (w.alloc o) v l := ⟨h.own.alloc o, by have := h.le; simp; omega⟩
theorem OwW.form {B : Nat} {w : World} {v : Value} {l : List Fd} (h : OwW B w v l) : ∃ (a : Option Addr) (c : Nat), v = .slice a l.length c := by
  rcases h.own.2 with ⟨h1, h2⟩ | ⟨g, cap, cur, h1, _⟩
  · exact ⟨none, 0, by rw [h1, h2]⟩
  · exact ⟨_, _, h1⟩
theorem OwW.later {B : Nat} {w w' : World} {v : Value} {l : List Fd} (h : OwW B w v l) (hb : Below w.heap.size w w') : OwW B w' v l := by
  refine ⟨?_, Nat.le_trans h.le hb.size⟩
  exact h.own.kept (row := none) ⟨hb.os, hb.tape, hb.output, hb.size, fun k hk _ => hb.block k hk⟩ (by
    cases hv : v.ownBlock with
    | none => exact Or.inl rfl
    | some g => exact Or.inr (by intro e; cases e))
theorem OwW.drew {B : Nat} {w : World} {v : Value} {l : List Fd} (h : OwW B w v l) : OwW B w.drew v l := h.later (Below.refl _ w).drew
/-- A store into an elder block. -/
theorem OwW.set {B : Nat} {w : World} {v : Value} {l : List Fd} (h : OwW B w v l) {g : Nat} (hg : g < B) (k : Nat) (x : Value) : OwW B (w.setCell ⟨g, k, none⟩ x) v l :=
  ⟨ownsRow_setCell_below h.own hg x, by simpa [World.setCell] using h.le⟩
theorem OwW.sl {B : Nat} {w : World} {v : Value} {l : List Fd} (h : OwW B w v l) : SlW w v l := by
  have ho := h.own
  rcases h.own.2 with ⟨h1, h2⟩ | ⟨g, cap, cur, h1, hg, hh, _⟩
  · exact .inl ⟨h1, List.eq_nil_of_length_eq_zero h2⟩
  · have hlt := (h.own.lt g (by rw [h1]; rfl)).2
    rw [h1] at ho
    refine .inr ⟨g, cap, h1, ⟨fun j hj => ?_, fun j hj => ?_, fun j => ho.frozenAt j, hlt⟩⟩
    · rw [ho.cellAt (j * 2) (by omega)]; exact (cellsF_at l j hj).1
    · rw [ho.cellAt (j * 2 + 1) (by omega)]; exact (cellsF_at l j hj).2
theorem wp_wapp {ops : Array Oper} {rest : List Oper} {o : Oper} {a : Act} {Q : Exit → Act → World → Prop} {B : Nat} {W : World} (hgd : o.guard = none) (s x : Operand)
    (ho : o.op = .call { callee := .builtin .append, args := #[s, x], argTypes := #[29, 29] }) (v : Value) (l : List Fd) (hs : a.eval s = v) (hbuf : OwW B W v l)
    (d t : ByteArray) (nW : Nat) (hnW : W.heap.size = nW) (hx : a.eval x = .slice (some ⟨nW, 0, none⟩) 1 1) (hlen : l.length ≤ 1048576)
    (h : ∀ v' W', OwW B W' v' (l ++ [(d, t)]) → Below B W W' → (∀ g c t, v.ownBlock ≠ some g → Blk W g c t → Blk W' g c t) → wpList Tryd.prog ops Q rest (a.put o.dst v') W') :
    wpList Tryd.prog ops Q (o :: rest) a (W.alloc (.cells #[.string d, .string t] 56)) := by
  subst hnW
  obtain ⟨i0, hi, hz0, hz1, hz2⟩ := info_parts Tryd.infoW
  refine wpList_append_own _ hgd s x 29 ho B 56 i0 _ 2 32 Tryd.underlying29 hi hz0 hz1 hz2 rfl (by decide) v l.length (cellsF l) hs (hbuf.own.alloc _) ⟨W.heap.size, 0, none⟩ 1 1 (cellsF [(d, t)]) hx (by rw [cellsF_len]; rfl) ?_ (cellsF_one _) (by unfold maxLen; omega) (by omega) (by have := hbuf.le; simp; omega) ?_
  · intro j u hu
    have hj : j < 2 := by have := (List.getElem?_eq_some_iff.1 hu).1; rwa [cellsF_len] at this
    rw [Addr.add_lit, Nat.zero_add, (Blk.new W _ _).cell j, ← hu]
    rcases j with _ | _ | j
    · rfl
    · rfl
    · omega
  intro v' W' hown hgrow _
  have hbl : Below B W W' := by
    refine ((Below.refl B W).alloc hbuf.le _).grown hgrow (by have := hbuf.le; simp; omega) ?_
    intro k hk
    exact (hbuf.own.lt k hk).1
  refine h v' W' ⟨?_, Nat.le_trans hbuf.le hbl.size⟩ hbl (fun g c tt hne hB => ?_)
  rotate_left
  · have h1 := hB.alloc (.cells #[.string d, .string t] 56)
    have hl := h1.lt
    unfold Blk at *
    rw [hgrow.block g hl (fun e => hne e.symm)]; exact h1
  rw [List.length_append, List.length_singleton, cellsF_app]
  exact hown
end Go.Proofs.YtffjpidjhcnnmabDoor
