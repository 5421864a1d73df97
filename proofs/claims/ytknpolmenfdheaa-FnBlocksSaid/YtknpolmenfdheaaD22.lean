/-
  A row of ints that grows while numbers are drawn; spec.l3h, laws.sameInts.
-/
import Derived.Test.YtknpolmenfdheaaD14
import Derived.Test.YtknpolmenfdheaaD19
namespace Go.Proofs.Ytknpolmenfdheaa
set_option linter.unusedVariables false
set_option linter.unusedSimpArgs false
open Go.RowKit
def ci (z : Int) : Value := .int .i64 z
structure IBuf (p : Nat) (w0 w : World) (v : Value) (l : List Int) : Prop where
  kp : Kp p w0 w
  own : w.ownsRow w0.heap.size 3 1 v l.length (l.map ci)
  st : Drw w p
  lt : p < w0.heap.size
theorem IBuf.start {p : Nat} {w : World} (h : Drw w p) : IBuf p w (w.alloc (.cells #[] 3)) (.slice (some ⟨w.heap.size, 0, none⟩) 0 0) [] := ⟨(Kp.refl _ _).alloc _, none_own w, h.alloc _, h.lt⟩
theorem IBuf.draw {p : Nat} {w0 w w' : World} {v : Value} {l : List Int} (h : IBuf p w0 w v l) (hk : Kp p w w') (hd : Drw w' p) : IBuf p w0 w' v l := by
  refine ⟨h.kp.trans hk, h.own.kept hk ?_, hd, h.lt⟩
  cases hv : v.ownBlock with
  | none => exact Or.inl rfl
  | some g =>
    right
    intro e
    injection e with e
    have := (h.own.lt g hv).1
    have := h.lt
    omega
theorem cell_one_newI (W : World) (z : Int) : ∀ (j : Nat) (u : Value), [ci z][j]? = some u → (W.alloc (.cells #[.int .i64 z] 3)).cell? ((⟨W.heap.size, 0, none⟩ : Addr).add j) = some u := by
  intro j u hu
  have hj : j < 1 := by simpa using (List.getElem?_eq_some_iff.1 hu).1
  obtain rfl : j = 0 := by omega
  rw [Addr.add_lit, Nat.zero_add, (Blk.new W #[.int .i64 z] 3).cell 0]
  simpa [ci] using hu
theorem wp_iapp {ops : Array Oper} {rest : List Oper} {o : Oper} {a : Act} {Q : Exit → Act → World → Prop} {p : Nat} {w0 W : World} (hgd : o.guard = none) (s x : Operand)
    (ho : o.op = .call { callee := .builtin .append, args := #[s, x], argTypes := #[25, 25] }) (v : Value) (l : List Int) (hs : a.eval s = v) (hbuf : IBuf p w0 W v l)
    (y : Int) (hx : a.eval x = .slice (some ⟨W.heap.size, 0, none⟩) 1 1) (hlen : l.length ≤ 1099511627776)
    (h : ∀ v' W', IBuf p w0 W' v' (l ++ [y]) → wpList Try.prog ops Q rest (a.put o.dst v') W') :
    wpList Try.prog ops Q (o :: rest) a (W.alloc (.cells #[.int .i64 y] 3)) := by
  obtain ⟨i0, hi, hz0, hz1, hz2⟩ := info_parts Try.infoI
  have hsz := hbuf.kp.size
  refine wpList_append_own _ hgd s x 25 ho w0.heap.size 3 i0 (.int .i64 0) 1 8 Try.underlying25 hi hz0 hz1 hz2 rfl (by decide) v l.length (l.map ci) hs (hbuf.own.alloc _) ⟨W.heap.size, 0, none⟩ 1 1 [ci y] hx rfl (cell_one_newI W y) (fun u hu => by simp at hu; subst hu; rfl) (by unfold maxLen; omega) (by omega) (by simp; omega) ?_
  intro v' W' hown hgrow _
  have hne : ∀ k, v.ownBlock = some k → w0.heap.size ≤ k := fun k hk => (hbuf.own.lt k hk).1
  have hlt := hbuf.lt
  have hstlt := hbuf.st.lt
  refine h v' W' ⟨?_, ?_, ?_, hlt⟩
  · refine ⟨hgrow.os.trans (hbuf.kp.alloc _).os, hgrow.tape.trans (hbuf.kp.alloc _).tape, hgrow.output.trans (hbuf.kp.alloc _).output, Nat.le_trans (hbuf.kp.alloc _).size hgrow.size, fun k hk hkne => ?_⟩
    refine (hgrow.block k ?_ ?_).trans ((hbuf.kp.alloc _).block k hk hkne)
    · simp; omega
    · intro e; have := hne k e.symm; omega
  · rw [List.length_append, List.length_singleton, List.map_append]
    exact hown
  · obtain ⟨a1, len, cap, i, hh, h1, h2, h3⟩ := hbuf.st
    have old : ∀ k, k < w0.heap.size → W'.heap[k]? = W.heap[k]? := by
      intro k hk
      rw [hgrow.block k (by simp; omega) (fun e => by have := hne k e.symm; omega)]
      exact Below.heap_alloc _ _ _ (by omega)
    exact ⟨a1, len, cap, i, hh, (old p hlt).trans h1, h2.kept (fun k hk => old k (by omega)), h3⟩
theorem IBuf.out {p : Nat} {w0 w : World} {v : Value} {l : List Int} (h : IBuf p w0 w v l) (hl : l.length = 5) : ∃ g cap, v = .slice (some ⟨g, 0, none⟩) 5 cap ∧ 5 ≤ cap ∧ w0.heap.size ≤ g ∧ RowZ w g l := by
  rcases h.own.2 with ⟨_, h2⟩ | ⟨g, cap, cur, h1, _, _, hc, _⟩
  · omega
  · subst h1
    have hlt := h.own.lt g rfl
    refine ⟨g, cap, by rw [hl], by omega, hlt.1, ⟨fun j hj => ?_, fun j => h.own.frozenAt j, hlt.2⟩⟩
    have := h.own.cells (g := g) rfl j (.int .i64 (l.getD j 0)) (by simp [List.getD, hj, ci])
    rwa [Addr.add_lit, Nat.zero_add] at this
theorem RowZ.kp {p : Nat} {w w' : World} {b : Nat} {xs : List Int} (h : RowZ w b xs) (k : Kp p w w') (hne : b ≠ p) : RowZ w' b xs := by
  have hb : w'.heap[b]? = w.heap[b]? := k.block b h.lt (fun e => hne (Option.some.inj e))
  refine ⟨fun j hj => k.cell (h.cell j hj) hne, fun j => ?_, Nat.lt_of_lt_of_le h.lt k.size⟩
  have := h.free j
  unfold World.frozen? at this ⊢
  rw [hb]
  exact this
end Go.Proofs.Ytknpolmenfdheaa
