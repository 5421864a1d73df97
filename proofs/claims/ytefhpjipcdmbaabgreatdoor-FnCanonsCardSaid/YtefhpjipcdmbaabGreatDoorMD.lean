/-
  What the drawing functions share: a cursor over the code, of which the laws need only that numbers come out of it. No Go text is walked here.
-/
import Derived.Test.YtefhpjipcdmbaabGreatDoorA8
import Derived.Deep.Quiet
namespace Go.Proofs.YtefhpjipcdmbaabGreatDoor
set_option linter.unusedVariables false
set_option linter.unusedSimpArgs false
open Go.RowKit

/-- The code that came in: nil, or a row of bytes below block p. -/
def CodeRow (w : World) (p : Nat) (a : Option Addr) (len : Nat) : Prop :=
  len = 0 ∨ ∃ b off, a = some ⟨b, off, none⟩ ∧ b < p ∧ ∀ i, i < len → ∃ z : Nat, z ≤ 255 ∧ w.cell? ⟨b, off + i, none⟩ = some (.int .u8 (z : Int))
/-- Block p is the cursor. -/
def Drw (w : World) (p : Nat) : Prop :=
  ∃ (a : Option Addr) (len cap i : Nat) (h : Int), w.heap[p]? = some (.cells #[.slice a len cap, .int .i64 (i : Int), .int .i64 h] 68) ∧ CodeRow w p a len ∧ i ≤ len ∧ len ≤ maxLen
/-- All blocks of w but p stand in w' as they stood. -/
def Kp (p : Nat) (w w' : World) : Prop := w.grownBy w' (some p)

theorem Kp.refl (p : Nat) (w : World) : Kp p w w := ⟨rfl, rfl, rfl, Nat.le_refl _, fun _ _ _ => rfl⟩
theorem Kp.trans {p : Nat} {a b c : World} (h : Kp p a b) (k : Kp p b c) : Kp p a c := World.grownBy.trans h k
theorem Kp.size {p : Nat} {w w' : World} (h : Kp p w w') : w.heap.size ≤ w'.heap.size := World.grownBy.size h
theorem Kp.drew {p : Nat} {a w : World} (h : Kp p a w) : Kp p a w.drew := h.trans (⟨rfl, rfl, rfl, Nat.le_refl _, fun _ _ _ => rfl⟩ : w.grownBy w.drew (some p))
theorem Kp.drewN {p : Nat} {a w : World} (h : Kp p a w) (n : Nat) : Kp p a (w.drewN n) := h.trans (⟨rfl, rfl, rfl, Nat.le_refl _, fun _ _ _ => rfl⟩ : w.grownBy (w.drewN n) (some p))
theorem Kp.alloc {p : Nat} {a w : World} (h : Kp p a w) (o : Obj) : Kp p a (w.alloc o) := h.trans (World.grownBy_alloc w o _)
theorem Kp.setCell {p : Nat} {a w : World} (h : Kp p a w) (off : Nat) (u : Value) : Kp p a (w.setCell ⟨p, off, none⟩ u) :=
  h.trans ⟨rfl, rfl, rfl, by simp [World.setCell], fun k _ hne => Below.heap_setCell _ _ _ _ (fun e => hne (by simp at e; rw [e]))⟩
theorem Kp.below {p : Nat} {w w' : World} (h : Kp p w w') {B : Nat} (hB : B ≤ p) (hp : p ≤ w.heap.size) : Below B w w' :=
  ⟨h.os, h.tape, h.output, World.grownBy.size h, fun k hk => h.block k (by omega) (fun e => by injection e with e; omega)⟩
theorem Kp.of_below {p : Nat} {w w' : World} (h : Below w.heap.size w w') : Kp p w w' := ⟨h.os, h.tape, h.output, h.size, fun k hk _ => h.block k hk⟩
theorem CodeRow.kept {w w' : World} {p : Nat} {a : Option Addr} {len : Nat} (h : CodeRow w p a len) (hb : ∀ k, k < p → w'.heap[k]? = w.heap[k]?) : CodeRow w' p a len := by
  rcases h with h | ⟨b, off, h1, h2, h3⟩
  · exact Or.inl h
  · refine Or.inr ⟨b, off, h1, h2, fun i hi => ?_⟩
    obtain ⟨z, hz, hc⟩ := h3 i hi
    exact ⟨z, hz, (World.cell?_of_block (w := w) (hb b h2)).trans hc⟩
theorem CodeRow.later {w w' : World} {a : Option Addr} {len : Nat} (h : CodeRow w w.heap.size a len) (hb : Below w.heap.size w w') : CodeRow w' w'.heap.size a len := by
  rcases h with h | ⟨b, off, h1, h2, h3⟩
  · exact Or.inl h
  · refine Or.inr ⟨b, off, h1, Nat.lt_of_lt_of_le h2 hb.size, fun i hi => ?_⟩
    obtain ⟨z, hz, hc⟩ := h3 i hi
    exact ⟨z, hz, cell_later hb hc⟩
theorem Drw.lt {w : World} {p : Nat} (h : Drw w p) : p < w.heap.size := by
  obtain ⟨a, len, cap, i, hh, h1, _⟩ := h
  rcases Nat.lt_or_ge p w.heap.size with h | h
  · exact h
  · rw [Array.getElem?_eq_none h] at h1; cases h1
theorem Drw.kept {w w' : World} {p : Nat} (h : Drw w p) (hb : Below w.heap.size w w') : Drw w' p := by
  have hl := h.lt
  obtain ⟨a, len, cap, i, hh, h1, h2, h3⟩ := h
  exact ⟨a, len, cap, i, hh, (hb.block p hl).trans h1, h2.kept (fun k hk => hb.block k (by omega)), h3⟩
theorem Drw.alloc {w : World} {p : Nat} (h : Drw w p) (o : Obj) : Drw (w.alloc o) p := h.kept ((Below.refl _ w).alloc (Nat.le_refl _) o)
theorem Drw.drew {w : World} {p : Nat} (h : Drw w p) : Drw w.drew p := h.kept (Below.refl _ w).drew

theorem Drw.drewN {w : World} {p : Nat} (h : Drw w p) (n : Nat) : Drw (w.drewN n) p := h.kept (⟨rfl, rfl, rfl, Nat.le_refl _, fun _ _ => rfl⟩ : Below w.heap.size w (w.drewN n))
theorem and255 (y : Int) : ∃ n : Nat, n ≤ 255 ∧ bits .and .i64 y 255 = (n : Int) := by
  refine ⟨((BitVec.ofInt 64 y) &&& (BitVec.ofInt 64 255)).toNat, ?_, ?_⟩
  · rw [BitVec.toNat_and]
    exact Nat.and_le_right
  · show IntKind.i64.wrap _ = _
    have h : (((BitVec.ofInt 64 y) &&& (BitVec.ofInt 64 255)).toNat : Int) ≤ 255 := by
      have : ((BitVec.ofInt 64 y) &&& (BitVec.ofInt 64 255)).toNat ≤ 255 := by rw [BitVec.toNat_and]; exact Nat.and_le_right
      omega
    rw [IntKind.wrap_i64]
    show ((((BitVec.ofInt 64 y) &&& (BitVec.ofInt 64 255)).toNat : Int) + 9223372036854775808) % 18446744073709551616 - 9223372036854775808 = _
    omega
theorem ret255 (y : Int) : ∃ n : Nat, n ≤ 255 ∧ Ending.returned (.int .i64 (bits .and .i64 y 255)) = .returned (.int .i64 (n : Int)) := by
  obtain ⟨n, hn, he⟩ := and255 y
  exact ⟨n, hn, by rw [he]⟩
/-- A row of bytes that grows while numbers are drawn. -/
structure DBuf (p : Nat) (w0 w : World) (v : Value) (l : List UInt8) : Prop where
  kp : Kp p w0 w
  own : w.ownsRow w0.heap.size 5 1 v l.length (l.map c8)
  st : Drw w p
  lt : p < w0.heap.size
theorem DBuf.start {p : Nat} {w : World} (h : Drw w p) : DBuf p w w (.slice none 0 0) [] := ⟨Kp.refl _ _, World.ownsRow_nil _ _ _ _, h, h.lt⟩
theorem DBuf.draw {p : Nat} {w0 w w' : World} {v : Value} {l : List UInt8} (h : DBuf p w0 w v l) (hk : Kp p w w') (hd : Drw w' p) : DBuf p w0 w' v l := by
  refine ⟨h.kp.trans hk, h.own.kept hk ?_, hd, h.lt⟩
  cases hv : v.ownBlock with
  | none => exact Or.inl rfl
  | some g =>
    right
    intro e
    injection e with e
    have := (h.own.lt g hv).1
    have := h.lt
    omega
theorem DBuf.text {p : Nat} {w0 w : World} {v : Value} {l : List UInt8} (h : DBuf p w0 w v l) : (convert 28 9 v).run Tryz.prog w = .ok (.string ⟨l.toArray⟩) w := by
  have hl : l.map (fun b => UInt8.ofNat ((b.toNat : Int)).toNat) = l := by
    conv => rhs; rw [← List.map_id l]
    apply List.map_congr_left
    intro b _
    simp
  rcases h.own.2 with ⟨h1, h2⟩ | ⟨g, cap, cur, h1, _, hh, _, _, _, ht⟩
  · have : l = [] := List.length_eq_zero_iff.1 h2
    subst this
    rw [h1]
    exact run_convert_bytes_nil (P := Tryz.prog) w 28 5 Tryz.underlying28 Tryz.underlying5 0 0 9 Tryz.underlying9
  · subst h1
    have hc : ∀ i, i < l.length → w.cell? ⟨g, 0 + i, none⟩ = some (.int .u8 ((l.map fun b => (b.toNat : Int)).getD i 0)) := by
      intro i hi
      have := h.own.cells (g := g) rfl i (.int .u8 ((l[i].toNat : Int))) (by simp [c8, List.getElem?_eq_getElem hi])
      rw [Addr.add_lit] at this
      rw [this]
      simp [List.getD, List.getElem?_eq_getElem hi]
    have := run_convert_bytes_arg (P := Tryz.prog) w 28 5 Tryz.underlying28 Tryz.underlying5 g 0 l.length cap (l.map fun b => (b.toNat : Int)) (by simp) hc 9 Tryz.underlying9
    rw [this]
    simp only [strOfNums, List.map_map]
    exact congrArg (fun x : Array UInt8 => Result.ok (Value.string ⟨x⟩) w) (congrArg List.toArray hl)
theorem wp_dapp {ops : Array Oper} {rest : List Oper} {o : Oper} {a : Act} {Q : Exit → Act → World → Prop} {p : Nat} {w0 W : World} (hgd : o.guard = none) (s x : Operand)
    (ho : o.op = .call { callee := .builtin .append, args := #[s, x], argTypes := #[28, 28] }) (v : Value) (l : List UInt8) (hs : a.eval s = v) (hbuf : DBuf p w0 W v l)
    (n : Int) (y : UInt8) (hy : n = (y.toNat : Int)) (hx : a.eval x = .slice (some ⟨W.heap.size, 0, none⟩) 1 1) (hlen : l.length ≤ 1099511627776)
    (h : ∀ v' W', DBuf p w0 W' v' (l ++ [y]) → wpList Tryz.prog ops Q rest (a.put o.dst v') W') :
    wpList Tryz.prog ops Q (o :: rest) a (W.alloc (.cells #[.int .u8 n] 5)) := by
  subst hy
  obtain ⟨i0, hi, hz0, hz1, hz2⟩ := info_parts Tryz.infoU8
  have hsz := hbuf.kp.size
  refine wpList_append_own _ hgd s x 28 ho w0.heap.size 5 i0 (.int .u8 0) 1 1 Tryz.underlying28 hi hz0 hz1 hz2 rfl (by decide) v l.length (l.map c8) hs (hbuf.own.alloc _) ⟨W.heap.size, 0, none⟩ 1 1 [c8 y] hx rfl (cell_one_new _ _ _) (fun u hu => by simp at hu; subst hu; rfl) (by unfold maxLen; omega) (by omega) (by simp; omega) ?_
  intro v' W' hown hgrow _
  have hne : ∀ k, v.ownBlock = some k → w0.heap.size ≤ k := fun k hk => (hbuf.own.lt k hk).1
  have hlt := hbuf.lt
  have hstlt := hbuf.st.lt
  refine h v' W' ⟨?_, ?_, ?_, hlt⟩
  · refine ⟨hgrow.os.trans (hbuf.kp.alloc _).os, hgrow.tape.trans (hbuf.kp.alloc _).tape, hgrow.output.trans (hbuf.kp.alloc _).output, Nat.le_trans (hbuf.kp.alloc _).size hgrow.size, fun k hk hkne => ?_⟩
    refine (hgrow.block k ?_ ?_).trans ((hbuf.kp.alloc _).block k hk hkne)
    · simp; omega
    · intro e; have := hne k e.symm; omega
  · rw [List.length_append, List.length_singleton, List.map_append]
    exact hown
  · obtain ⟨a1, len, cap, i, hh, h1, h2, h3⟩ := hbuf.st
    have old : ∀ k, k < w0.heap.size → W'.heap[k]? = W.heap[k]? := by
      intro k hk
      rw [hgrow.block k (by simp; omega) (fun e => by have := hne k e.symm; omega)]
      exact Below.heap_alloc _ _ _ (by omega)
    exact ⟨a1, len, cap, i, hh, (old p hlt).trans h1, h2.kept (fun k hk => old k (by omega)), h3⟩
end Go.Proofs.YtefhpjipcdmbaabGreatDoor
