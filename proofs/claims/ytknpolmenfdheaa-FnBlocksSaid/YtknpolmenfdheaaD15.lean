/-
  The walks over chapter 3: ShaEnd (spec).
-/
import Derived.Test.YtknpolmenfdheaaD14
import Derived.Test.YtknpolmenfdheaaD10
import Derived.Test.YtknpolmenfdheaaA8
namespace Go.Proofs.Ytknpolmenfdheaa
set_option linter.unusedVariables false
set_option linter.unusedSimpArgs false
open Go.RowKit
theorem four_cells (W : World) (y0 y1 y2 y3 : UInt8) : ∀ (j : Nat) (v : Value), [c8 y0, c8 y1, c8 y2, c8 y3][j]? = some v → (W.alloc (.cells #[c8 y0, c8 y1, c8 y2, c8 y3] 5)).cell? ((⟨W.heap.size, 0, none⟩ : Addr).add j) = some v := by
  intro j v hv
  rw [Addr.add_lit, Nat.zero_add, (Blk.new W #[c8 y0, c8 y1, c8 y2, c8 y3] 5).cell j]
  simpa using hv
/-- append(buf, four bytes). -/
theorem wp_app4 {ops : Array Oper} {rest : List Oper} {o : Oper} {a : Act} {Q : Exit → Act → World → Prop} {w0 W : World} (hgd : o.guard = none) (s x : Operand)
    (ho : o.op = .call { callee := .builtin .append, args := #[s, x], argTypes := #[22, 22] }) (v : Value) (l : List UInt8) (hs : a.eval s = v) (hbuf : Buf w0 W v l)
    (y0 y1 y2 y3 : UInt8) (hx : a.eval x = .slice (some ⟨W.heap.size, 0, none⟩) 4 4) (hlen : l.length ≤ 1099511627776)
    (h : ∀ v' W', Buf w0 W' v' (l ++ [y0, y1, y2, y3]) → wpList Try.prog ops Q rest (a.put o.dst v') W') :
    wpList Try.prog ops Q (o :: rest) a (W.alloc (.cells #[c8 y0, c8 y1, c8 y2, c8 y3] 5)) := by
  obtain ⟨i0, hi, hz0, hz1, hz2⟩ := info_parts Try.infoU8
  refine wpList_append_own _ hgd s x 22 ho w0.heap.size 5 i0 (.int .u8 0) 1 1 Try.underlying22 hi hz0 hz1 hz2 rfl (by decide) v l.length (l.map c8) hs (hbuf.own.alloc _) ⟨W.heap.size, 0, none⟩ 4 4 [c8 y0, c8 y1, c8 y2, c8 y3] hx rfl (four_cells W y0 y1 y2 y3) (fun u hu => by simp at hu; rcases hu with rfl | rfl | rfl | rfl <;> rfl) (by unfold maxLen; omega) (by omega) (by have := hbuf.below.size; simp; omega) ?_
  intro v' W' hown hgrow _
  refine h v' W' ⟨?_, ?_⟩
  · refine (hbuf.alloc _).below.grown hgrow (by have := hbuf.below.size; simp; omega) ?_
    intro k hk
    exact (hbuf.own.lt k hk).1
  · rw [List.length_append, List.map_append]
    exact hown
theorem Buf.drewN {w0 w : World} {v : Value} {l : List UInt8} (h : Buf w0 w v l) (n : Nat) : Buf w0 (w.drewN n) v l :=
  ⟨below_drewN h.below n, h.own.kept (⟨rfl, rfl, rfl, Nat.le_refl _, fun _ _ _ => rfl⟩ : w.grownBy (w.drewN n) none) (by simp; exact Classical.em _)⟩
theorem Buf.later {w0 w w' : World} {v : Value} {l : List UInt8} (h : Buf w0 w v l) (k : Below w.heap.size w w') : Buf w0 w' v l :=
  ⟨h.below.trans (k.mono h.below.size), h.own.kept (⟨k.os, k.tape, k.output, k.size, fun j hj _ => k.block j hj⟩ : w.grownBy w' none) (by simp; exact Classical.em _)⟩
end Go.Proofs.Ytknpolmenfdheaa
