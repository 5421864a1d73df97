/-
  The walks over the drawing functions: l1bend.
-/
import Derived.Test.YtknpolmenfdheaaDoorWD2
import Derived.Test.YtknpolmenfdheaaDoorM1
namespace Go.Proofs.YtknpolmenfdheaaDoor
set_option linter.unusedVariables false
set_option linter.unusedSimpArgs false
open Go.RowKit

theorem conv1 {P : Program} (src e dst : TypeId) (hs : P.underlying src = some (.slice e)) (he : P.underlying e = some (.int .u8)) (hd : P.underlying dst = some .string) (w : World) (b cap : Nat) (x : Int) (hc : w.cell? ⟨b, 0, none⟩ = some (.int .u8 x)) :
    (convert src dst (.slice (some ⟨b, 0, none⟩) 1 cap)).run P w = .ok (.string ⟨#[UInt8.ofNat x.toNat]⟩) w :=
  run_convert_bytes_arg (P := P) w src e hs he b 0 1 cap [x] rfl (fun i hi => by obtain rfl : i = 0 := by omega
                                                                                 exact hc) dst hd
theorem Kp.cell {p : Nat} {w w' : World} (h : Kp p w w') {a : Addr} {v : Value} (hc : w.cell? a = some v) (hne : a.block ≠ p) : w'.cell? a = some v :=
  World.grownBy.cell h hc (fun e => hne (by injection e))
theorem Kp.of_drew {p : Nat} {w w' : World} (h : Kp p w.drew w') : Kp p w w' := (Kp.refl p w).drew.trans h
theorem bend_size (s : ByteArray) (a : Nat) (x : UInt8) (ha : a ≤ s.size) : (s.extract 0 a ++ ⟨#[x]⟩ ++ s.extract a s.size).size ≤ s.size + 1 := by
  have e : (ByteArray.mk #[x]).size = 1 := rfl
  rw [ByteArray.size_append, ByteArray.size_append, ByteArray.size_extract, ByteArray.size_extract, e]
  omega
theorem Kp.setNew {p : Nat} {a w : World} (h : Kp p a w) {g : Nat} (hg : a.heap.size ≤ g) (off : Nat) (u : Value) : Kp p a (w.setCell ⟨g, off, none⟩ u) :=
  ⟨h.os, h.tape, h.output, by have := h.size; simpa [World.setCell] using this, fun k hk hne => (Below.heap_setCell _ _ _ _ (by simp; omega)).trans (h.block k hk hne)⟩
theorem Drw.setNew {w : World} {p : Nat} (h : Drw w p) {g : Nat} (hg : p < g) (off : Nat) (u : Value) : Drw (w.setCell ⟨g, off, none⟩ u) p := by
  obtain ⟨a, len, cap, i, hh, h1, h2, h3⟩ := h
  exact ⟨a, len, cap, i, hh, (Below.heap_setCell _ _ _ _ (by simp; omega)).trans h1, h2.kept (fun k hk => Below.heap_setCell _ _ _ _ (by simp; omega)), h3⟩
theorem Row8.kp {p : Nat} {w w' : World} {b : Nat} {xs : List Int} (h : Row8 w b xs) (hk : Kp p w w') (hne : b ≠ p) : Row8 w' b xs :=
  ⟨fun j hj => hk.cell (h.cell j hj) hne, fun j hj => (World.frozen?_of_block (w := w) (hk.block b h.lt (fun e => hne (by injection e)))).trans (h.free j hj), Nat.lt_of_lt_of_le h.lt hk.size⟩

end Go.Proofs.YtknpolmenfdheaaDoor
