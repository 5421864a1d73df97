/-
  The marks of the exact laws: their texts; worlds that have grown but for one block.
-/
import Derived.Test.YtenjbgpndkodmabBK2
import Derived.Test.YtenjbgpndkodmabM2
import Derived.Test.YtenjbgpndkodmabGR
import Derived.Lib.ConvBytes
import Derived.Lib.SmallJoins
namespace Go.Proofs.Ytenjbgpndkodmab
set_option linter.unusedVariables false
set_option linter.unusedSimpArgs false
open Go.RowKit
/-- The digits of k ahead of what is there. -/
def mtF : Nat → Nat → List UInt8 → List UInt8
  | 0, _, out => out
  | f + 1, k, out => if k = 0 then out else mtF f (k / 10) (UInt8.ofNat (48 + k % 10) :: out)
theorem mtF_zero (f : Nat) (out : List UInt8) : mtF f 0 out = out := by cases f <;> rfl
theorem mtF_pos {f k : Nat} (h : 0 < k) (out : List UInt8) : mtF (f + 1) k out = mtF f (k / 10) (UInt8.ofNat (48 + k % 10) :: out) := by rw [mtF, if_neg (by omega)]
def mtB (k : Nat) : ByteArray := ⟨(109 :: mtF 8 k []).toArray⟩
theorem convM {P : Program} (src e dst : TypeId) (hs : P.underlying src = some (.slice e)) (he : P.underlying e = some (.int .u8)) (hd : P.underlying dst = some .string) (w : World) (b cap : Nat) (x : Int) (hc : w.cell? ⟨b, 0, none⟩ = some (.int .u8 x)) :
    (convert src dst (.slice (some ⟨b, 0, none⟩) 1 cap)).run P w = .ok (.string ⟨#[UInt8.ofNat x.toNat]⟩) w :=
  run_convert_bytes_arg (P := P) w src e hs he b 0 1 cap [x] rfl (fun i hi => by obtain rfl : i = 0 := by omega
                                                                                 exact hc) dst hd
theorem mt_eq (r : Nat) (l : List UInt8) : Value.string (⟨#[48 + UInt8.ofNat r]⟩ ++ ⟨l.toArray⟩) = .string ⟨(UInt8.ofNat (48 + r) :: l).toArray⟩ := by
  have h : (ByteArray.mk #[48 + UInt8.ofNat r] ++ ByteArray.mk l.toArray) = ⟨(UInt8.ofNat (48 + r) :: l).toArray⟩ := by
    apply bytes_ext
    rw [Go.Joins.data_append]; simp
  rw [h]
theorem grown_then {w w1 w2 : World} {r : Option Nat} (h : w.grownBy w1 r) (hb : Below w1.heap.size w1 w2) : w.grownBy w2 r :=
  ⟨hb.os.trans h.os, hb.tape.trans h.tape, hb.output.trans h.output, Nat.le_trans h.size hb.size, fun k hk hn => by rw [hb.block k (Nat.lt_of_lt_of_le hk h.size)]; exact h.block k hk hn⟩
theorem grown_set {w w1 : World} {g : Nat} (h : w.grownBy w1 (some g)) (o : Nat) (u : Value) : w.grownBy (w1.setCell ⟨g, o, none⟩ u) (some g) :=
  World.grownBy.trans h ⟨rfl, rfl, rfl, by simp [World.setCell], fun k _ hne => Below.heap_setCell _ _ _ _ (fun e => hne (by simp at e; rw [e]))⟩
theorem grown_refl (w : World) (r : Option Nat) : w.grownBy w r := ⟨rfl, rfl, rfl, Nat.le_refl _, fun _ _ _ => rfl⟩
theorem Blk.gb {w w' : World} {b : Nat} {c : Array Value} {t : TypeId} {r : Option Nat} (h : Blk w b c t) (k : w.grownBy w' r) (hne : r ≠ some b) : Blk w' b c t := by
  unfold Blk at *
  rw [k.block b (Array.getElem?_eq_some_iff.1 h).1 (fun e => hne e.symm)]
  exact h
theorem grown_below {w w1 w2 : World} {B : Nat} {r : Option Nat} (h : Below B w w1) (k : w1.grownBy w2 r) (hr : ∀ g, r = some g → B ≤ g) (hB : B ≤ w1.heap.size) : Below B w w2 :=
  h.trans ⟨k.os, k.tape, k.output, k.size, fun b hb => k.block b (by omega) (fun e => by have := hr b e.symm; omega)⟩
end Go.Proofs.Ytenjbgpndkodmab
