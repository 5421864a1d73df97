/-
  Chapter 4: the last segment; Used, Loose, AllBytes, StoreNew, ReadAt (the program's side).
-/
import Derived.Test.YtknpolmenfdheacDoorG2
import Derived.Test.YtknpolmenfdheacDoorA8
import Derived.Lib.AppendStr
namespace Go.Proofs.YtknpolmenfdheacDoor
set_option linter.unusedVariables false
set_option linter.unusedSimpArgs false
open Go.RowKit
set_option maxHeartbeats 400000 in
theorem last_any (p b n cap : Nat) (c : Int) (w : World) (h0 : w.cell? ⟨p, 0, none⟩ = some (.slice (some ⟨b, 0, none⟩) n cap)) (hn : 1 ≤ n) (h1 : n ≤ 1048576) :
    Calls Tryd.prog 28 #[.pointer (some ⟨p, 0, none⟩)] w fun e w' => e = .returned (.pointer (some ⟨b, (n - 1) * 2, none⟩)) ∧ ∃ m, w' = w.drewN m := by
  obtain ⟨k, rfl⟩ : ∃ k, n = k + 1 := ⟨n - 1, by omega⟩
  have e1 : ((k + 1 : Nat) : Int) - 1 = (k : Int) := by omega
  go_enter Tryd.func28, Tryd.ntmps28
  go_wp2
  refine wp_region_quiet_lit ?_ ?_ ?_
  · kernel_rfl
  · kernel_rfl
  repeat (go_big_quiet_step (fail))
  refine wpQuiet_nil ?_
  rintro _ ⟨nq, rfl⟩
  go_wp2
  go_ret
  exact ⟨rfl, _, rfl⟩
/-- All bytes, one behind the other. -/
def catL (l : List Sg) : List UInt8 := l.flatMap fun s => s.1.data.toList
theorem catL_app (a b : List Sg) : catL (a ++ b) = catL a ++ catL b := by simp [catL]
theorem catL_one (s : Sg) : catL [s] = s.1.data.toList := by simp [catL]
theorem catL_len (l : List Sg) : (catL l).length = totG l := by
  induction l with
  | nil => rfl
  | cons s l ih =>
    have e1 : catL (s :: l) = s.1.data.toList ++ catL l := rfl
    have e2 : totG (s :: l) = s.1.size + totG l := by simp [totG]
    rw [e1, e2, List.length_append, ih, len_data]
theorem catL_next (l : List Sg) (k : Nat) (h : k < l.length) : catL (l.take (k + 1)) = catL (l.take k) ++ (sgAt l k).1.data.toList := by
  rw [take_next l k h, catL_app, catL_one]
def catB (l : List Sg) : ByteArray := ⟨(catL l).toArray⟩
theorem catB_size (l : List Sg) : (catB l).size = totG l := by
  rw [← catL_len]; simp [catB, ByteArray.size]
theorem Buf.later {w0 w w' : World} {v : Value} {l : List UInt8} (h : Buf w0 w v l) (k : Below w.heap.size w w') : Buf w0 w' v l := by
  refine ⟨h.below.trans (k.mono h.below.size), h.own.1, ?_⟩
  rcases h.own.2 with hn | ⟨g, cap, cur, e, hb, hg, r⟩
  · exact .inl hn
  · exact .inr ⟨g, cap, cur, e, hb, by rw [k.block g (Array.getElem?_eq_some_iff.1 hg).1]; exact hg, r⟩
/-- append(out, s...), s a text. -/
theorem wp_appS {ops : Array Oper} {rest : List Oper} {o : Oper} {a : Act} {Q : Exit → Act → World → Prop} {w0 W : World} (hgd : o.guard = none) (sl x : Operand)
    (ho : o.op = .call { callee := .builtin .append, args := #[sl, x], argTypes := #[79, 9] }) (v : Value) (l : List UInt8) (hs : a.eval sl = v) (hbuf : Buf w0 W v l)
    (s : ByteArray) (hx : a.eval x = .string s) (hlen : l.length + s.size ≤ 1099511627776)
    (h : ∀ v' W', Buf w0 W' v' (l ++ s.data.toList) → Below w0.heap.size W W' → wpList Tryd.prog ops Q rest (a.put o.dst v') W') :
    wpList Tryd.prog ops Q (o :: rest) a W := by
  obtain ⟨i0, hi, hz0, hz1, hz2⟩ := info_parts Tryd.infoU8
  refine Lib.wpList_append_own_string W hgd sl x 79 9 ho w0.heap.size 5 i0 Tryd.underlying79 Tryd.underlying9 hi hz0 hz1 hz2 v l.length (l.map c8) hs hbuf.own s hx (by unfold maxLen; omega) (by omega) hbuf.below.size ?_
  intro v' W' hown hgrow _
  have hB : Below w0.heap.size W W' := ⟨hgrow.os, hgrow.tape, hgrow.output, hgrow.size, fun k hk => hgrow.block k (by have := hbuf.below.size; omega) (fun e => by have := (hbuf.own.lt k e.symm).1; omega)⟩
  refine h v' W' ⟨hbuf.below.trans hB, ?_⟩ hB
  rw [List.length_append, len_data, List.map_append]
  have e : Lib.strCells s = s.data.toList.map c8 := by
    unfold Lib.strCells
    rfl
  rw [← e]
  exact hown
end Go.Proofs.YtknpolmenfdheacDoor
