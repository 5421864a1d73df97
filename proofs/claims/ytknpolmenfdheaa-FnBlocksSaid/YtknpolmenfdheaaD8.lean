/-
  The walks over chapter 3: bytes that come in (impl).
-/
import Derived.Test.YtknpolmenfdheaaD6
namespace Go.Proofs.Ytknpolmenfdheaa
set_option linter.unusedVariables false
set_option linter.unusedSimpArgs false
open Go.RowKit
theorem Try.infoU8d : (Try.prog.info? 5).map (fun i => (i.zero, i.size, i.bytes)) = some (some (.int .u8 0), 1, 1) := by kernel_rfl
theorem Try.sizeU8 : (Try.prog.info? 5).map (·.size) = some 1 := by
  obtain ⟨i0, hi, hz0, hz1, hz2⟩ := info_parts Try.infoU8d
  rw [hi]; simp [hz1]
theorem cB_list (l : List UInt8) : (cB l).toList = l.map fun b => Value.int .u8 (b.toNat : Int) := by simp [cB]
theorem cB_splice (l m : List UInt8) (off : Nat) : ((cB l).toList.take off ++ m.map (fun b => Value.int .u8 (b.toNat : Int)) ++ (cB l).toList.drop (off + m.length)).toArray = cB (splice l off m) := by
  rw [cB_list]
  unfold cB splice
  simp [List.map_take, List.map_drop]
/-- copy into a row of bytes, out of a text. -/
theorem run_copy_str {P : Program} (w : World) (dT sT ty elem : TypeId) (g off dLen dCap n : Nat) (s : ByteArray) (l : List UInt8) (t : TypeId)
    (hu : P.underlying dT = some (.slice elem)) (hs : (P.info? elem).map (·.size) = some 1) (hg : Blk w g (cB l) t) (hn : Nat.min s.size dLen = n) (hfit : off + n ≤ l.length) :
    (Builtin.copy_ #[dT, sT] ty #[.slice (some ⟨g, off, none⟩) dLen dCap, .string s]).run P w = .ok (goInt n) (w.setRow g (cB (splice l off (s.data.toList.take n)))) := by
  have hle : n ≤ s.size := by rw [← hn]; exact Nat.min_le_left _ _
  have hlen : (s.data.toList.take n).length = n := by rw [List.length_take, len_data]; omega
  have hst := run_storeCells_at P g off t ((s.data.toList.take n).map fun b => Value.int .u8 (b.toNat : Int)) 0 (cB l) w hg (by rw [List.length_map, hlen, cB_size]; omega) (by
    intro v hv
    simp only [List.mem_map] at hv
    obtain ⟨b, _, rfl⟩ := hv
    rfl)
  rw [List.length_map, Nat.add_zero, cB_splice] at hst
  cases hq : P.info? elem with
  | none => simp [hq] at hs
  | some i =>
    simp [Builtin.copy_, run_underlying hu, Builtin.lenOf, Builtin.firstCells, sizeOf, typeInfo, hq, hn]
    rw [← List.map_take, hst]
    simp [Result.andThen]
theorem wp_copyS {ops : Array Oper} {rest : List Oper} {o : Oper} {a : Act} {Q : Exit → Act → World → Prop} {w : World} (hgd : o.guard = none) (d x : Operand)
    (ho : o.op = .call { callee := .builtin .copy, args := #[d, x], argTypes := #[22, 9] }) (g off dLen dCap n : Nat) (s : ByteArray) (l : List UInt8) (t : TypeId)
    (hd : a.eval d = .slice (some ⟨g, off, none⟩) dLen dCap) (hx : a.eval x = .string s) (hB : Blk w g (cB l) t) (hn : Nat.min s.size dLen = n) (hfit : off + n ≤ l.length)
    (k : wpList Try.prog ops Q rest (a.put o.dst (goInt n)) (w.setRow g (cB (splice l off (s.data.toList.take n))))) : wpList Try.prog ops Q (o :: rest) a w := by
  refine wpList_plain hgd fun K hK => ?_
  have hrun := run_copy_str (P := Try.prog) w 22 9 o.type 5 g off dLen dCap n s l t Try.underlying22 Try.sizeU8 hB hn hfit
  unfold Oper.wp
  simp [execOp, ho, resolve, invoke, builtin, hd, hx, hrun, Result.andThen]
  exact hK _ _ k
def z64 : List UInt8 := List.replicate 64 0
theorem Try.zero64 : ∀ w, (zeroValue 62).run Try.prog w = .ok (.agg (cB z64)) w := (zero_of_info Try.info64).1
set_option maxHeartbeats 1000000 in
theorem blockOf_any (s : ByteArray) (w : World) (hl : s.size = 64) :
    Calls Try.prog 37 #[.string s] w fun e w' => e = .returned (.agg (cB s.data.toList)) ∧ Below w.heap.size w w' := by
  have hz := Try.zero64
  go_enter Try.func37, Try.ntmps37
  have hsz : (Try.prog.info? 62).map (·.size) = some (cB s.data.toList).size := Try.size64 (by rw [len_data]; exact hl)
  have hsp : splice z64 0 (s.data.toList.take 64) = s.data.toList := by
    rw [List.take_of_length_le (by rw [len_data]; omega)]
    unfold splice
    rw [List.take_zero, List.nil_append, List.drop_eq_nil_of_le (by rw [len_data, hl]; decide), List.append_nil]
  have B2 := (blk2_b w (cB z64) 62 (.cells (cB z64) 62)).row (c' := cB s.data.toList)
  have B1 := (blk2_a w (cB z64) 62 (.cells (cB z64) 62)).rowOther (b' := w.heap.size + 1) (c' := cB s.data.toList) (by omega)
  have BB := below_setRow (below_setRow (below_a2 w (.cells (cB z64) 62) (.cells (cB z64) 62)) (Nat.le_succ w.heap.size) (cB s.data.toList)) (Nat.le_refl _) (cB s.data.toList)
  have HS := hideB2 (show (cB z64).size = (cB s.data.toList).size by rw [cB_size, cB_size, len_data, hl]; rfl)
  have HZ := hideB2 hsz
  have HP := hideB2 hsp
  have H1 := hideB2 B1
  have H2 := hideB2 B2
  have HB := hideB2 BB
  have HN := hideB2 (show Nat.min s.size 64 = 64 by rw [hl]; rfl)
  clear hsz hsp B1 B2 BB hl
  have hcp := run_copy_str (P := Try.prog) ((w.alloc (.cells (cB z64) 62)).alloc (.cells (cB z64) 62)) 22 9 3 5 (w.heap.size + 1) 0 64 64 64 s z64 62 Try.underlying22 Try.sizeU8 (blk2_b w (cB z64) 62 (.cells (cB z64) 62)) HN.out (Nat.le_refl 64)
  rw [HP.out] at hcp
  go_wp2_with (first | (refine wp_loadA rfl _ rfl rfl H2.out Try.underlying62 HZ.out ?_) | (refine wp_storeA rfl rfl _ _ rfl rfl rfl H1.out HZ.out HS.out (cB_one _) ?_))
  refine bodyPost_ret (results_cell1 rfl _ _ _ rfl H1.out.row Try.underlying62 HZ.out) rfl ⟨rfl, HB.out⟩
theorem splice_len {α : Type} (l m : List α) (off : Nat) (h : off + m.length ≤ l.length) : (splice l off m).length = l.length := by unfold splice; simp; omega
theorem splice_take {α : Type} (l m : List α) (off : Nat) (h : off ≤ l.length) : (splice l off m).take (off + m.length) = l.take off ++ m := by
  unfold splice
  rw [← List.append_assoc, List.take_append_of_le_length (by simp; omega)]
  exact List.take_of_length_le (by simp; omega)
/-- What stands in the block while l comes in, k of its bytes so far. -/
def Held (L l : List UInt8) (k : Nat) : Prop := L.length = 64 ∧ L.take (k % 64) = (l.drop (64 * (k / 64))).take (k % 64)
theorem held_step {L l c : List UInt8} {k : Nat} (h : Held L l k) (hc : c = (l.drop k).take c.length) (hf : k % 64 + c.length ≤ 64) :
    (splice L (k % 64) c).length = 64 ∧ (splice L (k % 64) c).take (k % 64 + c.length) = (l.drop (64 * (k / 64))).take (k % 64 + c.length) := by
  refine ⟨by rw [splice_len _ _ _ (by rw [h.1]; exact hf)]; exact h.1, ?_⟩
  rw [splice_take _ _ _ (by rw [h.1]; omega), h.2, List.take_add, List.drop_drop, show 64 * (k / 64) + k % 64 = k by omega]
  rw [← hc]
theorem held_full {L l c : List UInt8} {k : Nat} (h : Held L l k) (hc : c = (l.drop k).take c.length) (hf : k % 64 + c.length = 64) : splice L (k % 64) c = (l.drop (64 * (k / 64))).take 64 := by
  obtain ⟨h1, h2⟩ := held_step h hc (by omega)
  rw [hf, List.take_of_length_le (by rw [h1]; omega)] at h2
  exact h2
theorem held_none (L l : List UInt8) (k : Nat) (hL : L.length = 64) (hk : k % 64 = 0) : Held L l k := ⟨hL, by rw [hk]; simp⟩
theorem held_part {L l c : List UInt8} {k : Nat} (h : Held L l k) (hc : c = (l.drop k).take c.length) (hf : k % 64 + c.length < 64) : Held (splice L (k % 64) c) l (k + c.length) := by
  obtain ⟨h1, h2⟩ := held_step h hc (by omega)
  refine ⟨h1, ?_⟩
  rw [show (k + c.length) % 64 = k % 64 + c.length by omega, show (k + c.length) / 64 = k / 64 by omega]
  exact h2
theorem held_start (r b : List UInt8) (h : r.length < 64) : Held (splice z64 0 r) (r ++ b) r.length := by
  refine ⟨splice_len _ _ _ (by show 0 + r.length ≤ 64; omega), ?_⟩
  have := splice_take z64 r 0 (by omega)
  rw [Nat.zero_add, List.take_zero, List.nil_append] at this
  rw [show r.length % 64 = r.length by omega, show r.length / 64 = 0 by omega, this]
  simp
theorem held_end {L l : List UInt8} (h : Held L l l.length) : L.take (l.length % 64) = inR l := by
  rw [h.2]
  unfold inR
  exact List.take_of_length_le (by rw [List.length_drop]; omega)
end Go.Proofs.Ytknpolmenfdheaa
