/-
  The walks over chapter 2: small texts of impl.
-/
import Derived.Test.YtffjpidjhcnnmabDoorMT
import Derived.Test.YtffjpidjhcnnmabDoorWC4
import Derived.Test.YtffjpidjhcnnmabDoorWGr
import Derived.OwnWalk
import Derived.Laws.OwnMore
namespace Go.Proofs.YtffjpidjhcnnmabDoor
set_option linter.unusedVariables false
set_option linter.unusedSimpArgs false
open Go.RowKit

theorem Tryd.infoU8c : (Tryd.prog.info? 5).map (fun i => (i.zero, i.size, i.bytes)) = some (some (.int .u8 0), 1, 1) := by kernel_rfl
theorem row_made2 {w w' : World} {n : Nat} (h : w'.ownsRow w.heap.size 5 1 (.slice (some ⟨w.heap.size, 0, none⟩) n n) n (List.replicate n (.int .u8 0))) : Row8 w' w.heap.size (List.replicate n 0) := by
  refine ⟨fun j hj => ?_, fun j hj => h.frozenAt j, (h.lt w.heap.size rfl).2⟩
  rw [List.length_replicate] at hj
  have := h.cells (g := w.heap.size) rfl j (.int .u8 0) (by simp [hj])
  rw [Addr.add_lit, Nat.zero_add] at this
  rw [this]; simp [List.getD, hj]
theorem wp_mk2 {ops : Array Oper} {rest : List Oper} {o : Oper} {a : Act} {Q : Exit → Act → World → Prop} {w : World} (hg : o.guard = none) (l c : Operand) (hop : o.op = Op.makeSlice 48 l c)
    (n : Nat) (L C : Int) (hl : a.eval l = .int .i64 L) (hc : a.eval c = .int .i64 C) (hL : L = (n : Int)) (hC : C = (n : Int)) (hn : n ≤ 1000000)
    (hK : ∀ w', Row8 w' w.heap.size (List.replicate n 0) → Below w.heap.size w w' → wpList Tryd.prog ops Q rest (a.put o.dst (.slice (some ⟨w.heap.size, 0, none⟩) n n)) w') :
    wpList Tryd.prog ops Q (o :: rest) a w := by
  obtain ⟨i0, hi, hz0, hz1, hz2⟩ := info_parts Tryd.infoU8c
  refine wpList_make_full w hg l c 48 hop w.heap.size 5 i0 (.int .u8 0) 1 Tryd.underlying48 hi hz0 hz1 .i64 .i64 L C n hl hc hL hC (by rw [hz2]; omega) (by unfold maxLen; omega) (Nat.le_refl _) ?_
  intro w' hown hgr
  refine hK w' (row_made2 ?_) ⟨hgr.os, hgr.tape, hgr.output, hgr.size, fun k hk => hgr.block k hk (by simp)⟩
  have e : (madeCells (Value.int .u8 0).cells (n * 1)).toList = List.replicate n (.int .u8 0) := by
    rw [Nat.mul_one]; exact toList_madeCells_one _ _
  rw [e] at hown
  exact hown
theorem dig_round {n p k : Nat} {w wr : World} (hlt : k < p) (hrow : Hid (Row8 wr w.heap.size (digRow n p k))) (hbel : Hid (Below w.heap.size w wr)) :
    Row8 (wr.setCell ⟨w.heap.size, p - 1 - k, none⟩ (.int .u8 (48 + ((n / 10 ^ k % 10 : Nat) : Int)))) w.heap.size (digRow n p (k + 1)) ∧ Below w.heap.size w (wr.setCell ⟨w.heap.size, p - 1 - k, none⟩ (.int .u8 (48 + ((n / 10 ^ k % 10 : Nat) : Int)))) := by
  refine ⟨?_, hbel.out.setCell (by simp) _⟩
  rw [digRow_succ n p k hlt]
  exact hrow.out.set _ _ (by rw [digRow_len n p k (by omega)]; omega)
set_option maxHeartbeats 1000000 in
theorem digits_any (n p : Nat) (w : World) (hp0 : 1 ≤ p) (hp : p ≤ 4) (hn : n ≤ 1000000) :
    Calls Tryd.prog 69 #[.int .i64 (n : Int), .int .i64 (p : Int)] w fun e w' => e = .returned (.string (digB n p)) ∧ Below w.heap.size w w' := by
  go_enter Tryd.func69, Tryd.ntmps69
  go_wp2_with (refine wp_mk2 rfl _ _ rfl p _ _ rfl rfl rfl rfl (by omega) ?_; intro W1 hr1 hb1; have HR := hideB2 hr1; have HB := hideB2 hb1; clear hr1 hb1)
  go_loopw [0, 10] (fun nn ii wr => ∃ k : Nat, k ≤ p ∧ ii = .int .i64 k ∧ nn = .int .i64 ((n / 10 ^ k : Nat) : Int) ∧ Row8 wr w.heap.size (digRow n p k) ∧ Below w.heap.size w wr) (fun _ ii _ => p - (intOf ii).toNat)
  case atStart => exact ⟨0, Nat.zero_le _, rfl, by simp, by rw [digRow_zero]; exact HR.out, HB.out⟩
  case round =>
    obtain ⟨k, hk, rfl, rfl, hrow, hbel⟩ := hrel
    clear HR HB
    by_cases hlt : k < p
    · have hc := hrow.cell (p - 1 - k) (by rw [digRow_len n p k hk]; omega)
      have hf := hrow.free (p - 1 - k) (by rw [digRow_len n p k hk]; omega)
      have HRR := hideB2 (dig_round hlt hrow hbel)
      have hu : Hid (n / 10 ^ (k + 1) = n / 10 ^ k / 10) := by show _ = _; rw [Nat.pow_succ, Nat.div_div_eq_div_mul]
      have hul : n / 10 ^ k ≤ 1000000 := Nat.le_trans (Nat.div_le_self _ _) hn
      have hix : ((p : Int) - 1 - (k : Int)) = ((p - 1 - k : Nat) : Int) := by omega
      clear hrow hbel
      generalize n / 10 ^ k = u at *
      generalize hq : p - 1 - k = q at *
      have HQ := hideB2 hq
      clear hq
      go_wp2
      go_roundw
      case rel => exact ⟨k + 1, by omega, by go_num, congrArg (Value.int .i64) (by rw [hu.out]; omega), HRR.out.1, HRR.out.2⟩
      case measure => simp [intOf]; omega
    · obtain rfl : k = p := by omega
      have kb := hrow.text (P := Tryd.prog) 48 5 9 k k (digRow_len n k k (Nat.le_refl _)) Tryd.underlying48 Tryd.underlying5 Tryd.underlying9
      rw [digRow_all] at kb
      go_wp2
      go_ret
      exact ⟨rfl, hbel⟩
theorem digits_at (n : Nat) (p : Int) (w : World) (h0 : 1 ≤ p) (h1 : p ≤ 4) (hn : n ≤ 1000000) :
    Calls Tryd.prog 69 #[.int .i64 (n : Int), .int .i64 p] w fun e w' => e = .returned (.string (digB n p.toNat)) ∧ Below w.heap.size w w' := by
  obtain ⟨q, rfl⟩ := Int.eq_ofNat_of_zero_le (a := p) (by omega)
  exact digits_any n q w (by omega) (by omega) hn
end Go.Proofs.YtffjpidjhcnnmabDoor
