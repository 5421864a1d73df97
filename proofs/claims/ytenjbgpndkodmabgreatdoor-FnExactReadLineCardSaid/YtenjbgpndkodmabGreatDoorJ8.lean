/-
  The walks over chapter 2: small texts of impl. · The walks over chapter 2: clockText, blankedDay, shortDay of impl. · The walks over chapter 2: the five texts of impl. · The walks over chapter 2: spec.CivilOk. · The walks over chapter 2: spec's SecondsOf, CivilOf, Weekday. · The walks over chapter 2: the texts of spec. · The walks over chapter 2: what impl reads of a text. · The walks over chapter 2: the parts of a text, as impl reads them. · The walks over chapter 2: impl.timeWritten. · The walks over chapter 2: impl.ReadWarcDate, ReadStamp. · The walks over chapter 2: spec.LineDate. · The walks over chapter 2: what spec reads of a text. · The walks over chapter 2: spec.ReadWarcDate, ReadStamp. · Chapter 9: may a line stand in an index; its text; both sides. · The operations of a region that keeps its order, walked as quiet ones, at the class of the worlds that have grown out of one. · Chapter 9: may a line stand in an index; both sides. (written by mkn8.py)
-/
import Derived.Test.YtenjbgpndkodmabGreatDoorJ1
import Derived.Test.YtenjbgpndkodmabGreatDoorJ7
import Derived.OwnWalk
import Derived.Laws.OwnMore
import Derived.Test.YtenjbgpndkodmabGreatDoorJ3
import Derived.Test.YtenjbgpndkodmabGreatDoorJ2
import Derived.Deep.RegionWith
import Derived.BigRegion
import Derived.Deep.DeepCutAuto
import Derived.Test.YtenjbgpndkodmabGreatDoorJ0
import Derived.Test.YtenjbgpndkodmabGreatDoorJ6
namespace Go.Proofs.YtenjbgpndkodmabGreatDoor
set_option linter.unusedVariables false
set_option linter.unusedSimpArgs false
open Go.RowKit

theorem Tryz.infoU8c : (Tryz.prog.info? 5).map (fun i => (i.zero, i.size, i.bytes)) = some (some (.int .u8 0), 1, 1) := by kernel_rfl
theorem row_made2 {w w' : World} {n : Nat} (h : w'.ownsRow w.heap.size 5 1 (.slice (some ⟨w.heap.size, 0, none⟩) n n) n (List.replicate n (.int .u8 0))) : Row8 w' w.heap.size (List.replicate n 0) := by
  refine ⟨fun j hj => ?_, fun j hj => h.frozenAt j, (h.lt w.heap.size rfl).2⟩
  rw [List.length_replicate] at hj
  have := h.cells (g := w.heap.size) rfl j (.int .u8 0) (by simp [hj])
  rw [Addr.add_lit, Nat.zero_add] at this
  rw [this]; simp [List.getD, hj]
theorem wp_mk2 {ops : Array Oper} {rest : List Oper} {o : Oper} {a : Act} {Q : Exit → Act → World → Prop} {w : World} (hg : o.guard = none) (l c : Operand) (hop : o.op = Op.makeSlice 80 l c)
    (n : Nat) (L C : Int) (hl : a.eval l = .int .i64 L) (hc : a.eval c = .int .i64 C) (hL : L = (n : Int)) (hC : C = (n : Int)) (hn : n ≤ 1000000)
    (hK : ∀ w', Row8 w' w.heap.size (List.replicate n 0) → Below w.heap.size w w' → wpList Tryz.prog ops Q rest (a.put o.dst (.slice (some ⟨w.heap.size, 0, none⟩) n n)) w') :
    wpList Tryz.prog ops Q (o :: rest) a w := by
  obtain ⟨i0, hi, hz0, hz1, hz2⟩ := info_parts Tryz.infoU8c
  refine wpList_make_full w hg l c 80 hop w.heap.size 5 i0 (.int .u8 0) 1 Tryz.underlying80 hi hz0 hz1 .i64 .i64 L C n hl hc hL hC (by rw [hz2]; omega) (by unfold maxLen; omega) (Nat.le_refl _) ?_
  intro w' hown hgr
  refine hK w' (row_made2 ?_) ⟨hgr.os, hgr.tape, hgr.output, hgr.size, fun k hk => hgr.block k hk (by simp)⟩
  have e : (madeCells (Value.int .u8 0).cells (n * 1)).toList = List.replicate n (.int .u8 0) := by
    rw [Nat.mul_one]; exact toList_madeCells_one _ _
  rw [e] at hown
  exact hown
theorem dig_round {n p k : Nat} {w wr : World} (hlt : k < p) (hrow : Hid (Row8 wr w.heap.size (digRow n p k))) (hbel : Hid (Below w.heap.size w wr)) :
    Row8 (wr.setCell ⟨w.heap.size, p - 1 - k, none⟩ (.int .u8 (48 + ((n / 10 ^ k % 10 : Nat) : Int)))) w.heap.size (digRow n p (k + 1)) ∧ Below w.heap.size w (wr.setCell ⟨w.heap.size, p - 1 - k, none⟩ (.int .u8 (48 + ((n / 10 ^ k % 10 : Nat) : Int)))) := by
  refine ⟨?_, hbel.out.setCell (by simp) _⟩
  rw [digRow_succ n p k hlt]
  exact hrow.out.set _ _ (by rw [digRow_len n p k (by omega)]; omega)
set_option maxHeartbeats 1000000 in
theorem digits_any (n p : Nat) (w : World) (hp0 : 1 ≤ p) (hp : p ≤ 4) (hn : n ≤ 1000000) :
    Calls Tryz.prog 67 #[.int .i64 (n : Int), .int .i64 (p : Int)] w fun e w' => e = .returned (.string (digB n p)) ∧ Below w.heap.size w w' := by
  go_enter Tryz.func67, Tryz.ntmps67
  go_wp2_with (refine wp_mk2 rfl _ _ rfl p _ _ rfl rfl rfl rfl (by omega) ?_; intro W1 hr1 hb1; have HR := hideB2 hr1; have HB := hideB2 hb1; clear hr1 hb1)
  go_loopw [0, 10] (fun nn ii wr => ∃ k : Nat, k ≤ p ∧ ii = .int .i64 k ∧ nn = .int .i64 ((n / 10 ^ k : Nat) : Int) ∧ Row8 wr w.heap.size (digRow n p k) ∧ Below w.heap.size w wr) (fun _ ii _ => p - (intOf ii).toNat)
  case atStart => exact ⟨0, Nat.zero_le _, rfl, by simp, by rw [digRow_zero]; exact HR.out, HB.out⟩
  case round =>
    obtain ⟨k, hk, rfl, rfl, hrow, hbel⟩ := hrel
    clear HR HB
    by_cases hlt : k < p
    · have hc := hrow.cell (p - 1 - k) (by rw [digRow_len n p k hk]; omega)
      have hf := hrow.free (p - 1 - k) (by rw [digRow_len n p k hk]; omega)
      have HRR := hideB2 (dig_round hlt hrow hbel)
      have hu : Hid (n / 10 ^ (k + 1) = n / 10 ^ k / 10) := by show _ = _; rw [Nat.pow_succ, Nat.div_div_eq_div_mul]
      have hul : n / 10 ^ k ≤ 1000000 := Nat.le_trans (Nat.div_le_self _ _) hn
      have hix : ((p : Int) - 1 - (k : Int)) = ((p - 1 - k : Nat) : Int) := by omega
      clear hrow hbel
      generalize n / 10 ^ k = u at *
      generalize hq : p - 1 - k = q at *
      have HQ := hideB2 hq
      clear hq
      go_wp2
      go_roundw
      case rel => exact ⟨k + 1, by omega, by go_num, congrArg (Value.int .i64) (by rw [hu.out]; omega), HRR.out.1, HRR.out.2⟩
      case measure => simp [intOf]; omega
    · obtain rfl : k = p := by omega
      have kb := hrow.text (P := Tryz.prog) 80 5 9 k k (digRow_len n k k (Nat.le_refl _)) Tryz.underlying80 Tryz.underlying5 Tryz.underlying9
      rw [digRow_all] at kb
      go_wp2
      go_ret
      exact ⟨rfl, hbel⟩
theorem digits_at (n : Nat) (p : Int) (w : World) (h0 : 1 ≤ p) (h1 : p ≤ 4) (hn : n ≤ 1000000) :
    Calls Tryz.prog 67 #[.int .i64 (n : Int), .int .i64 p] w fun e w' => e = .returned (.string (digB n p.toNat)) ∧ Below w.heap.size w w' := by
  obtain ⟨q, rfl⟩ := Int.eq_ofNat_of_zero_le (a := p) (by omega)
  exact digits_any n q w (by omega) (by omega) hn
end Go.Proofs.YtenjbgpndkodmabGreatDoor
namespace Go.Proofs.YtenjbgpndkodmabGreatDoor
set_option linter.unusedVariables false
set_option linter.unusedSimpArgs false
open Go.RowKit

/-- A day and hour lies at the head of block b. -/
def CivAt (W : World) (b : Nat) (y m d h i s : Int) : Prop :=
  W.cell? ⟨b, 0, none⟩ = some (.int .i64 y) ∧ W.cell? ⟨b, 1, none⟩ = some (.int .i64 m) ∧ W.cell? ⟨b, 2, none⟩ = some (.int .i64 d) ∧ W.cell? ⟨b, 3, none⟩ = some (.int .i64 h) ∧ W.cell? ⟨b, 4, none⟩ = some (.int .i64 i) ∧ W.cell? ⟨b, 5, none⟩ = some (.int .i64 s)
theorem civAt_new (w : World) (y m d h i s : Int) (T : TypeId) : CivAt (w.alloc (.cells #[.int .i64 y, .int .i64 m, .int .i64 d, .int .i64 h, .int .i64 i, .int .i64 s] T)) w.heap.size y m d h i s := by
  unfold CivAt
  simp [go_sem]
theorem CivAt.grw {W : World} {b : Nat} {y m d h i s : Int} (k : CivAt W b y m d h i s) : (∀ V, (grw W V).cell? ⟨b, 0, none⟩ = some (.int .i64 y)) ∧ (∀ V, (grw W V).cell? ⟨b, 1, none⟩ = some (.int .i64 m)) ∧ (∀ V, (grw W V).cell? ⟨b, 2, none⟩ = some (.int .i64 d)) ∧ (∀ V, (grw W V).cell? ⟨b, 3, none⟩ = some (.int .i64 h)) ∧ (∀ V, (grw W V).cell? ⟨b, 4, none⟩ = some (.int .i64 i)) ∧ (∀ V, (grw W V).cell? ⟨b, 5, none⟩ = some (.int .i64 s)) :=
  ⟨grw_some k.1, grw_some k.2.1, grw_some k.2.2.1, grw_some k.2.2.2.1, grw_some k.2.2.2.2.1, grw_some k.2.2.2.2.2⟩
theorem CivAt.below {W W' : World} {b : Nat} {y m d h i s : Int} (k : CivAt W b y m d h i s) (hb : Below W.heap.size W W') : CivAt W' b y m d h i s := by
  have g := k.grw
  exact ⟨g.1 ⟨W', hb⟩, g.2.1 ⟨W', hb⟩, g.2.2.1 ⟨W', hb⟩, g.2.2.2.1 ⟨W', hb⟩, g.2.2.2.2.1 ⟨W', hb⟩, g.2.2.2.2.2 ⟨W', hb⟩⟩
end Go.Proofs.YtenjbgpndkodmabGreatDoor
namespace Go.Proofs.YtenjbgpndkodmabGreatDoor
set_option linter.unusedVariables false
set_option linter.unusedSimpArgs false
open Go.RowKit

set_option maxHeartbeats 1000000 in
theorem Stamp_no (t : Int) (w : World) (h : ¬ (0 ≤ t ∧ t ≤ 253402300799)) :
    Calls Tryz.prog 37 #[.int .i64 t] w fun e w' => e = .returned (.string ⟨#[]⟩) ∧ Below w.heap.size w w' := by
  go_enter Tryz.func37, Tryz.ntmps37
  go_wp2_with fail
  refine (CivilOf_no t _ h).mono ?_
  rintro e w1 ⟨rfl, hb1⟩
  have BW := below_then hb1 (below_a1 w1 (.cells #[.int .i64 0, .int .i64 0, .int .i64 0, .int .i64 0, .int .i64 0, .int .i64 0] 75))
  clear hb1 h
  go_wp2
  go_ret
  exact ⟨rfl, BW⟩
set_option maxHeartbeats 4000000 in
theorem Stamp_yes (t : Int) (y m d h i s : Nat) (w : World) (hT : MonTab w) (hv : vld y m d h i s) (ht : t = secs y m d h i s) :
    Calls Tryz.prog 37 #[.int .i64 t] w fun e w' => e = .returned (.string (stampB y m d h i s)) ∧ Below w.heap.size w w' := by
  have HH := hideB2 (CivilOf_yes t y m d h i s w hT hv ht)
  have hb := secs_bd hv
  rw [← ht] at hb
  obtain ⟨ht0, ht1⟩ := hb
  have hdm := dim_bd y m
  obtain ⟨v1, v2, v3, v4, v5, v6, v7, v8, v9, v10, v11, v12⟩ := hv
  have hsz := digB_size
  have hcz := clockB_size h i s
  have hmz := monB_size (k := m) (by omega) (by omega)
  have hwd := wdN_lt t
  have hdz := dayS_size hwd
  have hbz := bday_size d
  have hDz := dayB_size hwd
  have hD1 : ((dayB (wdN t)).size : Int) ≤ 9 := by omega
  clear ht hDz
  go_enter Tryz.func37, Tryz.ntmps37
  go_wp2_with fail
  refine HH.out.mono ?_
  rintro e w1 ⟨rfl, hb1⟩
  have BW := below_then hb1 (below_a1 w1 (.cells #[.int .i64 y, .int .i64 m, .int .i64 d, .int .i64 h, .int .i64 i, .int .i64 s] 75))
  have hT1 := hT.below BW
  have gc := civAt_new w1 y m d h i s 75
  clear hb1 hT HH
  go_wp2_with fail
  generalize w1.alloc (.cells #[.int .i64 y, .int .i64 m, .int .i64 d, .int .i64 h, .int .i64 i, .int .i64 s] 75) = W at *
  have hT := hT1
  obtain ⟨g0, g1, g2, g3, g4, g5⟩ := gc.grw
  clear gc hT1
  refine wp_region_grow ?_ ?_ ?_
  · kernel_rfl
  · kernel_rfl
  · intro hne
    repeat (go_big_quiet_step (first
      | (go_at_call 67; exact grow_call (digits_at _ _ _ (by omega) (by omega) (by omega)))))
    refine wpQuiet_nil ?_
    rintro _ ⟨V, rfl⟩
    have hb := below_then BW (grw_below W V)
    clear g0 g1 g2 g3 g4 g5 hT
    go_wp2
    go_ret
    exact ⟨rfl, hb⟩
end Go.Proofs.YtenjbgpndkodmabGreatDoor
namespace Go.Proofs.YtenjbgpndkodmabGreatDoor
set_option linter.unusedVariables false
set_option linter.unusedSimpArgs false
open Go.RowKit

theorem vldB_no {y m d h i s : Int} (hn : ¬ vld y m d h i s) : vldB y m d h i s = false := Bool.eq_false_iff.2 fun hh => hn (vldB_iff.1 hh)
set_option maxHeartbeats 8000000 in
theorem sCivilOk_any (y m d h i s : Int) (w : World) :
    Calls Tryz.prog 139 #[civ y m d h i s] w fun e w' => e = .returned (.bool (vldB y m d h i s)) ∧ Below w.heap.size w w' := by
  have HB := fun o n => below_drewN ((Below.refl w.heap.size w).alloc (Nat.le_refl _) o) n
  go_enter Tryz.func139, Tryz.ntmps139
  go_wp2
  refine wp_region_quiet_lit ?_ ?_ ?_
  · kernel_rfl
  · kernel_rfl
  · repeat (go_big_quiet_step (fail))
    cases c0 : decide (1970 ≤ y)
    · repeat (go_big_quiet_step (fail))
      refine wpQuiet_nil ?_
      rintro _ ⟨nq, rfl⟩
      go_wp2
      go_ret
      exact ⟨ret_bool (vldB_no fun hv => by have := of_decide_eq_false c0; unfold vld at hv; omega), HB _ _⟩
    · repeat (go_big_quiet_step (fail))
      cases c1 : decide (y ≤ 9999)
      · repeat (go_big_quiet_step (fail))
        refine wpQuiet_nil ?_
        rintro _ ⟨nq, rfl⟩
        go_wp2
        go_ret
        exact ⟨ret_bool (vldB_no fun hv => by have := of_decide_eq_false c1; unfold vld at hv; omega), HB _ _⟩
      · repeat (go_big_quiet_step (fail))
        cases c2 : decide (1 ≤ m)
        · repeat (go_big_quiet_step (fail))
          refine wpQuiet_nil ?_
          rintro _ ⟨nq, rfl⟩
          go_wp2
          go_ret
          exact ⟨ret_bool (vldB_no fun hv => by have := of_decide_eq_false c2; unfold vld at hv; omega), HB _ _⟩
        · repeat (go_big_quiet_step (fail))
          cases c3 : decide (m ≤ 12)
          · repeat (go_big_quiet_step (fail))
            refine wpQuiet_nil ?_
            rintro _ ⟨nq, rfl⟩
            go_wp2
            go_ret
            exact ⟨ret_bool (vldB_no fun hv => by have := of_decide_eq_false c3; unfold vld at hv; omega), HB _ _⟩
          · repeat (go_big_quiet_step (fail))
            cases c4 : decide (1 ≤ d)
            · repeat (go_big_quiet_step (fail))
              refine wpQuiet_nil ?_
              rintro _ ⟨nq, rfl⟩
              go_wp2
              go_ret
              exact ⟨ret_bool (vldB_no fun hv => by have := of_decide_eq_false c4; unfold vld at hv; omega), HB _ _⟩
            · repeat (go_big_quiet_step ((go_at_call 133; exact Calls.quiet_of_same (l2days_any _ _ _ (by have := of_decide_eq_true c0; omega) (by have := of_decide_eq_true c1; omega)))))
              cases c5 : decide (d ≤ dim y m)
              · repeat (go_big_quiet_step (fail))
                refine wpQuiet_nil ?_
                rintro _ ⟨nq, rfl⟩
                go_wp2
                go_ret
                exact ⟨ret_bool (vldB_no fun hv => by have := of_decide_eq_false c5; unfold vld at hv; omega), HB _ _⟩
              · repeat (go_big_quiet_step (fail))
                cases c6 : decide (0 ≤ h)
                · repeat (go_big_quiet_step (fail))
                  refine wpQuiet_nil ?_
                  rintro _ ⟨nq, rfl⟩
                  go_wp2
                  go_ret
                  exact ⟨ret_bool (vldB_no fun hv => by have := of_decide_eq_false c6; unfold vld at hv; omega), HB _ _⟩
                · repeat (go_big_quiet_step (fail))
                  cases c7 : decide (h ≤ 23)
                  · repeat (go_big_quiet_step (fail))
                    refine wpQuiet_nil ?_
                    rintro _ ⟨nq, rfl⟩
                    go_wp2
                    go_ret
                    exact ⟨ret_bool (vldB_no fun hv => by have := of_decide_eq_false c7; unfold vld at hv; omega), HB _ _⟩
                  · repeat (go_big_quiet_step (fail))
                    cases c8 : decide (0 ≤ i)
                    · repeat (go_big_quiet_step (fail))
                      refine wpQuiet_nil ?_
                      rintro _ ⟨nq, rfl⟩
                      go_wp2
                      go_ret
                      exact ⟨ret_bool (vldB_no fun hv => by have := of_decide_eq_false c8; unfold vld at hv; omega), HB _ _⟩
                    · repeat (go_big_quiet_step (fail))
                      cases c9 : decide (i ≤ 59)
                      · repeat (go_big_quiet_step (fail))
                        refine wpQuiet_nil ?_
                        rintro _ ⟨nq, rfl⟩
                        go_wp2
                        go_ret
                        exact ⟨ret_bool (vldB_no fun hv => by have := of_decide_eq_false c9; unfold vld at hv; omega), HB _ _⟩
                      · repeat (go_big_quiet_step (fail))
                        cases c10 : decide (0 ≤ s)
                        · repeat (go_big_quiet_step (fail))
                          refine wpQuiet_nil ?_
                          rintro _ ⟨nq, rfl⟩
                          go_wp2
                          go_ret
                          exact ⟨ret_bool (vldB_no fun hv => by have := of_decide_eq_false c10; unfold vld at hv; omega), HB _ _⟩
                        · repeat (go_big_quiet_step (fail))
                          cases c11 : decide (s ≤ 59)
                          · repeat (go_big_quiet_step (fail))
                            refine wpQuiet_nil ?_
                            rintro _ ⟨nq, rfl⟩
                            go_wp2
                            go_ret
                            exact ⟨ret_bool (vldB_no fun hv => by have := of_decide_eq_false c11; unfold vld at hv; omega), HB _ _⟩
                          · repeat (go_big_quiet_step (fail))
                            refine wpQuiet_nil ?_
                            rintro _ ⟨nq, rfl⟩
                            go_wp2
                            go_ret
                            exact ⟨ret_bool (vldB_iff.2 ⟨of_decide_eq_true c0, of_decide_eq_true c1, of_decide_eq_true c2, of_decide_eq_true c3, of_decide_eq_true c4, of_decide_eq_true c5, of_decide_eq_true c6, of_decide_eq_true c7, of_decide_eq_true c8, of_decide_eq_true c9, of_decide_eq_true c10, of_decide_eq_true c11⟩), HB _ _⟩
end Go.Proofs.YtenjbgpndkodmabGreatDoor
namespace Go.Proofs.YtenjbgpndkodmabGreatDoor
set_option linter.unusedVariables false
set_option linter.unusedSimpArgs false
open Go.RowKit

set_option maxHeartbeats 400000 in
theorem l2time_any (t : Int) (w : World) :
    Calls Tryz.prog 28 #[.int .i64 t] w fun e w' => e = .returned (.bool (timeB t)) ∧ w' = w := by
  by_cases h : 0 ≤ t
  · by_cases h' : t ≤ 253402300799
    · rw [show timeB t = true from timeB_iff.2 ⟨h, h'⟩]
      go_enter Tryz.func28, Tryz.ntmps28
      go_wp2
      go_ret
      exact ⟨rfl, rfl⟩
    · rw [show timeB t = false from timeB_no (by omega)]
      go_enter Tryz.func28, Tryz.ntmps28
      go_wp2
      go_ret
      exact ⟨rfl, rfl⟩
  · rw [show timeB t = false from timeB_no (by omega)]
    go_enter Tryz.func28, Tryz.ntmps28
    go_wp2
    go_ret
    exact ⟨rfl, rfl⟩
set_option maxHeartbeats 400000 in
theorem l2year_any (y : Int) (w : World) (h0 : 0 ≤ y) (h1 : y ≤ 10000) :
    Calls Tryz.prog 132 #[.int .i64 y] w fun e w' => e = .returned (.int .i64 (365 + lp y)) ∧ w' = w := by
  cases hl : leapB y
  · rw [lp_neg hl]
    go_enter Tryz.func132, Tryz.ntmps132
    go_wp2_with (go_at_call 157; refine (l2leap_any _ _ h0 h1).mono ?_; rintro e w' ⟨rfl, rfl⟩)
    go_ret
    exact ⟨rfl, rfl⟩
  · rw [lp_pos hl]
    go_enter Tryz.func132, Tryz.ntmps132
    go_wp2_with (go_at_call 157; refine (l2leap_any _ _ h0 h1).mono ?_; rintro e w' ⟨rfl, rfl⟩)
    go_ret
    exact ⟨rfl, rfl⟩
set_option maxHeartbeats 1000000 in
theorem sSecondsOf_no (y m d h i s : Int) (w : World) (hv : vldB y m d h i s = false) :
    Calls Tryz.prog 106 #[civ y m d h i s] w fun e w' => e = .returned (.tuple #[.int .i64 0, .bool false]) ∧ Below w.heap.size w w' := by
  go_enter Tryz.func106, Tryz.ntmps106
  go_wp2_with fail
  refine (sCivilOk_any y m d h i s _).mono ?_
  rintro e w1 ⟨rfl, hb1⟩
  have BW := below_then (below_a1 w _) hb1
  clear hb1
  go_wp2
  go_ret2
  exact ⟨rfl, BW⟩
set_option maxHeartbeats 2000000 in
theorem sSecondsOf_yes (y : Int) (m : Nat) (d h i s : Int) (w : World) (hv : vldB y m d h i s = true) :
    Calls Tryz.prog 106 #[civ y m d h i s] w fun e w' => e = .returned (.tuple #[.int .i64 (secs y m d h i s), .bool true]) ∧ Below w.heap.size w w' := by
  have hfin : Hid (secs y m d h i s = (((d - 1 + dby y + cum y m) * 24 + h) * 60 + i) * 60 + s) := by
    show _ = _
    unfold secs dnum; omega
  obtain ⟨v1, v2, v3, v4, v5, v6, v7, v8, v9, v10, v11, v12⟩ := vldB_iff.1 hv
  have hd := dby_bd v1 (by omega)
  have hdm := dim_bd y m
  go_enter Tryz.func106, Tryz.ntmps106
  go_wp2_with fail
  refine (sCivilOk_any y m d h i s _).mono ?_
  rintro e w1 ⟨rfl, hb1⟩
  have BW := below_then (below_a1 w _) hb1
  obtain ⟨hc1, hf1⟩ := bcell2 hb1
  have hc2 : ∀ o, w1.cell? ⟨w.heap.size, o, none⟩ = (w.alloc (.cells #[.int .i64 y, .int .i64 m, .int .i64 d, .int .i64 h, .int .i64 i, .int .i64 s] 75)).cell? ⟨w.heap.size, o, none⟩ := fun o => hc1 w.heap.size o (by simp)
  clear hb1 hf1 hc1
  go_wp2
  go_loop [4, 5] (fun dd kk => ∃ k : Int, 1970 ≤ k ∧ k ≤ y ∧ kk = .int .i64 k ∧ dd = .int .i64 (d - 1 + dby k)) (fun _ kk => (y - intOf kk).toNat)
  case atStart => exact ⟨1970, by omega, by omega, rfl, congrArg (Value.int .i64) (by rw [dby_1970]; omega)⟩
  case round =>
    obtain ⟨k, hk0, hk1, rfl, rfl⟩ := hrel
    have hkb := dby_bd hk0 (by omega)
    have hlp := lp_bd k
    by_cases hlt : k < y
    · have hs : Hid (dby (k + 1) = dby k + 365 + lp k) := dby_succ k
      go_wp2_with (go_at_call 132; refine (l2year_any _ _ (by omega) (by omega)).mono ?_; rintro e w' ⟨rfl, rfl⟩)
      go_round
      case rel => exact ⟨k + 1, by omega, by omega, rfl, congrArg (Value.int .i64) (by rw [hs.out]; omega)⟩
      case measure => simp [intOf]; omega
    · obtain rfl : k = y := by omega
      go_wp2
      go_loop [4, 6] (fun dd kk => ∃ j : Nat, 1 ≤ j ∧ j ≤ m ∧ kk = .int .i64 j ∧ dd = .int .i64 (d - 1 + dby k + cum k j)) (fun _ kk => m - (intOf kk).toNat)
      case atStart => exact ⟨1, by omega, by omega, rfl, congrArg (Value.int .i64) (by simp [cum])⟩
      case round =>
        obtain ⟨j, hj0, hj1, rfl, rfl⟩ := hrel
        have hcb := cum_bd k j
        have hdj := dim_bd k j
        by_cases hlt : j < m
        · have hs : Hid (cum k ((j : Int) + 1) = cum k j + dim k j) := cum_succ k j (by omega) (by omega)
          go_wp2_with (go_at_call 133; refine (l2days_any _ _ _ (by omega) (by omega)).mono ?_; rintro e w' ⟨rfl, rfl⟩)
          go_round
          case rel => exact ⟨j + 1, by omega, by omega, by go_num, congrArg (Value.int .i64) (by rw [show ((j + 1 : Nat) : Int) = (j : Int) + 1 by omega, hs.out]; omega)⟩
          case measure => simp [intOf]; omega
        · obtain rfl : j = m := by omega
          go_wp2
          go_ret2
          exact ⟨ret_ib2 (by rw [hfin.out]) rfl, BW⟩
set_option maxHeartbeats 1000000 in
theorem sCivilOf_no (t : Int) (w : World) (h : ¬ (0 ≤ t ∧ t ≤ 253402300799)) :
    Calls Tryz.prog 99 #[.int .i64 t] w fun e w' => e = .returned (.tuple #[civ 0 0 0 0 0 0, .bool false]) ∧ Below w.heap.size w w' := by
  have ht : timeB t = false := timeB_no h
  clear h
  go_enter Tryz.func99, Tryz.ntmps99
  go_wp2_with (go_at_call 28; refine (l2time_any _ _).mono ?_; rintro e w' ⟨rfl, rfl⟩)
  exact bodyPost_ret (v := .tuple #[civ 0 0 0 0 0 0, .bool false]) (by simp [results, Tryz.results99, go_sem]) rfl ⟨rfl, below_a1 _ _⟩
/-- The two blocks of spec.CivilOf, while it counts. -/
def cwd (w : World) (y m d h i s : Int) : World := (w.alloc (.cells #[.int .i64 0, .int .i64 0, .int .i64 0, .int .i64 0, .int .i64 0, .int .i64 0] 75)).alloc (.cells #[.int .i64 y, .int .i64 m, .int .i64 d, .int .i64 h, .int .i64 i, .int .i64 s] 75)
set_option maxHeartbeats 2000000 in
theorem sCivilOf_yes (t y : Int) (m : Nat) (d h i s : Int) (w : World) (hv : vld y m d h i s) (ht : t = secs y m d h i s) :
    Calls Tryz.prog 99 #[.int .i64 t] w fun e w' => e = .returned (.tuple #[civ y m d h i s, .bool true]) ∧ Below w.heap.size w w' := by
  have hb := secs_bd hv
  have hp := secs_parts hv
  rw [← ht] at hb hp
  have hT : timeB t = true := timeB_iff.2 hb
  have hy := fun k => year_iff hv k
  have hm := fun k => month_iff hv k
  obtain ⟨p1, p2, p3, p4, p5⟩ := hp
  have HC : Hid (t / 3600 % 24 = h ∧ t / 60 % 60 = i ∧ t % 60 = s) := ⟨p3, p4, p5⟩
  have HD : Hid (dnum y m d = dby y + cum y m + d - 1) := rfl
  have hlt := dnum_lt hv
  obtain ⟨v1, v2, v3, v4, v5, v6, _⟩ := hv
  rw [← p1] at hy hlt HD
  have hdb := dby_bd v1 (by omega)
  clear ht p2 p3 p4 p5
  have HY : Hid (∀ k, dby (k + 1) ≤ t / 86400 ↔ k < y) := hy
  have HM : Hid (∀ k, 1 ≤ k → k ≤ (m : Int) → (dim y k ≤ cum y m + d - 1 - cum y k ↔ k < m)) := hm
  clear hy hm p1
  go_enter Tryz.func99, Tryz.ntmps99
  go_wp2_with (go_at_call 28; refine (l2time_any _ _).mono ?_; rintro e w' ⟨rfl, rfl⟩)
  go_loopw [4] (fun dd wr => ∃ k : Int, 1970 ≤ k ∧ k ≤ y ∧ dd = .int .i64 (t / 86400 - dby k) ∧ wr = cwd w k 1 0 (t / 3600 % 24) (t / 60 % 60) (t % 60)) (fun _ wr => match wr.cell? ⟨w.heap.size + 1, 0, none⟩ with | some v => (y - intOf v).toNat | none => 0)
  case atStart => exact ⟨1970, by omega, by omega, congrArg (Value.int .i64) (by rw [dby_1970]; omega), rfl⟩
  case round =>
    obtain ⟨k, hk0, hk1, rfl, rfl⟩ := hrel
    have hkb := dby_bd hk0 (by omega)
    have hlp := lp_bd k
    have hs : Hid (dby (k + 1) = dby k + 365 + lp k) := dby_succ k
    unfold cwd
    by_cases hk : k < y
    · have hcond : 365 + lp k ≤ t / 86400 - dby k := by have := (HY.out k).2 hk; have := hs.out; omega
      go_wp2_with (go_at_call 132; refine (l2year_any _ _ (by omega) (by omega)).mono ?_; rintro e w' ⟨rfl, rfl⟩)
      go_roundw
      case rel => exact ⟨k + 1, by omega, by omega, congrArg (Value.int .i64) (by rw [hs.out]; omega), rfl⟩
      case measure => simp [intOf, cwd]; omega
    · obtain rfl : k = y := by omega
      have hcond : ¬ 365 + lp k ≤ t / 86400 - dby k := fun hh => absurd ((HY.out k).1 (by have := hs.out; omega)) (by omega)
      go_wp2_with (go_at_call 132; refine (l2year_any _ _ (by omega) (by omega)).mono ?_; rintro e w' ⟨rfl, rfl⟩)
      clear hcond
      go_loopw [4] (fun dd wr => ∃ j : Nat, 1 ≤ j ∧ j ≤ m ∧ dd = .int .i64 (t / 86400 - dby k - cum k j) ∧ wr = cwd w k j 0 (t / 3600 % 24) (t / 60 % 60) (t % 60)) (fun _ wr => match wr.cell? ⟨w.heap.size + 1, 1, none⟩ with | some v => m - (intOf v).toNat | none => 0)
      case atStart => exact ⟨1, by omega, by omega, congrArg (Value.int .i64) (by simp [cum]), rfl⟩
      case round =>
        obtain ⟨j, hj0, hj1, rfl, rfl⟩ := hrel
        have hcb := cum_bd k j
        have hdj := dim_bd k j
        have hiff : dim k j ≤ t / 86400 - dby k - cum k j ↔ j < m := by
          have := HM.out j (by omega) (by omega)
          have e := HD.out
          omega
        unfold cwd
        by_cases hj : j < m
        · have hs2 : Hid (cum k ((j : Int) + 1) = cum k j + dim k j) := cum_succ k j (by omega) (by omega)
          have hcond := hiff.2 hj
          clear hiff
          go_wp2_with (go_at_call 133; refine (l2days_any _ _ _ (by omega) (by omega)).mono ?_; rintro e w' ⟨rfl, rfl⟩)
          go_roundw
          case rel => exact ⟨j + 1, by omega, by omega, congrArg (Value.int .i64) (by rw [show ((j + 1 : Nat) : Int) = (j : Int) + 1 by omega, hs2.out]; omega), rfl⟩
          case measure => simp [intOf, cwd]; omega
        · obtain rfl : j = m := by omega
          have hcond : ¬ dim k j ≤ t / 86400 - dby k - cum k j := fun hh => hj (hiff.1 hh)
          clear hiff
          go_wp2_with (go_at_call 133; refine (l2days_any _ _ _ (by omega) (by omega)).mono ?_; rintro e w' ⟨rfl, rfl⟩)
          refine bodyPost_ret (v := .tuple #[civ k j (t / 86400 - dby k - cum k j + 1) (t / 3600 % 24) (t / 60 % 60) (t % 60), .bool true]) (by simp [results, Tryz.results99, go_sem]) rfl ⟨?_, below_a2 _ _ _⟩
          exact ret_civ rfl rfl (by have := HD.out; omega) HC.out.1 HC.out.2.1 HC.out.2.2 true
end Go.Proofs.YtenjbgpndkodmabGreatDoor
namespace Go.Proofs.YtenjbgpndkodmabGreatDoor
set_option linter.unusedVariables false
set_option linter.unusedSimpArgs false
open Go.RowKit

/-- What spec's l2pad has made, after j rounds. -/
def padB (n j : Nat) : ByteArray := ⟨(List.replicate j 48 ++ Lib.decDigits n).toArray⟩
theorem padB_zero (n : Nat) : padB n 0 = decB n := rfl
theorem padB_succ (n j : Nat) : padB n (j + 1) = ⟨#[48]⟩ ++ padB n j := by
  apply bytes_ext
  show _ = ((⟨#[48]⟩ : ByteArray) ++ padB n j).data.toList
  rw [ByteArray.data_append]
  simp [padB, List.replicate_succ]
theorem padB_size (n j : Nat) : (padB n j).size = j + (Lib.decDigits n).length := by
  show (List.replicate j 48 ++ Lib.decDigits n).toArray.size = _
  simp
theorem padB_end (n p j : Nat) (hp : 1 ≤ p) (hn : n < 10 ^ p) (hj : j = p - (Lib.decDigits n).length) : padB n j = digB n p := by
  obtain ⟨q, rfl⟩ : ∃ q, p = q + 1 := ⟨p - 1, by omega⟩
  have := padL_dec q n hn
  unfold padB digB
  rw [← this, hj]
  rfl
theorem digB_mod (y : Nat) : digB (y % 100) 2 = digB y 2 := by
  unfold digB
  congr 2
  simp only [digL]
  have e1 : y % 100 / 10 ^ 1 % 10 = y / 10 ^ 1 % 10 := by omega
  have e2 : y % 100 / 10 ^ 0 % 10 = y / 10 ^ 0 % 10 := by omega
  rw [e1, e2]
theorem bday_dec (d : Nat) (h : d < 10) : bday d = ⟨#[32]⟩ ++ decB d := by
  unfold bday
  rw [if_pos h, ← padB_zero, padB_end d 1 0 (by omega) (by omega) (by have := dec_len_le 0 d (by omega); have := List.length_pos_iff.2 (decDigits_ne_nil d); omega)]
theorem bday_two (d : Nat) (h : ¬ d < 10) : bday d = digB d 2 := by unfold bday; rw [if_neg h]
set_option maxHeartbeats 1000000 in
theorem l2pad_nat (n p : Nat) (w : World) (hp0 : 1 ≤ p) (hp : p ≤ 4) (hn : n < 10 ^ p) :
    Calls Tryz.prog 100 #[.int .i64 (n : Int), .int .i64 (p : Int)] w fun e w' => e = .returned (.string (digB n p)) ∧ Below w.heap.size w w' := by
  have hn' : n < 10000 := Nat.lt_of_lt_of_le hn (by have : 10 ^ p ≤ 10 ^ 4 := Nat.pow_le_pow_right (by decide) hp
                                                    simpa using this)
  have hlen : (Lib.decDigits n).length ≤ p := by
    obtain ⟨q, rfl⟩ : ∃ q, p = q + 1 := ⟨p - 1, by omega⟩
    exact dec_len_le q n hn
  have hfin := hideB2 (fun j => padB_end n p j hp0 hn)
  have HD := hideB2 (sDecText_nat n w (by omega))
  clear hn
  go_enter Tryz.func100, Tryz.ntmps100
  go_wp2_with fail
  refine HD.out.mono ?_
  rintro e w1 ⟨rfl, hb1⟩
  clear HD
  rw [← padB_zero]
  go_wp2
  go_loop [5] (fun ss => ∃ j : Nat, j + (Lib.decDigits n).length ≤ p ∧ ss = .string (padB n j)) (fun ss => match ss with | .string b => p - b.size | _ => 0)
  case atStart => exact ⟨0, by omega, rfl⟩
  case round =>
    obtain ⟨j, hj, rfl⟩ := hrel
    have hsz := padB_size n j
    by_cases hlt : j + (Lib.decDigits n).length < p
    · have hlt' : ((padB n j).size : Int) < (p : Int) := by omega
      have hup := hideB2 (padB_succ n j)
      have hsz2 := hideB2 (padB_size n (j + 1))
      have HS := hideB2 hsz
      have hb4 : (padB n j).size ≤ 4 := by omega
      clear hsz
      go_wp2
      go_round
      case rel => exact ⟨j + 1, by omega, by rw [hup.out]⟩
      case measure => rw [← hup.out]; show p - (padB n (j + 1)).size < p - (padB n j).size; rw [hsz2.out, HS.out]; omega
    · have hlt' : ¬ ((padB n j).size : Int) < (p : Int) := by omega
      clear hsz
      go_wp2
      go_ret
      exact ⟨ret_str (hfin.out j (by omega)).symm, hb1⟩
theorem l2pad_at (n : Nat) (p : Int) (w : World) (h0 : 1 ≤ p) (h1 : p ≤ 4) (hn : n < 10 ^ p.toNat) :
    Calls Tryz.prog 100 #[.int .i64 (n : Int), .int .i64 p] w fun e w' => e = .returned (.string (digB n p.toNat)) ∧ Below w.heap.size w w' := by
  obtain ⟨q, rfl⟩ := Int.eq_ofNat_of_zero_le (a := p) (by omega)
  exact l2pad_nat n q w (by omega) (by omega) (by simpa using hn)
set_option maxHeartbeats 1000000 in
theorem sStamp_no (t : Int) (w : World) (h : ¬ (0 ≤ t ∧ t ≤ 253402300799)) :
    Calls Tryz.prog 64 #[.int .i64 t] w fun e w' => e = .returned (.string ⟨#[]⟩) ∧ Below w.heap.size w w' := by
  go_enter Tryz.func64, Tryz.ntmps64
  go_wp2_with fail
  refine (sCivilOf_no t _ h).mono ?_
  rintro e w1 ⟨rfl, hb1⟩
  have BW := below_then hb1 (below_a1 w1 (.cells #[.int .i64 0, .int .i64 0, .int .i64 0, .int .i64 0, .int .i64 0, .int .i64 0] 75))
  clear hb1 h
  go_wp2
  go_ret
  exact ⟨rfl, BW⟩
set_option maxHeartbeats 4000000 in
theorem sStamp_yes (t : Int) (y m d h i s : Nat) (w : World) (hv : vld y m d h i s) (ht : t = secs y m d h i s) :
    Calls Tryz.prog 64 #[.int .i64 t] w fun e w' => e = .returned (.string (stampB y m d h i s)) ∧ Below w.heap.size w w' := by
  have HH := hideB2 (sCivilOf_yes t y m d h i s w hv ht)
  have hb := secs_bd hv
  rw [← ht] at hb
  obtain ⟨ht0, ht1⟩ := hb
  have hdm := dim_bd y m
  obtain ⟨v1, v2, v3, v4, v5, v6, v7, v8, v9, v10, v11, v12⟩ := hv
  have hsz := digB_size
  have hcz := clockB_size h i s
  have hmz := monB_size (k := m) (by omega) (by omega)
  have hwd := wdN_lt t
  have hdz : ((dayB (wdN t)).extract 0 3).size = 3 := dayS_size hwd
  have hbz := bday_size d
  have hDz := dayB_size hwd
  have hD1 : ((dayB (wdN t)).size : Int) ≤ 9 := by omega
  have hD2 : (6 : Int) ≤ ((dayB (wdN t)).size : Int) := by omega
  clear ht hDz
  go_enter Tryz.func64, Tryz.ntmps64
  go_wp2_with fail
  refine HH.out.mono ?_
  rintro e w1 ⟨rfl, hb1⟩
  have BW := below_then hb1 (below_a1 w1 (.cells #[.int .i64 y, .int .i64 m, .int .i64 d, .int .i64 h, .int .i64 i, .int .i64 s] 75))
  have gc := civAt_new w1 y m d h i s 75
  clear hb1 HH
  go_wp2_with fail
  generalize w1.alloc (.cells #[.int .i64 y, .int .i64 m, .int .i64 d, .int .i64 h, .int .i64 i, .int .i64 s] 75) = W at *
  obtain ⟨g0, g1, g2, g3, g4, g5⟩ := gc.grw
  clear gc
  refine wp_region_grow ?_ ?_ ?_
  · kernel_rfl
  · kernel_rfl
  · intro hne
    repeat (go_big_quiet_step (first
      | (go_at_call 100; exact grow_call (l2pad_at _ _ _ (by omega) (by omega) (by simp; omega)))))
    refine wpQuiet_nil ?_
    rintro _ ⟨V, rfl⟩
    have hb := below_then BW (grw_below W V)
    clear g0 g1 g2 g3 g4 g5
    go_wp2
    go_ret
    exact ⟨rfl, hb⟩
end Go.Proofs.YtenjbgpndkodmabGreatDoor
namespace Go.Proofs.YtenjbgpndkodmabGreatDoor
set_option linter.unusedVariables false
set_option linter.unusedSimpArgs false
open Go.RowKit

theorem dv_yes {b : UInt8} (h : dig8 b = true) : dv b = b.toNat - 48 := by unfold dv; rw [if_pos h]
theorem dv_no {b : UInt8} (h : dig8 b = false) : dv b = 0 := by unfold dv; rw [if_neg (by rw [h]; decide)]
set_option maxHeartbeats 1000000 in
theorem number_any (s : ByteArray) (w : World) (hs : s.size ≤ 8) :
    Calls Tryz.prog 144 #[.string s] w fun e w' => e = .returned (.int .i64 ((nval s : Nat) : Int)) ∧ w' = w := by
  go_enter Tryz.func144, Tryz.ntmps144
  go_wp2
  go_loop [3, 7] (fun n i => ∃ k : Nat, k ≤ s.size ∧ i = .int .i64 k ∧ n = .int .i64 ((valN (s.data.toList.take k) : Nat) : Int)) (fun _ i => s.size - (intOf i).toNat)
  case atStart => exact ⟨0, Nat.zero_le _, rfl, rfl⟩
  case round =>
    obtain ⟨k, hk, rfl, rfl⟩ := hrel
    have hvl : valN (s.data.toList.take k) < 100000000 := by
      have h1 := valN_lt (s.data.toList.take k)
      have h3 : 10 ^ (s.data.toList.take k).length ≤ 10 ^ 8 := Nat.pow_le_pow_right (by decide) (by simp; omega)
      have h4 : (10 : Nat) ^ 8 = 100000000 := by decide
      omega
    by_cases hlt : k < s.size
    · have hval : Hid (valN (s.data.toList.take (k + 1)) = valN (s.data.toList.take k) * 10 + dv (at8 s k)) := by
        show _ = _
        rw [allDig_take_succ s k hlt, valN_snoc]
      cases hg0 : dig8 (at8 s k)
      · have hg : digP (s[k].toNat : Int) = false := by rw [at8_eq s k hlt]; exact hg0
        have hdv := hideB2 (dv_no hg0)
        clear hg0
        generalize valN (s.data.toList.take k) = v at *
        go_wp2_with (go_at_call 112; refine (digitByte_any _ _).mono ?_; rintro e w' ⟨rfl, rfl⟩)
        go_round
        case rel => exact ⟨k + 1, by omega, by go_num, congrArg (Value.int .i64) (by rw [hval.out, hdv.out]; omega)⟩
        case measure => simp [intOf]; omega
      · have hg : digP (s[k].toNat : Int) = true := by rw [at8_eq s k hlt]; exact hg0
        have hb := (dig8_iff _).1 hg0
        have hdv : Hid (dv (at8 s k) = s[k].toNat - 48) := by show _ = _; rw [dv_yes hg0, at8_eq s k hlt]
        have hb1 : 48 ≤ s[k].toNat := by rw [at8_eq s k hlt]; exact hb.1
        have hb2 : s[k].toNat ≤ 57 := by rw [at8_eq s k hlt]; exact hb.2
        clear hg0 hb
        generalize valN (s.data.toList.take k) = v at *
        go_wp2_with (go_at_call 112; refine (digitByte_any _ _).mono ?_; rintro e w' ⟨rfl, rfl⟩)
        go_round
        case rel => exact ⟨k + 1, by omega, by go_num, congrArg (Value.int .i64) (by rw [hval.out, hdv.out]; omega)⟩
        case measure => simp [intOf]; omega
    · obtain rfl : k = s.size := by omega
      have ht : s.data.toList.take s.size = s.data.toList := List.take_of_length_le (by rw [len_data]; exact Nat.le_refl _)
      rw [ht]
      have hfin : Hid (((nval s : Nat) : Int) = ((valN s.data.toList : Nat) : Int)) := rfl
      clear ht hvl
      generalize valN s.data.toList = v at *
      go_wp2
      go_ret
      exact ⟨ret_int hfin.out, rfl⟩
end Go.Proofs.YtenjbgpndkodmabGreatDoor
namespace Go.Proofs.YtenjbgpndkodmabGreatDoor
set_option linter.unusedVariables false
set_option linter.unusedSimpArgs false
open Go.RowKit
theorem below_a4 (w : World) (o o' o'' p : Obj) : Below w.heap.size w ((((w.alloc o).alloc o').alloc o'').alloc p) := (below_a3 w o o' o'').alloc (by simp; omega) p
set_option maxHeartbeats 1000000 in
theorem stampParts_no (s : ByteArray) (w : World) (hs : s.size ≠ 14) :
    Calls Tryz.prog 111 #[.string s] w fun e w' => e = .returned (civ 0 0 0 0 0 0) ∧ Below w.heap.size w w' := by
  have hb : ((s.size : Int) != 14) = true := by rw [bne_iff_ne]; omega
  clear hs
  go_enter Tryz.func111, Tryz.ntmps111
  go_wp2
  exact bodyPost_ret (v := civ 0 0 0 0 0 0) (by simp [results, Tryz.results111, go_sem]) rfl ⟨rfl, below_a1 _ _⟩
set_option maxHeartbeats 4000000 in
theorem stampParts_yes (s : ByteArray) (w : World) (hs : s.size = 14) :
    Calls Tryz.prog 111 #[.string s] w fun e w' => e = .returned (civ (nval (s.extract 0 4)) (nval (s.extract 4 6)) (nval (s.extract 6 8)) (nval (s.extract 8 10)) (nval (s.extract 10 12)) (nval (s.extract 12 14))) ∧ Below w.heap.size w w' := by
  have e0 : (s.extract 0 4).size ≤ 8 := by rw [ext_size s 0 4 (by omega) (by omega)]; omega
  have e1 : (s.extract 4 6).size ≤ 8 := by rw [ext_size s 4 6 (by omega) (by omega)]; omega
  have e2 : (s.extract 6 8).size ≤ 8 := by rw [ext_size s 6 8 (by omega) (by omega)]; omega
  have e3 : (s.extract 8 10).size ≤ 8 := by rw [ext_size s 8 10 (by omega) (by omega)]; omega
  have e4 : (s.extract 10 12).size ≤ 8 := by rw [ext_size s 10 12 (by omega) (by omega)]; omega
  have e5 : (s.extract 12 14).size ≤ 8 := by rw [ext_size s 12 14 (by omega) (by omega)]; omega
  go_enter Tryz.func111, Tryz.ntmps111
  go_wp2
  go_region_with (go_at_call 144; refine (number_any _ _ (by assumption)).mono ?_; rintro e w' ⟨rfl, rfl⟩)
  all_goals
    go_wp2
    exact bodyPost_ret (v := civ (nval (s.extract 0 4)) (nval (s.extract 4 6)) (nval (s.extract 6 8)) (nval (s.extract 8 10)) (nval (s.extract 10 12)) (nval (s.extract 12 14))) (by simp [results, Tryz.results111, go_sem]) rfl ⟨rfl, (below_a1 _ _).drew⟩
end Go.Proofs.YtenjbgpndkodmabGreatDoor
namespace Go.Proofs.YtenjbgpndkodmabGreatDoor
set_option linter.unusedVariables false
set_option linter.unusedSimpArgs false
open Go.RowKit
/-- A text and a day and hour lie at the head of block b. -/
def WrtAt (W : World) (b : Nat) (a : ByteArray) (y m d h i s : Int) : Prop :=
  W.cell? ⟨b, 0, none⟩ = some (.string a) ∧ W.cell? ⟨b, 1, none⟩ = some (.int .i64 y) ∧ W.cell? ⟨b, 2, none⟩ = some (.int .i64 m) ∧ W.cell? ⟨b, 3, none⟩ = some (.int .i64 d) ∧ W.cell? ⟨b, 4, none⟩ = some (.int .i64 h) ∧ W.cell? ⟨b, 5, none⟩ = some (.int .i64 i) ∧ W.cell? ⟨b, 6, none⟩ = some (.int .i64 s)
theorem wrtAt_new (w : World) (a : ByteArray) (y m d h i s : Int) (T : TypeId) : WrtAt (w.alloc (.cells #[.string a, .int .i64 y, .int .i64 m, .int .i64 d, .int .i64 h, .int .i64 i, .int .i64 s] T)) w.heap.size a y m d h i s := by
  unfold WrtAt
  simp [go_sem]
theorem WrtAt.grw {W : World} {b : Nat} {a : ByteArray} {y m d h i s : Int} (k : WrtAt W b a y m d h i s) : (∀ V, (grw W V).cell? ⟨b, 0, none⟩ = some (.string a)) ∧ (∀ V, (grw W V).cell? ⟨b, 1, none⟩ = some (.int .i64 y)) ∧ (∀ V, (grw W V).cell? ⟨b, 2, none⟩ = some (.int .i64 m)) ∧ (∀ V, (grw W V).cell? ⟨b, 3, none⟩ = some (.int .i64 d)) ∧ (∀ V, (grw W V).cell? ⟨b, 4, none⟩ = some (.int .i64 h)) ∧ (∀ V, (grw W V).cell? ⟨b, 5, none⟩ = some (.int .i64 i)) ∧ (∀ V, (grw W V).cell? ⟨b, 6, none⟩ = some (.int .i64 s)) :=
  ⟨grw_some k.1, grw_some k.2.1, grw_some k.2.2.1, grw_some k.2.2.2.1, grw_some k.2.2.2.2.1, grw_some k.2.2.2.2.2.1, grw_some k.2.2.2.2.2.2⟩
set_option maxHeartbeats 2000000 in
theorem timeWrittenStamp_no (a : ByteArray) (y m d h i s : Int) (w : World) (hM : MonTab w) (hv : vldB y m d h i s = false) :
    Calls Tryz.prog 110 #[.string a, civ y m d h i s, .func (.func 37) #[] #[]] w fun e w' => e = .returned (.tuple #[.int .i64 0, .bool false]) ∧ Below w.heap.size w w' := by
  have HH := hideB2 (fun o => SecondsOf_no y m d h i s (w.alloc o) (hM.alloc o) hv)
  clear hM hv
  go_enter Tryz.func110, Tryz.ntmps110
  go_wp2_with fail
  refine (HH.out _).mono ?_
  rintro e w1 ⟨rfl, hb1⟩
  have BW := below_then (below_a1 w _) hb1
  clear hb1 HH
  go_wp2
  go_ret2
  exact ⟨rfl, BW⟩
set_option maxHeartbeats 4000000 in
theorem timeWrittenStamp_yes (a x : ByteArray) (y m d h i s : Nat) (t : Int) (w : World) (hM : MonTab w) (hv : vld y m d h i s) (ht : t = secs y m d h i s)
    (hf : ∀ W, Below w.heap.size w W → Calls Tryz.prog 37 #[.int .i64 t] W fun e w' => e = .returned (.string x) ∧ Below W.heap.size W w') :
    Calls Tryz.prog 110 #[.string a, civ y m d h i s, .func (.func 37) #[] #[]] w fun e w' => e = .returned (.tuple #[.int .i64 (rdT a x t), .bool (eqB a x)]) ∧ Below w.heap.size w w' := by
  have HH := hideB2 (fun o => SecondsOf_yes y m d h i s (w.alloc o) (hM.alloc o) (vldB_iff.2 hv))
  have HC := hideB2 (fun W hW => CivilOf_yes t y m d h i s W hW hv ht)
  have HF := hideB2 hf
  rw [← ht] at HH
  clear hf hv ht
  go_enter Tryz.func110, Tryz.ntmps110
  go_wp2_with fail
  refine (HH.out _).mono ?_
  rintro e w1 ⟨rfl, hb1⟩
  have BW := below_then (below_a1 w _) hb1
  have gc := (civAt_new w y m d h i s 75).below hb1
  have hM1 := hM.below BW
  clear hb1 HH hM
  go_wp2_with fail
  refine (HC.out _ hM1).mono ?_
  rintro e w2 ⟨rfl, hb2⟩
  have gc2 := gc.below hb2
  have BW2 := below_then BW hb2
  clear gc BW hb2 hM1 HC
  have hz : w.heap.size < w2.heap.size := World.block_lt_of_cell? _ _ gc2.1
  have gc3 := fun o => gc2.below (below_a1 w2 o)
  have c0 := fun o => (gc3 o).1
  have c1 := fun o => (gc3 o).2.1
  have c2 := fun o => (gc3 o).2.2.1
  have c3 := fun o => (gc3 o).2.2.2.1
  have c4 := fun o => (gc3 o).2.2.2.2.1
  have c5 := fun o => (gc3 o).2.2.2.2.2
  clear gc2 gc3
  go_wp2_with fail
  have hA := below_a2 w2 (.cells #[.int .i64 y, .int .i64 m, .int .i64 d, .int .i64 h, .int .i64 i, .int .i64 s] 75) (.cells #[.string a, .int .i64 y, .int .i64 m, .int .i64 d, .int .i64 h, .int .i64 i, .int .i64 s] 126)
  have k1 := civAt_new w2 y m d h i s 75 |>.below (below_a1 _ (.cells #[.string a, .int .i64 y, .int .i64 m, .int .i64 d, .int .i64 h, .int .i64 i, .int .i64 s] 126))
  have k2 := wrtAt_new (w2.alloc (.cells #[.int .i64 y, .int .i64 m, .int .i64 d, .int .i64 h, .int .i64 i, .int .i64 s] 75)) a y m d h i s 126
  rw [show (w2.alloc (.cells #[.int .i64 y, .int .i64 m, .int .i64 d, .int .i64 h, .int .i64 i, .int .i64 s] 75)).heap.size = w2.heap.size + 1 by simp] at k2
  clear c0 c1 c2 c3 c4 c5
  generalize (w2.alloc (.cells #[.int .i64 y, .int .i64 m, .int .i64 d, .int .i64 h, .int .i64 i, .int .i64 s] 75)).alloc (.cells #[.string a, .int .i64 y, .int .i64 m, .int .i64 d, .int .i64 h, .int .i64 i, .int .i64 s] 126) = W at *
  have BW3 := below_then BW2 hA
  obtain ⟨g0, g1, g2, g3, g4, g5⟩ := k1.grw
  obtain ⟨q0, q1, q2, q3, q4, q5, q6⟩ := k2.grw
  clear k1 k2 BW2 hA hz
  cases he : eqB a x
  · have HE : Hid (rdT a x t = 0 ∧ eqB a x = false) := ⟨by unfold rdT; rw [he]; rfl, he⟩
    unfold eqB at he
    refine wp_region_grow ?_ ?_ ?_
    · kernel_rfl
    · kernel_rfl
    · intro hne
      repeat (go_big_quiet_step ((exact grow_call (HF.out _ (below_then BW3 (grw_below W _))))))
      refine wpQuiet_nil ?_
      rintro _ ⟨V, rfl⟩
      have hb := below_then BW3 (grw_below W V)
      clear g0 g1 g2 g3 g4 g5 q0 q1 q2 q3 q4 q5 q6 HF
      go_wp2
      go_ret2
      exact ⟨ret_ib2 HE.out.1 HE.out.2, hb⟩
  · have HE : Hid (rdT a x t = t ∧ eqB a x = true) := ⟨by unfold rdT; rw [he]; rfl, he⟩
    unfold eqB at he
    refine wp_region_grow ?_ ?_ ?_
    · kernel_rfl
    · kernel_rfl
    · intro hne
      repeat (go_big_quiet_step ((exact grow_call (HF.out _ (below_then BW3 (grw_below W _))))))
      refine wpQuiet_nil ?_
      rintro _ ⟨V, rfl⟩
      have hb := below_then BW3 (grw_below W V)
      clear g0 g1 g2 g3 g4 g5 q0 q1 q2 q3 q4 q5 q6 HF
      go_wp2
      go_ret2
      exact ⟨ret_ib2 HE.out.1 HE.out.2, hb⟩
end Go.Proofs.YtenjbgpndkodmabGreatDoor
namespace Go.Proofs.YtenjbgpndkodmabGreatDoor
set_option linter.unusedVariables false
set_option linter.unusedSimpArgs false
open Go.RowKit
set_option maxHeartbeats 1000000 in
theorem ReadStamp_at (a : ByteArray) (Y M D H I S t : Int) (b : Bool) (w : World) (hM : MonTab w)
    (hp : ∀ w, Calls Tryz.prog 111 #[.string a] w fun e w' => e = .returned (civ Y M D H I S) ∧ Below w.heap.size w w')
    (ht : ∀ w, MonTab w → Calls Tryz.prog 110 #[.string a, civ Y M D H I S, .func (.func 37) #[] #[]] w fun e w' => e = .returned (.tuple #[.int .i64 t, .bool b]) ∧ Below w.heap.size w w') :
    Calls Tryz.prog 76 #[.string a] w fun e w' => e = .returned (.tuple #[.int .i64 t, .bool b]) ∧ Below w.heap.size w w' := by
  have HP := hideB2 hp
  have HT := hideB2 ht
  clear hp ht
  go_enter Tryz.func76, Tryz.ntmps76
  go_wp2_with fail
  refine (HP.out _).mono ?_
  rintro e w1 ⟨rfl, hb1⟩
  have hM1 := hM.below hb1
  go_wp2_with fail
  refine (HT.out _ hM1).mono ?_
  rintro e w2 ⟨rfl, hb2⟩
  have hb := below_then hb1 hb2
  clear hb1 hb2 hM hM1 HP HT
  go_wp2
  go_ret2
  exact ⟨rfl, hb⟩
theorem ReadStamp_ex (a : ByteArray) : ∃ t b, Res (IsF 9999 stampF a) t b ∧ ∀ w, MonTab w → Calls Tryz.prog 76 #[.string a] w fun e w' => e = .returned (.tuple #[.int .i64 t, .bool b]) ∧ Below w.heap.size w w' := by
  by_cases hsz : a.size = 14
  · have hr := stamp_reads a
    have hp := fun w => stampParts_yes a w hsz
    cases hv : vldB (nval (a.extract 0 4)) (nval (a.extract 4 6)) (nval (a.extract 6 8)) (nval (a.extract 8 10)) (nval (a.extract 10 12)) (nval (a.extract 12 14))
    · exact ⟨0, false, .inr ⟨rfl, rfl, hr.none_of hv⟩, fun w hM => ReadStamp_at a _ _ _ _ _ _ 0 false w hM hp (fun w hM => timeWrittenStamp_no a _ _ _ _ _ _ w hM hv)⟩
    · obtain ⟨y, m, d, h, i, s, e1, e2, e3, e4, e5, e6, v⟩ := nats_of hv
      rw [e1, e2, e3, e4, e5, e6] at hr
      have hp' : ∀ w, Calls Tryz.prog 111 #[.string a] w fun e w' => e = .returned (civ y m d h i s) ∧ Below w.heap.size w w' := by
        intro w
        have := hp w
        rw [e1, e2, e3, e4, e5, e6] at this
        exact this
      have ht := fun w (hM : MonTab w) => timeWrittenStamp_yes a (stampB y m d h i s) y m d h i s _ w hM v rfl (fun W hW => Stamp_yes _ y m d h i s W (hM.below hW) v rfl)
      have hC := fun w hM => ReadStamp_at a _ _ _ _ _ _ _ _ w hM hp' ht
      cases he : eqB a (stampB y m d h i s)
      · refine ⟨0, false, .inr ⟨rfl, rfl, hr.none_ne fun hh => ?_⟩, fun w hM => ?_⟩
        · rw [hh] at he
          have := eqB_self (stampB y m d h i s)
          unfold stampF at he
          rw [this] at he
          cases he
        · have h' := hC w hM
          rw [he, show rdT a (stampB y m d h i s) (secs y m d h i s) = 0 by unfold rdT; rw [he]; rfl] at h'
          exact h'
      · refine ⟨secs y m d h i s, true, .inl ⟨rfl, y, m, d, h, i, s, v, by have := (vbd v).2.1; omega, rfl, eqB_iff.1 he⟩, fun w hM => ?_⟩
        have h' := hC w hM
        rw [he, show rdT a (stampB y m d h i s) (secs y m d h i s) = secs y m d h i s by unfold rdT; rw [he]; rfl] at h'
        exact h'
  · have hp := fun w => stampParts_no a w hsz
    exact ⟨0, false, .inr ⟨rfl, rfl, fun t ⟨y, m, d, h, i, s, _, _, _, ea⟩ => hsz (by rw [ea]; exact stamp_size _ _ _ _ _ _)⟩, fun w hM => ReadStamp_at a _ _ _ _ _ _ 0 false w hM hp (fun w hM => timeWrittenStamp_no a 0 0 0 0 0 0 w hM (by decide))⟩
end Go.Proofs.YtenjbgpndkodmabGreatDoor
namespace Go.Proofs.YtenjbgpndkodmabGreatDoor
set_option linter.unusedVariables false
set_option linter.unusedSimpArgs false
open Go.RowKit
end Go.Proofs.YtenjbgpndkodmabGreatDoor
namespace Go.Proofs.YtenjbgpndkodmabGreatDoor
set_option linter.unusedVariables false
set_option linter.unusedSimpArgs false
open Go.RowKit

theorem wd_eq : wdN' = wdN := rfl
theorem all_snoc (p : UInt8 → Bool) (l : List UInt8) (b : UInt8) : (l ++ [b]).all p = (l.all p && p b) := by rw [List.all_append]; simp
theorem nS_no {s : ByteArray} {k : Nat} (hk : k < s.size) (h : numb (at8 s k) = false) : nS s = -1 := by
  unfold nS numS
  rw [if_neg]
  intro hh
  rw [List.all_eq_true] at hh
  have hl : k < s.data.toList.length := by rw [len_data]; exact hk
  have := hh (s.data.toList[k]) (List.getElem_mem hl)
  have e : at8 s k = s.data.toList[k] := by simp [at8, List.getD, List.getElem?_eq_getElem hl]
  rw [e, this] at h
  cases h
theorem nS_yes {s : ByteArray} (h : s.data.toList.all numb = true) : nS s = ((valN s.data.toList : Nat) : Int) := by unfold nS numS; rw [if_pos h]
set_option maxHeartbeats 1000000 in
theorem l2num_any (s : ByteArray) (w : World) (hs : s.size ≤ 8) :
    Calls Tryz.prog 73 #[.string s] w fun e w' => e = .returned (.int .i64 (nS s)) ∧ w' = w := by
  go_enter Tryz.func73, Tryz.ntmps73
  go_wp2
  go_loop [3, 4] (fun n i => ∃ k : Nat, k ≤ s.size ∧ i = .int .i64 k ∧ n = .int .i64 ((valN (s.data.toList.take k) : Nat) : Int) ∧ (s.data.toList.take k).all numb = true) (fun _ i => s.size - (intOf i).toNat)
  case atStart => exact ⟨0, Nat.zero_le _, rfl, rfl, rfl⟩
  case round =>
    obtain ⟨k, hk, rfl, rfl, hall⟩ := hrel
    have Hall := hideB2 hall
    clear hall
    have hvl : valN (s.data.toList.take k) < 100000000 := by
      have h1 := valN_lt (s.data.toList.take k)
      have h3 : 10 ^ (s.data.toList.take k).length ≤ 10 ^ 8 := Nat.pow_le_pow_right (by decide) (by simp; omega)
      have h4 : (10 : Nat) ^ 8 = 100000000 := by decide
      omega
    by_cases hlt : k < s.size
    · have hval : Hid (valN (s.data.toList.take (k + 1)) = valN (s.data.toList.take k) * 10 + dv (at8 s k)) := by
        show _ = _
        rw [allDig_take_succ s k hlt, valN_snoc]
      have hal2 : Hid ((s.data.toList.take (k + 1)).all numb = numb (at8 s k)) := by
        show _ = _
        rw [allDig_take_succ s k hlt, all_snoc, Hall.out]; rfl
      by_cases hbl : at8 s k = 32
      · have hq : ((s[k].toNat : Int) == 32) = true := by rw [beq_iff_eq, at8_eq s k hlt, hbl]; rfl
        have hdv : Hid (dv (at8 s k) = 0) := by show _ = _; rw [hbl]; decide
        have hnb : Hid (numb (at8 s k) = true) := by show _ = _; rw [hbl]; decide
        clear hbl
        generalize valN (s.data.toList.take k) = v at *
        go_wp2
        go_round
        case rel => exact ⟨k + 1, by omega, by go_num, congrArg (Value.int .i64) (by rw [hval.out, hdv.out]; omega), by rw [hal2.out]; exact hnb.out⟩
        case measure => simp [intOf]; omega
      · have hq : ((s[k].toNat : Int) == 32) = false := by
          rw [beq_eq_false_iff_ne, at8_eq s k hlt]
          intro hh
          apply hbl
          apply UInt8.toNat_inj.1
          show (at8 s k).toNat = 32
          omega
        cases hg0 : dig8 (at8 s k)
        · have hg : digP (s[k].toNat : Int) = false := by rw [at8_eq s k hlt]; exact hg0
          have hfin : Hid (nS s = -1) := nS_no hlt (by unfold numb; rw [hg0]; simp [hbl])
          clear hg0 hbl
          generalize valN (s.data.toList.take k) = v at *
          go_wp2_with (go_at_call 74; refine (l1digit_any _ _).mono ?_; rintro e w' ⟨rfl, rfl⟩)
          go_ret
          exact ⟨ret_int hfin.out, rfl⟩
        · have hg : digP (s[k].toNat : Int) = true := by rw [at8_eq s k hlt]; exact hg0
          have hb := (dig8_iff _).1 hg0
          have hdv : Hid (dv (at8 s k) = s[k].toNat - 48) := by show _ = _; unfold dv; rw [if_pos hg0, at8_eq s k hlt]
          have hnb : Hid (numb (at8 s k) = true) := by show _ = _; unfold numb; rw [hg0]; simp
          have hb1 : 48 ≤ s[k].toNat := by rw [at8_eq s k hlt]; exact hb.1
          have hb2 : s[k].toNat ≤ 57 := by rw [at8_eq s k hlt]; exact hb.2
          clear hg0 hb hbl
          generalize valN (s.data.toList.take k) = v at *
          go_wp2_with (go_at_call 74; refine (l1digit_any _ _).mono ?_; rintro e w' ⟨rfl, rfl⟩)
          go_round
          case rel => exact ⟨k + 1, by omega, by go_num, congrArg (Value.int .i64) (by rw [hval.out, hdv.out]; omega), by rw [hal2.out]; exact hnb.out⟩
          case measure => simp [intOf]; omega
    · obtain rfl : k = s.size := by omega
      have ht : s.data.toList.take s.size = s.data.toList := List.take_of_length_le (by rw [len_data]; exact Nat.le_refl _)
      rw [ht] at Hall ⊢
      have hfin := hideB2 (nS_yes Hall.out)
      clear ht hvl
      generalize valN s.data.toList = v at *
      go_wp2
      go_ret
      exact ⟨ret_int hfin.out, rfl⟩
set_option maxHeartbeats 4000000 in
theorem l2at_no (y m d : Int) (c : ByteArray) (w : World) (hc : c.size = 8) (hv : vldB y m d (nS (c.extract 0 2)) (nS (c.extract 3 5)) (nS (c.extract 6 8)) = false) :
    Calls Tryz.prog 72 #[.int .i64 y, .int .i64 m, .int .i64 d, .string c] w fun e w' => e = .returned (.int .i64 (-1)) ∧ Below w.heap.size w w' := by
  have e0 : (c.extract 0 2).size ≤ 8 := by rw [ext_size c 0 2 (by omega) (by omega)]; omega
  have e1 : (c.extract 3 5).size ≤ 8 := by rw [ext_size c 3 5 (by omega) (by omega)]; omega
  have e2 : (c.extract 6 8).size ≤ 8 := by rw [ext_size c 6 8 (by omega) (by omega)]; omega
  have HS := hideB2 (fun w => sSecondsOf_no y m d (nS (c.extract 0 2)) (nS (c.extract 3 5)) (nS (c.extract 6 8)) w hv)
  clear hv
  go_enter Tryz.func72, Tryz.ntmps72
  go_wp2
  refine wp_region_grow ?_ ?_ ?_
  · kernel_rfl
  · kernel_rfl
  · intro hne
    repeat (go_big_quiet_step (first
      | (go_at_call 73; exact grow_same (l2num_any _ _ (by assumption)))
      | (go_at_call 106; exact grow_call (HS.out _))))
    refine wpQuiet_nil ?_
    rintro _ ⟨V, rfl⟩
    have hb := grw_below w V
    clear HS
    go_wp2
    go_ret
    exact ⟨rfl, hb⟩
set_option maxHeartbeats 4000000 in
theorem l2at_yes (y : Int) (m : Nat) (d h i s : Int) (c : ByteArray) (w : World) (hc : c.size = 8) (h0 : nS (c.extract 0 2) = h) (h1 : nS (c.extract 3 5) = i) (h2 : nS (c.extract 6 8) = s) (hv : vldB y m d h i s = true) :
    Calls Tryz.prog 72 #[.int .i64 y, .int .i64 (m : Int), .int .i64 d, .string c] w fun e w' => e = .returned (.int .i64 (secs y m d h i s)) ∧ Below w.heap.size w w' := by
  subst h0 h1 h2
  have e0 : (c.extract 0 2).size ≤ 8 := by rw [ext_size c 0 2 (by omega) (by omega)]; omega
  have e1 : (c.extract 3 5).size ≤ 8 := by rw [ext_size c 3 5 (by omega) (by omega)]; omega
  have e2 : (c.extract 6 8).size ≤ 8 := by rw [ext_size c 6 8 (by omega) (by omega)]; omega
  have HS := hideB2 (fun w => sSecondsOf_yes y m d (nS (c.extract 0 2)) (nS (c.extract 3 5)) (nS (c.extract 6 8)) w hv)
  clear hv
  go_enter Tryz.func72, Tryz.ntmps72
  go_wp2
  refine wp_region_grow ?_ ?_ ?_
  · kernel_rfl
  · kernel_rfl
  · intro hne
    repeat (go_big_quiet_step (first
      | (go_at_call 73; exact grow_same (l2num_any _ _ (by assumption)))
      | (go_at_call 106; exact grow_call (HS.out _))))
    refine wpQuiet_nil ?_
    rintro _ ⟨V, rfl⟩
    have hb := grw_below w V
    clear HS
    go_wp2
    go_ret
    exact ⟨rfl, hb⟩
end Go.Proofs.YtenjbgpndkodmabGreatDoor
namespace Go.Proofs.YtenjbgpndkodmabGreatDoor
set_option linter.unusedVariables false
set_option linter.unusedSimpArgs false
open Go.RowKit
/-- The walk of spec.ReadStamp, once it is known what its parts make. -/
theorem sReadStamp_at (a x : ByteArray) (t : Int) (w : World) (hsz : a.size = 14) (hxs : x.size ≤ 100)
    (hat : ∀ w, Calls Tryz.prog 72 #[.int .i64 (nS (a.extract 0 4)), .int .i64 (nS (a.extract 4 6)), .int .i64 (nS (a.extract 6 8)), .string (colons (a.extract 8 10) (a.extract 10 12) (a.extract 12 14))] w fun e w' => e = .returned (.int .i64 t) ∧ Below w.heap.size w w')
    (hwr : ∀ w, Calls Tryz.prog 64 #[.int .i64 t] w fun e w' => e = .returned (.string x) ∧ Below w.heap.size w w') :
    Calls Tryz.prog 43 #[.string a] w fun e w' => e = .returned (.tuple #[.int .i64 (rdT x a t), .bool (eqB x a)]) ∧ Below w.heap.size w w' := by
  have e0 : ((a.extract 0 4)).size ≤ 8 := by rw [ext_size a 0 4 (by omega) (by omega)]; omega
  have e1 : ((a.extract 4 6)).size ≤ 8 := by rw [ext_size a 4 6 (by omega) (by omega)]; omega
  have e2 : ((a.extract 6 8)).size ≤ 8 := by rw [ext_size a 6 8 (by omega) (by omega)]; omega
  have z1 : (a.extract 8 10).size = 2 := by rw [ext_size a 8 10 (by omega) (by omega)]
  have z2 : (a.extract 10 12).size = 2 := by rw [ext_size a 10 12 (by omega) (by omega)]
  have z3 : (a.extract 12 14).size = 2 := by rw [ext_size a 12 14 (by omega) (by omega)]
  obtain ⟨hcs, k1, k2, k3⟩ := colons_pos z1 z2 z3
  have zz : a.extract 8 10 ++ ⟨#[58]⟩ ++ a.extract 10 12 ++ ⟨#[58]⟩ ++ a.extract 12 14 = colons (a.extract 8 10) (a.extract 10 12) (a.extract 12 14) := rfl
  clear k1 k2 k3 hcs
  have HA := hideB2 hat
  have HW := hideB2 hwr
  clear hat hwr
  have hb : ((a.size : Int) != 14) = false := by rw [bne_eq_false_iff_eq]; omega
  go_enter Tryz.func43, Tryz.ntmps43
  go_wp2
  refine wp_region_grow ?_ ?_ ?_
  · kernel_rfl
  · kernel_rfl
  · intro hne
    repeat (go_big_quiet_step (first
      | (go_at_call 73; exact grow_same (l2num_any _ _ (by assumption)))
      | (go_at_call 72; exact grow_call (HA.out _))))
    refine wpQuiet_nil ?_
    rintro _ ⟨V, rfl⟩
    have hb2 := grw_below w V
    generalize grw w V = W at *
    clear HA
    go_wp2_with fail
    refine (HW.out _).mono ?_
    rintro e w2 ⟨rfl, hb3⟩
    have hb4 := below_then hb2 hb3
    clear hb2 hb3 HW
    cases he : eqB x a
    · have HE : Hid (rdT x a t = 0 ∧ eqB x a = false) := ⟨by unfold rdT; rw [he]; rfl, he⟩
      unfold eqB at he
      go_wp2
      go_ret2
      exact ⟨ret_ib2 HE.out.1 HE.out.2, hb4⟩
    · have HE : Hid (rdT x a t = t ∧ eqB x a = true) := ⟨by unfold rdT; rw [he]; rfl, he⟩
      unfold eqB at he
      go_wp2
      go_ret2
      exact ⟨ret_ib2 HE.out.1 HE.out.2, hb4⟩
set_option maxHeartbeats 1000000 in
theorem sReadStamp_size (a : ByteArray) (w : World) (hsz : a.size ≠ 14) :
    Calls Tryz.prog 43 #[.string a] w fun e w' => e = .returned (.tuple #[.int .i64 0, .bool false]) ∧ Below w.heap.size w w' := by
  have hb : ((a.size : Int) != 14) = true := by rw [bne_iff_ne]; omega
  clear hsz
  go_enter Tryz.func43, Tryz.ntmps43
  go_wp2
  go_ret2
  exact ⟨rfl, Below.refl _ _⟩
theorem sReadStamp_ex (a : ByteArray) : ∃ t b, Res (IsF 9999 stampF a) t b ∧ ∀ w, Calls Tryz.prog 43 #[.string a] w fun e w' => e = .returned (.tuple #[.int .i64 t, .bool b]) ∧ Below w.heap.size w w' := by
  by_cases hsz : a.size = 14
  · have hr := stamp_readsS a
    have e0 : ((a.extract 0 4)).size ≤ 8 := by rw [ext_size a 0 4 (by omega) (by omega)]; omega
    have e1 : ((a.extract 4 6)).size ≤ 8 := by rw [ext_size a 4 6 (by omega) (by omega)]; omega
    have e2 : ((a.extract 6 8)).size ≤ 8 := by rw [ext_size a 6 8 (by omega) (by omega)]; omega
    have z1 : (a.extract 8 10).size = 2 := by rw [ext_size a 8 10 (by omega) (by omega)]
    have z2 : (a.extract 10 12).size = 2 := by rw [ext_size a 10 12 (by omega) (by omega)]
    have z3 : (a.extract 12 14).size = 2 := by rw [ext_size a 12 14 (by omega) (by omega)]
    obtain ⟨hcs, k1, k2, k3⟩ := colons_pos z1 z2 z3
    cases hv : vldB (nS (a.extract 0 4)) (nS (a.extract 4 6)) (nS (a.extract 6 8)) (nS (a.extract 8 10)) (nS (a.extract 10 12)) (nS (a.extract 12 14))
    · have hC := fun w => sReadStamp_at a ⟨#[]⟩ (-1) w hsz (by decide) (fun w => l2at_no _ _ _ _ w hcs (by rw [k1, k2, k3]; exact hv)) (fun w => sStamp_no (-1) w (by omega))
      have hne : eqB ⟨#[]⟩ a = false := Bool.eq_false_iff.2 fun hh => by
        have := congrArg ByteArray.size (eqB_iff.1 hh)
        rw [hsz] at this
        cases this
      refine ⟨0, false, .inr ⟨rfl, rfl, hr.none_of hv⟩, fun w => ?_⟩
      have h' := hC w
      rw [hne, show rdT ⟨#[]⟩ a (-1) = 0 by unfold rdT; rw [hne]; rfl] at h'
      exact h'
    · obtain ⟨y, m, d, h, i, s, e1, e2, e3, e4, e5, e6, v⟩ := nats_of hv
      have hat : ∀ w, Calls Tryz.prog 72 #[.int .i64 (nS (a.extract 0 4)), .int .i64 (nS (a.extract 4 6)), .int .i64 (nS (a.extract 6 8)), .string (colons (a.extract 8 10) (a.extract 10 12) (a.extract 12 14))] w fun e w' => e = .returned (.int .i64 (secs y m d h i s)) ∧ Below w.heap.size w w' := by
        intro w
        rw [e1, e2, e3]
        exact l2at_yes y m d h i s _ w hcs (by rw [k1]; exact e4) (by rw [k2]; exact e5) (by rw [k3]; exact e6) (vldB_iff.2 v)
      have hC := fun w => sReadStamp_at a (stampB y m d h i s) (secs y m d h i s) w hsz (by rw [stamp_size]; omega) hat (fun w => sStamp_yes _ y m d h i s w v rfl)
      rw [e1, e2, e3, e4, e5, e6] at hr
      cases he : eqB (stampB y m d h i s) a
      · refine ⟨0, false, .inr ⟨rfl, rfl, hr.none_ne fun hh => ?_⟩, fun w => ?_⟩
        · rw [hh] at he
          have := eqB_self (stampB y m d h i s)
          unfold stampF at he
          rw [this] at he
          cases he
        · have h' := hC w
          rw [he, show rdT (stampB y m d h i s) a (secs y m d h i s) = 0 by unfold rdT; rw [he]; rfl] at h'
          exact h'
      · refine ⟨secs y m d h i s, true, .inl ⟨rfl, y, m, d, h, i, s, v, by have := (vbd v).2.1; omega, rfl, (eqB_iff.1 he).symm⟩, fun w => ?_⟩
        have h' := hC w
        rw [he, show rdT (stampB y m d h i s) a (secs y m d h i s) = secs y m d h i s by unfold rdT; rw [he]; rfl] at h'
        exact h'
  · exact ⟨0, false, .inr ⟨rfl, rfl, fun t ⟨y, m, d, h, i, s, _, _, _, ea⟩ => hsz (by rw [ea]; exact stamp_size _ _ _ _ _ _)⟩, fun w => sReadStamp_size a w hsz⟩
end Go.Proofs.YtenjbgpndkodmabGreatDoor
namespace Go.Proofs.YtenjbgpndkodmabGreatDoor
set_option linter.unusedVariables false
set_option linter.unusedSimpArgs false
open Go.RowKit
theorem Stamp_all (t : Int) (w : World) (hT : MonTab w) :
    Calls Tryz.prog 37 #[.int .i64 t] w fun e w' => e = .returned (.string (stpT t)) ∧ Below w.heap.size w w' := by
  by_cases ht : 0 ≤ t ∧ t ≤ 253402300799
  · obtain ⟨y, m, d, h, i, s, hv, e, e2⟩ := stpT_ex ht
    rw [e2]
    exact Stamp_yes t y m d h i s w hT hv e
  · rw [stpT_no ht]
    exact Stamp_no t w ht
theorem sStamp_all (t : Int) (w : World) :
    Calls Tryz.prog 64 #[.int .i64 t] w fun e w' => e = .returned (.string (stpT t)) ∧ Below w.heap.size w w' := by
  by_cases ht : 0 ≤ t ∧ t ≤ 253402300799
  · obtain ⟨y, m, d, h, i, s, hv, e, e2⟩ := stpT_ex ht
    rw [e2]
    exact sStamp_yes t y m d h i s w hv e
  · rw [stpT_no ht]
    exact sStamp_no t w ht
theorem ReadStamp_all (a : ByteArray) (w : World) (hM : MonTab w) :
    Calls Tryz.prog 76 #[.string a] w fun e w' => e = .returned (.tuple #[.int .i64 (rsN a), .bool (rsO a)]) ∧ Below w.heap.size w w' := by
  obtain ⟨t, b, h1, h2⟩ := ReadStamp_ex a
  obtain ⟨rfl, rfl⟩ := rs_same h1
  exact h2 w hM
theorem sReadStamp_all (a : ByteArray) (w : World) :
    Calls Tryz.prog 43 #[.string a] w fun e w' => e = .returned (.tuple #[.int .i64 (rsN a), .bool (rsO a)]) ∧ Below w.heap.size w w' := by
  obtain ⟨t, b, h1, h2⟩ := sReadStamp_ex a
  obtain ⟨rfl, rfl⟩ := rs_same h1
  exact h2 w
set_option maxRecDepth 100000 in
theorem sideWord_any (n : Int) (w : World) : Calls Tryz.prog 38 #[.int .i64 n] w fun e w' => e = .returned (.string (sdW n)) ∧ w' = w := by
  by_cases h : n = 1
  · rw [show sdW n = ⟨#[111]⟩ by unfold sdW; rw [if_pos h]]
    subst h
    go_enter Tryz.func38, Tryz.ntmps38
    go_wp2
    go_ret
    exact ⟨rfl, rfl⟩
  · rw [show sdW n = ⟨#[99]⟩ by unfold sdW; rw [if_neg h]]
    have hb : (n == 1) = false := by simpa using h
    go_enter Tryz.func38, Tryz.ntmps38
    go_wp2
    go_ret
    exact ⟨rfl, rfl⟩
set_option maxRecDepth 100000 in
theorem kindWord_any (b : Bool) (w : World) : Calls Tryz.prog 40 #[.bool b] w fun e w' => e = .returned (.string (rvW b)) ∧ w' = w := by
  cases b
  all_goals
    go_enter Tryz.func40, Tryz.ntmps40
    go_wp2
    go_ret
    exact ⟨rfl, rfl⟩
set_option maxRecDepth 100000 in
set_option maxHeartbeats 1000000 in
theorem l9method_any (s : ByteArray) (w : World) (hs : s.size ≤ maxLen) :
    Calls Tryz.prog 29 #[.string s] w fun e w' => e = .returned (.bool (methQ s)) ∧ w' = w := by
  have HT := hideB2 (fun W => sToken_any s W hs)
  unfold maxLen at hs
  have HM : Hid (methQ s = (tokB s && decide ((s.size : Int) ≤ 20))) := rfl
  generalize methQ s = m at *
  generalize tokB s = tk at *
  by_cases h : (s.size : Int) ≤ 20
  · have HR := hideB2 (show m = tk by rw [HM.out, decide_eq_true h, Bool.and_true])
    clear HM
    go_enter Tryz.func29, Tryz.ntmps29
    go_wp2_with (go_at_call 56; refine (HT.out _).mono ?_; rintro e w' ⟨rfl, rfl⟩)
    go_ret
    exact ⟨ret_bool HR.out, rfl⟩
  · have HR := hideB2 (show m = false by rw [HM.out, decide_eq_false h, Bool.and_false])
    clear HM
    go_enter Tryz.func29, Tryz.ntmps29
    go_wp2
    go_ret
    exact ⟨ret_bool HR.out, rfl⟩
end Go.Proofs.YtenjbgpndkodmabGreatDoor
namespace Go.Proofs.YtenjbgpndkodmabGreatDoor
set_option linter.unusedVariables false
set_option linter.unusedSimpArgs false
open Go.RowKit
theorem wpList_of_quiet {P : Program} {ops : Array Oper} {C : World → Prop} {Q : Exit → Act → World → Prop} : ∀ (l : List Oper) (a : Act) (w : World), C w → wpQuiet P ops C (fun a' => ∀ w', C w' → Q .normal a' w') l a → wpList P ops Q l a w
  | [], a, w, hw, h => h w hw
  | o :: l, a, w, hw, h => by
    unfold wpQuiet at h
    unfold wpList
    split
    · rename_i hd
      rw [if_pos hd] at h
      exact .inl (Oper.wp_of_quiet hw (fun a' w' hw' hh => wpList_of_quiet l a' w' hw' hh) h)
    · rename_i hd
      rw [if_neg hd] at h
      exact wpList_of_quiet l _ w hw h
theorem wp_quiet_from (d : Nat) {P : Program} {ops : Array Oper} {Q : Exit → Act → World → Prop} {o : Oper} {rest : List Oper} {a : Act} {w : World} (hd : o.dst = some d)
    (h : Nonempty (Gr w) → wpQuiet P ops (fun w' => ∃ V, w' = grw w V) (fun a' => ∀ w', (∃ V, w' = grw w V) → Q .normal a' w') (o :: rest) a) : wpList P ops Q (o :: rest) a w :=
  wpList_of_quiet (o :: rest) a w ⟨⟨w, Below.refl _ _⟩, rfl⟩ (h ⟨⟨w, Below.refl _ _⟩⟩)
theorem wp_quiet_here {P : Program} {ops : Array Oper} {Q : Exit → Act → World → Prop} {l : List Oper} {a : Act} {w : World}
    (h : Nonempty (Gr w) → wpQuiet P ops (fun w' => ∃ V, w' = grw w V) (fun a' => ∀ w', (∃ V, w' = grw w V) → Q .normal a' w') l a) : wpList P ops Q l a w :=
  wpList_of_quiet l a w ⟨⟨w, Below.refl _ _⟩, rfl⟩ (h ⟨⟨w, Below.refl _ _⟩⟩)
theorem quiet_pass {P : Program} {ops : Array Oper} {C : World → Prop} {Q : Act → Prop} {o : Oper} {rest : List Oper} {a : Act} (hw : Region.wanted o (yielded ops a.tmps) = false) (hp : a.put o.dst undef = a)
    (h : wpQuiet P ops C Q rest a) : wpQuiet P ops C Q (o :: rest) a := by
  unfold wpQuiet
  rw [hw, if_neg (by simp), hp]
  exact h
end Go.Proofs.YtenjbgpndkodmabGreatDoor
namespace Go.Proofs.YtenjbgpndkodmabGreatDoor
set_option linter.unusedVariables false
set_option linter.unusedSimpArgs false
open Go.RowKit
set_option maxRecDepth 100000 in
set_option maxHeartbeats 8000000 in
theorem LineOk_any (x : Lx) (w : World) (h1 : x.ke.size ≤ 1048576) (h2 : x.me.size ≤ 1048576) (h3 : x.la.size ≤ 1048576) (htab : Tab10 w) :
    Calls Tryz.prog 11 #[lxV x] w fun e w' => e = .returned (.bool (linQ x)) ∧ Below w.heap.size w w' := by
  have HU := hideB2 (fun W (h : Tab10 W) => Unsurt_any x.ke W h1 h)
  have HT := hideB2 htab
  clear htab
  obtain ⟨dl, hdl⟩ := rlV_rlO x.la
  have HL := hideB2 (fun W => ReadLabel_any x.la W (by unfold maxLen; omega))
  rw [hdl] at HL
  have HM := hideB2 (fun W => methodOk_any x.me W (by unfold maxLen; omega))
  have HQ : Hid (linQ x = (usO x.ke && (rlO x.la && (timeB x.ti && (withinB x.si 0 1 && (methQ x.me && (stQ x.st && (withinB x.se 0 39 && (withinB x.wh 0 60000 && withinB x.sz 0 60000))))))))) := rfl
  clear hdl h1 h2 h3
  have B1 := Blk.new w (lxC x) 26
  have HB := hideB2 (below_a1 w (.cells (lxC x) 26))
  generalize linQ x = r at *
  generalize usO x.ke = c1 at *
  generalize usU x.ke = U at *
  generalize rlO x.la = c2 at *
  generalize methQ x.me = c5 at *
  generalize hc3 : timeB x.ti = c3 at *
  generalize hc4 : withinB x.si 0 1 = c4 at *
  generalize hc6 : stQ x.st = c6 at *
  generalize hc7 : withinB x.se 0 39 = c7 at *
  generalize hc8 : withinB x.wh 0 60000 = c8 at *
  generalize hc9 : withinB x.sz 0 60000 = c9 at *
  obtain ⟨ho, pa, qu, po, hq⟩ := U
  obtain ⟨ke, ti, si, me, st, la, rv, se, wh, sz⟩ := x
  unfold lxV
  unfold lxC at *
  simp only at *
  go_enter Tryz.func11, Tryz.ntmps11
  go_wp2_with fail
  refine (HU.out _ (tab_later HT.out HB.out)).mono ?_
  rintro e1 w1 ⟨rfl, hb1⟩
  unfold valU
  simp only
  have B2 := B1.later hb1
  have HB2 := hideB2 (below_then HB.out hb1)
  clear hb1 B1 HB HU HT
  obtain ⟨p0, p1, p2, p3, p4, p5, p6, p7, p8, p9⟩ := (B2.alloc (.cells #[.string ho, .int .i64 po, .string pa, .string qu, .bool hq] 46)).c10
  have HB1 := hideB2 B2
  clear B2
  go_wp2_with fail
  refine (HL.out _).mono ?_
  rintro e2 w2 ⟨rfl, hb2⟩
  have B3 := (HB1.out.alloc (.cells #[.string ho, .int .i64 po, .string pa, .string qu, .bool hq] 46)).later hb2
  have HB3 := hideB2 (below_then (below_then HB2.out (below_a1 w1 (.cells #[.string ho, .int .i64 po, .string pa, .string qu, .bool hq] 46))) hb2)
  clear p0 p1 p2 p3 p4 p5 p6 p7 p8 p9 hb2 HB1 HB2 HL
  rename_i K1 hK1 K2 hK2
  refine hK2 _ _ ?_
  refine wp_quiet_here (fun hne0 => ?_)
  repeat (go_big_quiet_step (fail))
  refine wpQuiet_nil ?_
  rintro _ ⟨V0, rfl⟩
  refine hK1 _ _ ?_
  have B4 := B3.later (grw_below w2 V0)
  have HB4 := hideB2 (below_then HB3.out (grw_below w2 V0))
  clear B3 HB3 hK1 hK2
  generalize grw w2 V0 = w2 at *
  refine wp_seq_k ?_
  intro K3 hK3
  refine wp_region_lit ?_
  obtain ⟨p0, p1, p2, p3, p4, p5, p6, p7, p8, p9⟩ := B4.c10
  have a0 := fun V => grw_some p0 V
  have a1 := fun V => grw_some p1 V
  have a2 := fun V => grw_some p2 V
  have a3 := fun V => grw_some p3 V
  have a4 := fun V => grw_some p4 V
  have a5 := fun V => grw_some p5 V
  have a6 := fun V => grw_some p6 V
  have a7 := fun V => grw_some p7 V
  have a8 := fun V => grw_some p8 V
  have a9 := fun V => grw_some p9 V
  clear p0 p1 p2 p3 p4 p5 p6 p7 p8 p9 B4
  have HBV := hideB2 (fun V => below_then HB4.out (grw_below _ V))
  clear HB4
  refine wp_quiet_here (fun hne => ?_)
  cases c1
  · skip
    have HR := hideB2 (show r = false by rw [HQ.out]; rfl)
    clear HQ
    repeat (go_big_quiet_step (first
      | (go_at_call 32; exact grow_same (isTime_any _ _))
      | (go_at_call 33; exact grow_same (within_any _ _ _ _))
      | (go_at_call 34; exact grow_same (HM.out _))
      | (go_at_call 35; exact grow_same (statusOk_any _ _))))
    refine wpQuiet_nil ?_
    rintro _ ⟨V, rfl⟩
    have HB3 := hideB2 (HBV.out V)
    clear a0 a1 a2 a3 a4 a5 a6 a7 a8 a9 HBV
    refine hK3 _ _ ?_
    clear hK3
    generalize grw _ V = w3 at *
    go_wp2
    go_ret
    exact ⟨ret_bool HR.out, HB3.out⟩
  · skip
    cases c2
    · skip
      have HR := hideB2 (show r = false by rw [HQ.out]; rfl)
      clear HQ
      repeat (go_big_quiet_step (first
        | (go_at_call 32; exact grow_same (isTime_any _ _))
        | (go_at_call 33; exact grow_same (within_any _ _ _ _))
        | (go_at_call 34; exact grow_same (HM.out _))
        | (go_at_call 35; exact grow_same (statusOk_any _ _))))
      refine wpQuiet_nil ?_
      rintro _ ⟨V, rfl⟩
      have HB3 := hideB2 (HBV.out V)
      clear a0 a1 a2 a3 a4 a5 a6 a7 a8 a9 HBV
      refine hK3 _ _ ?_
      clear hK3
      generalize grw _ V = w3 at *
      go_wp2
      go_ret
      exact ⟨ret_bool HR.out, HB3.out⟩
    · skip
      cases c3
      · skip
        have HR := hideB2 (show r = false by rw [HQ.out]; rfl)
        clear HQ
        repeat (go_big_quiet_step (first
          | (go_at_call 32; exact grow_same (isTime_any _ _))
          | (go_at_call 33; exact grow_same (within_any _ _ _ _))
          | (go_at_call 34; exact grow_same (HM.out _))
          | (go_at_call 35; exact grow_same (statusOk_any _ _))))
        refine wpQuiet_nil ?_
        rintro _ ⟨V, rfl⟩
        have HB3 := hideB2 (HBV.out V)
        clear a0 a1 a2 a3 a4 a5 a6 a7 a8 a9 HBV
        refine hK3 _ _ ?_
        clear hK3
        generalize grw _ V = w3 at *
        go_wp2
        go_ret
        exact ⟨ret_bool HR.out, HB3.out⟩
      · skip
        cases c4
        · skip
          have HR := hideB2 (show r = false by rw [HQ.out]; rfl)
          clear HQ
          repeat (go_big_quiet_step (first
            | (go_at_call 32; exact grow_same (isTime_any _ _))
            | (go_at_call 33; exact grow_same (within_any _ _ _ _))
            | (go_at_call 34; exact grow_same (HM.out _))
            | (go_at_call 35; exact grow_same (statusOk_any _ _))))
          refine wpQuiet_nil ?_
          rintro _ ⟨V, rfl⟩
          have HB3 := hideB2 (HBV.out V)
          clear a0 a1 a2 a3 a4 a5 a6 a7 a8 a9 HBV
          refine hK3 _ _ ?_
          clear hK3
          generalize grw _ V = w3 at *
          go_wp2
          go_ret
          exact ⟨ret_bool HR.out, HB3.out⟩
        · skip
          cases c5
          · skip
            have HR := hideB2 (show r = false by rw [HQ.out]; rfl)
            clear HQ
            repeat (go_big_quiet_step (first
              | (go_at_call 32; exact grow_same (isTime_any _ _))
              | (go_at_call 33; exact grow_same (within_any _ _ _ _))
              | (go_at_call 34; exact grow_same (HM.out _))
              | (go_at_call 35; exact grow_same (statusOk_any _ _))))
            refine wpQuiet_nil ?_
            rintro _ ⟨V, rfl⟩
            have HB3 := hideB2 (HBV.out V)
            clear a0 a1 a2 a3 a4 a5 a6 a7 a8 a9 HBV
            refine hK3 _ _ ?_
            clear hK3
            generalize grw _ V = w3 at *
            go_wp2
            go_ret
            exact ⟨ret_bool HR.out, HB3.out⟩
          · skip
            cases c6
            · skip
              have HR := hideB2 (show r = false by rw [HQ.out]; rfl)
              clear HQ
              repeat (go_big_quiet_step (first
                | (go_at_call 32; exact grow_same (isTime_any _ _))
                | (go_at_call 33; exact grow_same (within_any _ _ _ _))
                | (go_at_call 34; exact grow_same (HM.out _))
                | (go_at_call 35; exact grow_same (statusOk_any _ _))))
              refine wpQuiet_nil ?_
              rintro _ ⟨V, rfl⟩
              have HB3 := hideB2 (HBV.out V)
              clear a0 a1 a2 a3 a4 a5 a6 a7 a8 a9 HBV
              refine hK3 _ _ ?_
              clear hK3
              generalize grw _ V = w3 at *
              go_wp2
              go_ret
              exact ⟨ret_bool HR.out, HB3.out⟩
            · skip
              cases c7
              · skip
                have HR := hideB2 (show r = false by rw [HQ.out]; rfl)
                clear HQ
                repeat (go_big_quiet_step (first
                  | (go_at_call 32; exact grow_same (isTime_any _ _))
                  | (go_at_call 33; exact grow_same (within_any _ _ _ _))
                  | (go_at_call 34; exact grow_same (HM.out _))
                  | (go_at_call 35; exact grow_same (statusOk_any _ _))))
                refine wpQuiet_nil ?_
                rintro _ ⟨V, rfl⟩
                have HB3 := hideB2 (HBV.out V)
                clear a0 a1 a2 a3 a4 a5 a6 a7 a8 a9 HBV
                refine hK3 _ _ ?_
                clear hK3
                generalize grw _ V = w3 at *
                go_wp2
                go_ret
                exact ⟨ret_bool HR.out, HB3.out⟩
              · skip
                cases c8
                · skip
                  have HR := hideB2 (show r = false by rw [HQ.out]; rfl)
                  clear HQ
                  repeat (go_big_quiet_step (first
                    | (go_at_call 32; exact grow_same (isTime_any _ _))
                    | (go_at_call 33; exact grow_same (within_any _ _ _ _))
                    | (go_at_call 34; exact grow_same (HM.out _))
                    | (go_at_call 35; exact grow_same (statusOk_any _ _))))
                  refine wpQuiet_nil ?_
                  rintro _ ⟨V, rfl⟩
                  have HB3 := hideB2 (HBV.out V)
                  clear a0 a1 a2 a3 a4 a5 a6 a7 a8 a9 HBV
                  refine hK3 _ _ ?_
                  clear hK3
                  generalize grw _ V = w3 at *
                  go_wp2
                  go_ret
                  exact ⟨ret_bool HR.out, HB3.out⟩
                · skip
                  cases c9
                  · skip
                    have HR := hideB2 (show r = false by rw [HQ.out]; rfl)
                    clear HQ
                    repeat (go_big_quiet_step (first
                      | (go_at_call 32; exact grow_same (isTime_any _ _))
                      | (go_at_call 33; exact grow_same (within_any _ _ _ _))
                      | (go_at_call 34; exact grow_same (HM.out _))
                      | (go_at_call 35; exact grow_same (statusOk_any _ _))))
                    refine wpQuiet_nil ?_
                    rintro _ ⟨V, rfl⟩
                    have HB3 := hideB2 (HBV.out V)
                    clear a0 a1 a2 a3 a4 a5 a6 a7 a8 a9 HBV
                    refine hK3 _ _ ?_
                    clear hK3
                    generalize grw _ V = w3 at *
                    go_wp2
                    go_ret
                    exact ⟨ret_bool HR.out, HB3.out⟩
                  · skip
                    have HR := hideB2 (show r = true by rw [HQ.out]; rfl)
                    clear HQ
                    repeat (go_big_quiet_step (first
                      | (go_at_call 32; exact grow_same (isTime_any _ _))
                      | (go_at_call 33; exact grow_same (within_any _ _ _ _))
                      | (go_at_call 34; exact grow_same (HM.out _))
                      | (go_at_call 35; exact grow_same (statusOk_any _ _))))
                    refine wpQuiet_nil ?_
                    rintro _ ⟨V, rfl⟩
                    have HB3 := hideB2 (HBV.out V)
                    clear a0 a1 a2 a3 a4 a5 a6 a7 a8 a9 HBV
                    refine hK3 _ _ ?_
                    clear hK3
                    generalize grw _ V = w3 at *
                    go_wp2
                    go_ret
                    exact ⟨ret_bool HR.out, HB3.out⟩
end Go.Proofs.YtenjbgpndkodmabGreatDoor
