/-
  The walks over the drawing functions: what they answer is a number within its bounds, or a text.
-/
import Derived.Test.YtefhpjipcdmbaabGreatDoorMD
import Derived.Deep.RegionWith
import Derived.Deep.QuietTactic
import Derived.BigQuiet
namespace Go.Proofs.YtefhpjipcdmbaabGreatDoor
set_option linter.unusedVariables false
set_option linter.unusedSimpArgs false
open Go.RowKit

theorem drw_cells {w : World} {p : Nat} {a : Option Addr} {len cap i : Nat} {h : Int} (h1 : w.heap[p]? = some (.cells #[.slice a len cap, .int .i64 (i : Int), .int .i64 h] 68)) :
    w.cell? ⟨p, 0, none⟩ = some (.slice a len cap) ∧ w.cell? ⟨p, 1, none⟩ = some (.int .i64 (i : Int)) ∧ w.cell? ⟨p, 2, none⟩ = some (.int .i64 h) ∧ w.frozen? ⟨p, 1, none⟩ = false ∧ w.frozen? ⟨p, 2, none⟩ = false := by
  simp [World.cell?, World.frozen?, h1]
theorem heap_setCell_same {w : World} {p : Nat} {c : Array Value} {t : TypeId} {fr : Nat × Nat} (h : w.heap[p]? = some (.cells c t fr)) (j : Nat) (u : Value) :
    (w.setCell ⟨p, j, none⟩ u).heap[p]? = some (.cells (c.setIfInBounds j u) t fr) := by
  simp [World.setCell, Array.getElem?_modify, h]
theorem drw_set {w : World} {p : Nat} {a : Option Addr} {len cap i : Nat} {h H : Int} (h1 : w.heap[p]? = some (.cells #[.slice a len cap, .int .i64 (i : Int), .int .i64 h] 68)) (hcode : CodeRow w p a len) (hi : i ≤ len) (hlen : len ≤ maxLen) :
    Kp p w (w.setCell ⟨p, 2, none⟩ (.int .i64 H)) ∧ Drw (w.setCell ⟨p, 2, none⟩ (.int .i64 H)) p := by
  refine ⟨(Kp.refl p w).setCell 2 _, a, len, cap, i, H, ?_, hcode.kept (fun k hk => Below.heap_setCell _ _ _ _ (by simp; omega)), hi, hlen⟩
  rw [heap_setCell_same h1]; rfl
theorem drw_set2 {w : World} {p : Nat} {a : Option Addr} {len cap i : Nat} {h H : Int} (h1 : w.heap[p]? = some (.cells #[.slice a len cap, .int .i64 (i : Int), .int .i64 h] 68)) (hcode : CodeRow w p a len) (hi : i < len) (hlen : len ≤ maxLen) :
    Kp p w ((w.setCell ⟨p, 2, none⟩ (.int .i64 H)).setCell ⟨p, 1, none⟩ (.int .i64 ((i : Int) + 1))) ∧ Drw ((w.setCell ⟨p, 2, none⟩ (.int .i64 H)).setCell ⟨p, 1, none⟩ (.int .i64 ((i : Int) + 1))) p := by
  refine ⟨((Kp.refl p w).setCell 2 _).setCell 1 _, a, len, cap, i + 1, H, ?_, hcode.kept (fun k hk => ?_), hi, hlen⟩
  · rw [heap_setCell_same (heap_setCell_same h1 2 _) 1 _]; rfl
  · rw [Below.heap_setCell _ _ _ _ (by simp; omega), Below.heap_setCell _ _ _ _ (by simp; omega)]
set_option maxHeartbeats 1000000 in
theorem l1Byte_any (p : Nat) (w : World) (hd : Drw w p) :
    Calls Tryz.prog 74 #[.pointer (some ⟨p, 0, none⟩)] w fun e w' => (∃ n : Nat, n ≤ 255 ∧ e = .returned (.int .i64 (n : Int))) ∧ Kp p w w' ∧ Drw w' p := by
  obtain ⟨a, len, cap, i, h, h1, hcode, hi, hlen⟩ := hd
  obtain ⟨c0, c1, c2, f1, f2⟩ := drw_cells h1
  have hlen' := hlen
  unfold maxLen at hlen'
  have S1 : Hid (∀ H : Int, Kp p w (w.setCell ⟨p, 2, none⟩ (.int .i64 H)) ∧ Drw (w.setCell ⟨p, 2, none⟩ (.int .i64 H)) p) := fun H => drw_set h1 hcode hi hlen
  by_cases hlt : i < len
  · rcases hcode with hl0 | ⟨b, off, rfl, hbp, hc⟩
    · omega
    · have S2 : Hid (∀ H : Int, Kp p w ((w.setCell ⟨p, 2, none⟩ (.int .i64 H)).setCell ⟨p, 1, none⟩ (.int .i64 ((i : Int) + 1))) ∧ Drw ((w.setCell ⟨p, 2, none⟩ (.int .i64 H)).setCell ⟨p, 1, none⟩ (.int .i64 ((i : Int) + 1))) p) := fun H => drw_set2 h1 (Or.inr ⟨b, off, rfl, hbp, hc⟩) hlt hlen
      obtain ⟨z, hz, hcz⟩ := hc i hlt
      have hltI : (i : Int) < (len : Int) := by omega
      have hne : b ≠ p := by omega
      have hne2 : p ≠ b := by omega
      have hlt0 : (0 : Int) ≤ (i : Int) := by omega
      clear hc h1
      go_enter Tryz.func74, Tryz.ntmps74
      go_wp2
      go_quiet (fail)
      generalize wrap64 (wrap64 (h * 6364136223846793005) + 1442695040888963407) = H at *
      go_wp2
      go_quiet (fail)
      go_wp2
      go_quiet (fail)
      go_wp2
      go_ret
      exact ⟨ret255 _, (S2.out H).1.drewN _, (S2.out H).2.drewN _⟩
  · have hltI : decide ((i : Int) < (len : Int)) = false := by simp; omega
    clear hcode h1
    go_enter Tryz.func74, Tryz.ntmps74
    go_wp2
    go_quiet (fail)
    generalize wrap64 (wrap64 (h * 6364136223846793005) + 1442695040888963407) = H at *
    go_wp2
    go_quiet (fail)
    go_wp2
    go_ret
    exact ⟨ret255 _, by repeat (first | exact (S1.out H).1 | refine Kp.drewN ?_ _), by repeat (first | exact (S1.out H).2 | refine Drw.drewN ?_ _)⟩
end Go.Proofs.YtefhpjipcdmbaabGreatDoor
