/-
  The exact laws' marks over rows of texts.
-/
import Derived.Test.YtbdggopdhnlbfacDoorMK
import Derived.Test.YtbdggopdhnlbfacDoorWR
import Derived.Deep.RegionWith
import Derived.Deep.QuietTactic
import Derived.BigQuiet
namespace Go.Proofs.YtbdggopdhnlbfacDoor
set_option linter.unusedVariables false
set_option linter.unusedSimpArgs false
open Go.RowKit
set_option maxHeartbeats 1000000 in
theorem eqStringS_same (w : World) (l : List ByteArray) (a b : Option Addr) (c d : Nat) (ha : RowS w a l) (hb : RowS w b l) (hl : l.length ≤ 1000000) :
    Calls Tryd.prog 9 #[.slice a l.length c, .slice b l.length d] w fun e w' => e = .returned (.bool true) ∧ Below w.heap.size w w' := by
  have heq : ((l.length : Int) == (l.length : Int)) = true := by simp
  go_enter Tryd.func9, Tryd.ntmps9
  go_wp2
  go_loopw [5] (fun i wr => ∃ k : Nat, k ≤ l.length ∧ i = .int .i64 (k : Int) ∧ Below w.heap.size w wr) (fun i _ => l.length - (intOf i).toNat)
  case atStart => exact ⟨0, Nat.zero_le _, rfl, Below.refl _ _⟩
  case round =>
    obtain ⟨k, hk, rfl, hbw⟩ := hrel
    by_cases hlt : k < l.length
    · have hI : (k : Int) < (l.length : Int) := by omega
      obtain ⟨g, rfl, hcg⟩ := (ha.later hbw).at (by omega)
      obtain ⟨g', rfl, hcg'⟩ := (hb.later hbw).at (by omega)
      have c1 := hcg k hlt
      have c2 := hcg' k hlt
      generalize l.getD k ⟨#[]⟩ = t at *
      have hnt := neT_self t
      clear hcg hcg' ha hb
      go_wp2
      go_quiet (fail)
      go_wp2
      go_round
      case rel => exact ⟨k + 1, by omega, by go_num, Below.drewNs hbw _⟩
      case measure => simp [intOf]; omega
    · have hd : decide ((k : Int) < (l.length : Int)) = false := by simp; omega
      go_wp2
      go_ret
      exact ⟨rfl, hbw⟩
def marks (n : Nat) : List ByteArray := (List.range n).map fun j => mtB (j + 1)
theorem marks_len (n : Nat) : (marks n).length = n := by simp [marks]
theorem marks_at {n j : Nat} (h : j < n) : (marks n).getD j ⟨#[]⟩ = mtB (j + 1) := by simp [marks, List.getD, h]
theorem bcellM {W w1 : World} (hb : Below W.heap.size W w1) : (∀ b o, b < W.heap.size → w1.cell? ⟨b, o, none⟩ = W.cell? ⟨b, o, none⟩) ∧ (∀ b o, b < W.heap.size → w1.frozen? ⟨b, o, none⟩ = W.frozen? ⟨b, o, none⟩) :=
  ⟨fun b o h => hb.cell (p := ⟨b, o, none⟩) h, fun b o h => hb.frozen (p := ⟨b, o, none⟩) h⟩
theorem BufS.spot {w0 w : World} {g n cap : Nat} {l : List ByteArray} (h : BufS w0 w (.slice (some ⟨g, 0, none⟩) n cap) l) {j : Nat} (hj : j < l.length) : w.cell? ⟨g, j, none⟩ = some (.string (l.getD j ⟨#[]⟩)) ∧ w.frozen? ⟨g, j, none⟩ = false ∧ w0.heap.size ≤ g := by
  obtain ⟨g', cap', he, hg, _, hc⟩ := h.cells (by omega)
  injection he with e1 e2 e3
  injection e1 with e1
  injection e1 with e1
  subst e1; subst e2
  exact ⟨hc j hj, h.own.frozenAt j, hg⟩
theorem BufS.stored {w0 w : World} {g cap : Nat} {l : List ByteArray} (h : BufS w0 w (.slice (some ⟨g, 0, none⟩) l.length cap) l) {j : Nat} (hg : w0.heap.size ≤ g) (y : ByteArray) : BufS w0 (w.setCell ⟨g, j, none⟩ (.string y)) (.slice (some ⟨g, 0, none⟩) l.length cap) (l.set j y) := by
  refine ⟨h.below.setCell (p := ⟨g, j, none⟩) hg _, ?_⟩
  rw [List.length_set, List.map_set]
  exact (h.own.stored j (.string y)).1
theorem marks_set (l : List ByteArray) (j : Nat) (hj : j < l.length) : (marks j ++ l.drop j).set j (mtB (j + 1)) = marks (j + 1) ++ l.drop (j + 1) := by
  rw [List.set_append_right _ _ (by rw [marks_len]; exact Nat.le_refl _), marks_len, Nat.sub_self, List.drop_eq_getElem_cons hj, List.set_cons_zero]
  simp [marks, List.range_succ]
theorem marks_part (l : List ByteArray) (j : Nat) (hj : j ≤ l.length) : (marks j ++ l.drop j).length = l.length := by
  rw [List.length_append, marks_len, List.length_drop]; omega
set_option maxHeartbeats 1000000 in
theorem heldStringS_same (w : World) (n : Nat) (a : Option Addr) (c : Nat) (ha : RowS w a (marks n)) (hl : n ≤ 1000000) :
    Calls Tryd.prog 13 #[.slice a n c, .int .i64 1] w fun e w' => e = .returned (.int .i64 ((n : Int) + 1)) ∧ Below w.heap.size w w' := by
  go_enter Tryd.func13, Tryd.ntmps13
  go_wp2
  go_loopw [1, 5] (fun kk i wr => ∃ j m : Nat, j ≤ n ∧ m = j + 1 ∧ kk = .int .i64 (m : Int) ∧ i = .int .i64 (j : Int) ∧ Below w.heap.size w wr) (fun _ i _ => n - (intOf i).toNat)
  case atStart => exact ⟨0, 1, Nat.zero_le _, rfl, rfl, rfl, Below.refl _ _⟩
  case round =>
    obtain ⟨j, m, hj, hm, rfl, rfl, hbw⟩ := hrel
    have HM : Hid (m = j + 1) := hm
    by_cases hlt : j < n
    · have hI : (j : Int) < (n : Int) := by omega
      obtain ⟨g, rfl, hcg⟩ := (ha.later hbw).at (by rw [marks_len]; omega)
      have c1 := hcg j (by rw [marks_len]; exact hlt)
      rw [marks_at hlt, ← hm] at c1
      have hg := World.block_lt_of_cell? _ _ c1
      have hm1 : 0 < m := by omega
      have hm2 : m ≤ 4194304 := by omega
      have hnt := neT_self (mtB m)
      clear hcg ha hm
      have Hb : Hid (Below w.heap.size w wr) := hbw
      clear hbw
      go_wp2
      go_region_with (go_at_call 31; refine (markText_any m _ hm1 hm2).mono ?_; rintro e w1 ⟨rfl, hb⟩; have c2 : w1.cell? ⟨g, j, none⟩ = some (.string (mtB m)) := (hb.cell (p := ⟨g, j, none⟩) (by simpa using hg)).trans (by simpa using c1))
      all_goals
        go_wp2
        go_round
        case rel => exact ⟨j + 1, m + 1, by omega, by have := HM.out; omega, by go_num, by go_num, by first | exact Hb.out.trans (hb.mono Hb.out.size) | exact (Hb.out.drew).trans (hb.mono (by simpa using Hb.out.size)) | exact ((Hb.out.drew).trans (hb.mono (by simpa using Hb.out.size))).drew⟩
        case measure => simp [intOf] <;> omega
    · have hd : decide ((j : Int) < (n : Int)) = false := by simp; omega
      obtain rfl : j = n := by omega
      subst hm
      go_wp2
      go_ret
      exact ⟨by simp, hbw⟩
set_option maxHeartbeats 1000000 in
theorem markStringS_own (w0 w : World) (v : Value) (l : List ByteArray) (hbuf : BufS w0 w v l) (hl : l.length ≤ 1000000) :
    Calls Tryd.prog 12 #[v, .int .i64 1] w fun e w' => e = .returned (.int .i64 ((l.length : Int) + 1)) ∧ BufS w0 w' v (marks l.length) := by
  obtain ⟨a, c, rfl⟩ := hbuf.form
  go_enter Tryd.func12, Tryd.ntmps12
  go_wp2
  go_loopw [1, 5] (fun kk i wr => ∃ j m : Nat, j ≤ l.length ∧ m = j + 1 ∧ kk = .int .i64 (m : Int) ∧ i = .int .i64 (j : Int) ∧ BufS w0 wr (.slice a l.length c) (marks j ++ l.drop j)) (fun _ i _ => l.length - (intOf i).toNat)
  case atStart => exact ⟨0, 1, Nat.zero_le _, rfl, rfl, rfl, hbuf⟩
  case round =>
    obtain ⟨j, m, hj, hm, rfl, rfl, hbw⟩ := hrel
    have HM : Hid (m = j + 1) := hm
    have hpl := marks_part l j hj
    clear hbuf
    by_cases hlt : j < l.length
    · have hI : (j : Int) < (l.length : Int) := by omega
      obtain ⟨g, cap, he, _⟩ := hbw.cells (by omega)
      injection he with e1 e2 e3
      subst e1
      have hm1 : 0 < m := by omega
      have hm2 : m ≤ 4194304 := by omega
      have HS : Hid ((marks j ++ l.drop j).set j (mtB m) = marks (j + 1) ++ l.drop (j + 1)) := by
        show _ = _
        rw [hm]; exact marks_set l j hlt
      have HL : Hid ((marks j ++ l.drop j).length = l.length) := hpl
      have hjl : j < (marks j ++ l.drop j).length := by omega
      clear hm e2 e3 hpl
      generalize marks j ++ l.drop j = L at *
      go_wp2_with (go_at_call 31; refine (markText_any m _ hm1 hm2).mono ?_; rintro e w1 ⟨rfl, hb⟩; have hb1 := hbw.later hb; obtain ⟨c1, f1, hg⟩ := hb1.spot hjl)
      go_round
      case rel => exact ⟨j + 1, m + 1, by omega, by have := HM.out; omega, by go_num, by go_num, by rw [← HS.out]; have := HL.out; rw [← this] at hb1 ⊢; exact hb1.stored hg _⟩
      case measure => simp [intOf] <;> omega
    · have hd : decide ((j : Int) < (l.length : Int)) = false := by simp; omega
      obtain rfl : j = l.length := by omega
      rw [List.drop_length, List.append_nil] at hbw
      subst hm
      go_wp2
      go_ret
      exact ⟨by simp, hbw⟩
end Go.Proofs.YtbdggopdhnlbfacDoor
