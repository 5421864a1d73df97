/-
  Chapter 7: hosts; the walks of both sides; a text up to a byte.
-/
import Derived.Test.YtefhpjipcdmbaabGreatDoorMU2
import Derived.Test.YtefhpjipcdmbaabGreatDoorUSp
import Derived.Test.YtefhpjipcdmbaabGreatDoorU5
import Derived.Test.YtefhpjipcdmbaabGreatDoorW2
import Derived.Laws.RangeAny
import Derived.Deep.LoopGhost
import Derived.Test.YtefhpjipcdmbaabGreatDoorSHo
namespace Go.Proofs.YtefhpjipcdmbaabGreatDoor
set_option linter.unusedVariables false
set_option linter.unusedSimpArgs false
open Go.RowKit
set_option maxHeartbeats 1000000 in
theorem hostSign_any (r : Int) (w : World) :
    Calls Tryz.prog 90 #[.int .i32 r] w fun e w' => e = .returned (.bool (hstP r)) ∧ w' = w := by
  unfold hstP pcP digP
  by_cases a1 : 97 ≤ r
  · by_cases a2 : r ≤ 122
    · go_enter Tryz.func90, Tryz.ntmps90
      go_wp2
      go_ret
      exact ⟨ret_bool (by first | (simp [a1, a2]; done) | (simp [a1, a2] <;> omega)), rfl⟩
    · have b1 : 48 ≤ r := by omega
      have b2 : ¬ r ≤ 57 := by omega
      have e1 : (r == 45) = false := by rw [beq_eq_false_iff_ne]; omega
      have e2 : (r == 46) = false := by rw [beq_eq_false_iff_ne]; omega
      go_enter Tryz.func90, Tryz.ntmps90
      go_wp2
      go_ret
      exact ⟨ret_bool (by first | (simp [a1, a2, b1, b2, e1, e2]; done) | (simp [a1, a2, b1, b2, e1, e2] <;> omega)), rfl⟩
  · by_cases b1 : 48 ≤ r
    · by_cases b2 : r ≤ 57
      · go_enter Tryz.func90, Tryz.ntmps90
        go_wp2
        go_ret
        exact ⟨ret_bool (by first | (simp [b1, b2]; done) | (simp [b1, b2] <;> omega)), rfl⟩
      · have e1 : (r == 45) = false := by rw [beq_eq_false_iff_ne]; omega
        have e2 : (r == 46) = false := by rw [beq_eq_false_iff_ne]; omega
        go_enter Tryz.func90, Tryz.ntmps90
        go_wp2
        go_ret
        exact ⟨ret_bool (by first | (simp [a1, b1, b2, e1, e2]; done) | (simp [a1, b1, b2, e1, e2] <;> omega)), rfl⟩
    · cases e1 : (r == 45)
      · go_enter Tryz.func90, Tryz.ntmps90
        go_wp2
        go_ret
        exact ⟨ret_bool (by first | (simp [a1, b1, e1]; done) | (simp [a1, b1, e1] <;> omega)), rfl⟩
      · go_enter Tryz.func90, Tryz.ntmps90
        go_wp2
        go_ret
        exact ⟨ret_bool (by first | (simp [e1]; done) | (simp [e1] <;> omega)), rfl⟩
def emptyS (l : List ByteArray) : Bool := l.any fun x => eqB x ⟨#[]⟩
theorem containsS_empty (l : List ByteArray) : Lib.containsS l ⟨#[]⟩ = emptyS l := by
  rw [Bool.eq_iff_iff, Lib.containsS_iff]
  unfold emptyS
  rw [List.any_eq_true]
  constructor
  · intro h; exact ⟨_, h, eqB_self _⟩
  · rintro ⟨x, hx, he⟩; rw [← eqB_iff.1 he]; exact hx
theorem ContainsE_any (w0 w : World) (v : Value) (l : List ByteArray) (hb : BufS w0 w v l) (hl : l.length ≤ 1048577) (hne : l ≠ []) :
    Calls Tryz.prog 91 #[v, .string ⟨#[]⟩] w fun e w' => e = .returned (.bool (emptyS l)) ∧ w' = w := by
  obtain ⟨g, cap, rfl, _, _, hc⟩ := hb.cells (List.length_pos_iff.2 hne)
  have h := Any.slices_Contains_string Tryz.lays110 g 0 l.length cap l ⟨#[]⟩ w (Nat.le_refl _) (by omega) (fun j hj => by rw [Nat.zero_add]; exact hc j hj)
  rw [List.take_of_length_le (Nat.le_refl _), containsS_empty] at h
  exact h
set_option maxRecDepth 100000 in
set_option maxHeartbeats 4000000 in
theorem hostOk_any (s : ByteArray) (w : World) (hs : s.size ≤ maxLen) :
    Calls Tryz.prog 68 #[.string s] w fun e w' => e = .returned (.bool (hostQ s)) ∧ Below w.heap.size w w' := by
  have hs' := hs
  unfold maxLen at hs'
  by_cases h60 : (60 : Int) < (s.size : Int)
  · rw [show hostQ s = false by unfold hostQ; rw [decide_eq_false (by omega)]; rfl]
    go_enter Tryz.func68, Tryz.ntmps68
    go_wp2
    go_ret
    exact ⟨rfl, Below.refl _ _⟩
  · have HSP := hideB2 (fun W => SplitS_any s 46 W (by omega))
    have hls := (splS_le 46 s).1
    have hne := splS_ne 46 s
    have HC := hideB2 (fun w0 w1 v (h : BufS w0 w1 v (splS 46 s)) => ContainsE_any w0 w1 v _ h (by omega) hne)
    generalize hR : hostQ s = R
    have HR := hideB2 (show R = (allB hst8 s && !emptyS (splS 46 s)) by rw [← hR]; unfold hostQ; rw [decide_eq_true (by omega), Bool.true_and]; rfl)
    clear hR hls hne
    generalize splS 46 s = L at *
    have HI := hideB2 (fun k => (below_a1 w (.stringIter s k) : Below w.heap.size w (w.iter s k)))
    go_enter Tryz.func68, Tryz.ntmps68
    go_wp2
    go_loopg [10, 11] s.size (fun g _ _ wx => ∃ i : Nat, i + g = s.size ∧ wx = w.iter s i ∧ ∀ j, j < i → hst8 (at8 s j) = true)
    case atStart => exact ⟨0, by omega, rfl, fun j hj => by omega⟩
    case round =>
      obtain ⟨i, hig, rfl, hall⟩ := hrel
      have HA := hideB2 hall
      clear hall
      cases gk with
      | zero =>
        obtain rfl : i = s.size := by omega
        have hnx := run_next_end (P := Tryz.prog) w s s.size
        have HF := hideB2 (show R = !emptyS L by rw [HR.out, allB_yes (fun j hj => HA.out j hj), Bool.true_and])
        clear HR
        generalize emptyS L = q at *
        go_wp2_with (first | (go_at_call 46; refine (HSP.out _).mono ?_; rintro e w5 ⟨v5, rfl, hb5⟩) | (go_at_call 91; refine (HC.out _ _ _ hb5).mono ?_; rintro e w6 ⟨rfl, rfl⟩))
        go_ret
        exact ⟨ret_bool HF.out, below_then (HI.out _) hb5.below⟩
      | succ g =>
        have hi : i < s.size := by omega
        have hat : s[i] = at8 s i := at8_eq s i hi
        by_cases ha : (s[i]).toNat < 128
        · have hnx := fun ty => run_next_ascii (P := Tryz.prog) w s i ty hi ha
          have HS := hideB2 (fun W => hostSign_any (s[i].toNat : Int) W)
          cases hq : hst8 (at8 s i)
          · have hq2 : hstP (s[i].toNat : Int) = false := by rw [hat]; exact hq
            rw [hq2] at HS
            have HF := hideB2 (show R = false by rw [HR.out, allB_no hi hq]; rfl)
            clear hq hq2 hat
            go_wp2_with (go_at_call 90; refine (HS.out _).mono ?_; rintro e w' ⟨rfl, rfl⟩)
            go_ret
            exact ⟨ret_bool HF.out, HI.out _⟩
          · have hq2 : hstP (s[i].toNat : Int) = true := by rw [hat]; exact hq
            rw [hq2] at HS
            have HQ := hideB2 hq
            clear hq hq2 hat
            go_wp2_with (go_at_call 90; refine (HS.out _).mono ?_; rintro e w' ⟨rfl, rfl⟩)
            go_roundg g
            case measure => omega
            case rel => exact ⟨i + 1, by omega, rfl, all_succ HA.out HQ.out⟩
        · have hnx := fun ty => run_next_any (P := Tryz.prog) w s i ty hi
          obtain ⟨d1', d2'⟩ := decode_high s i hi (by omega)
          have HF := hideB2 (show R = false by
            rw [HR.out, allB_no hi (p := hst8) ?_]; rfl
            rw [← hat]
            unfold hst8 hstP pcP digP
            rw [decide_eq_false (show ¬ ((s[i].toNat : Int) ≤ 122) by omega), decide_eq_false (show ¬ ((s[i].toNat : Int) ≤ 57) by omega), beq_eq_false_iff_ne.2 (show (s[i].toNat : Int) ≠ 45 by omega), beq_eq_false_iff_ne.2 (show (s[i].toNat : Int) ≠ 46 by omega)]
            simp)
          generalize hdc : Utf8.decode s i = dc at *
          obtain ⟨rn, wd⟩ := dc
          simp only at d1' hnx
          have HS := hideB2 (fun W => hostSign_any (rn : Int) W)
          have hz : hstP (rn : Int) = false := by
            unfold hstP pcP digP
            rw [decide_eq_false (show ¬ ((rn : Int) ≤ 122) by omega), decide_eq_false (show ¬ ((rn : Int) ≤ 57) by omega), beq_eq_false_iff_ne.2 (show (rn : Int) ≠ 45 by omega), beq_eq_false_iff_ne.2 (show (rn : Int) ≠ 46 by omega)]
            simp
          rw [hz] at HS
          clear hz hat
          go_wp2_with (go_at_call 90; refine (HS.out _).mono ?_; rintro e w' ⟨rfl, rfl⟩)
          go_ret
          exact ⟨ret_bool HF.out, HI.out _⟩
/-- A text up to the first byte c, or whole. -/
def uptS (c : UInt8) (s : ByteArray) : ByteArray := if idxS c s < 0 then s else s.extract 0 (idxS c s).toNat
theorem uptS_none {c : UInt8} {s : ByteArray} (h : idxS c s = -1) : uptS c s = s := by unfold uptS; rw [h]; rfl
theorem uptS_some {c : UInt8} {s : ByteArray} {i : Nat} (h : idxS c s = (i : Int)) : uptS c s = s.extract 0 i := by
  unfold uptS; rw [h, if_neg (by omega), Int.toNat_natCast]
set_option maxHeartbeats 1000000 in
theorem l6uptoS_any (s : ByteArray) (c : UInt8) (w : World) (hs : s.size ≤ maxLen) :
    Calls Tryz.prog 26 #[.string s, .int .u8 (c.toNat : Int)] w fun e w' => e = .returned (.string (uptS c s)) ∧ w' = w := by
  unfold maxLen at hs
  generalize hR : uptS c s = R
  have HR := hideB2 hR
  clear hR
  go_enter Tryz.func26, Tryz.ntmps26
  go_wp2
  go_loop [5] (fun i => ∃ k : Nat, k ≤ s.size ∧ i = .int .i64 k ∧ ∀ j, j < k → at8 s j ≠ c) (fun i => s.size - (intOf i).toNat)
  case atStart => exact ⟨0, Nat.zero_le _, rfl, fun j hj => by omega⟩
  case round =>
    obtain ⟨k, hk, rfl, hall⟩ := hrel
    have HA := hideB2 hall
    clear hall
    by_cases hlt : k < s.size
    · have hat : s[k] = at8 s k := at8_eq s k hlt
      have hcc : ((s[k].toNat : Int) == (c.toNat : Int)) = (at8 s k == c) := by rw [hat]; exact u8_beq _ _
      clear hat
      cases hq : (at8 s k == c)
      · rw [hq] at hcc
        have HQ := hideB2 (show at8 s k ≠ c from beq_eq_false_iff_ne.1 hq)
        clear hq
        go_wp2
        go_round
        case rel => exact ⟨k + 1, by omega, by go_num, all_succ HA.out HQ.out⟩
        case measure => simp [intOf]; omega
      · rw [hq] at hcc
        have HF := hideB2 (show R = s.extract 0 k by rw [← HR.out]; exact uptS_some (idxS_of hlt (beq_iff_eq.1 hq) HA.out))
        clear hq
        have c1 : (k : Int) ≤ (s.size : Int) := by omega
        go_wp2
        go_ret
        exact ⟨ret_str HF.out, rfl⟩
    · have HF := hideB2 (show R = s by rw [← HR.out]; exact uptS_none (idxS_miss (fun j hj => HA.out j (by omega))))
      go_wp2
      go_ret
      exact ⟨ret_str HF.out, rfl⟩
end Go.Proofs.YtefhpjipcdmbaabGreatDoor
