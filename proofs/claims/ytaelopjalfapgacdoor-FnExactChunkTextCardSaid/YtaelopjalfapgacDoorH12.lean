/-
  Chapter 6: a body in chunks. Both sides.
-/
import Derived.Test.YtaelopjalfapgacDoorMCh
import Derived.Deep.DeepCutAuto
import Derived.Deep.RegionWith
namespace Go.Proofs.YtaelopjalfapgacDoor
set_option linter.unusedVariables false
set_option linter.unusedSimpArgs false
open Go.RowKit
set_option maxHeartbeats 1000000 in
theorem oneChunk_any (x : ByteArray) (w : World) (hx : x.size ≤ 600) (hc : HexTab w) :
    Calls Tryd.prog 8 #[.string x] w fun e w' => e = .returned (.string (oneC x)) ∧ Below w.heap.size w w' := by
  have HH := hideB2 (HexText_all (x.size : Int) w hc)
  have hsz := hexT_size (n := (x.size : Int)) (by omega) (by omega)
  have HE := hideB2 (show oneC x = hexT (x.size : Int) ++ ⟨#[13, 10]⟩ ++ x ++ ⟨#[13, 10]⟩ from rfl)
  clear hc
  generalize oneC x = R at *
  generalize hexT (x.size : Int) = H at *
  go_enter Tryd.func8, Tryd.ntmps8
  go_wp2_with (go_at_call 9; refine HH.out.mono ?_; rintro e w2 ⟨rfl, hb2⟩)
  go_ret
  exact ⟨ret_str HE.out, hb2⟩
set_option maxHeartbeats 4000000 in
theorem ChunkText_any (b : ByteArray) (n : Int) (w : World) (hb : b.size ≤ maxLen) (hc : HexTab w) :
    Calls Tryd.prog 5 #[.string b, .int .i64 n] w fun e w' => e = .returned (.string (chkB b n)) ∧ Below w.heap.size w w' := by
  unfold maxLen at hb
  by_cases h1 : (600 : Int) < (b.size : Int)
  · have HF := hideB2 (chkB_no (b := b) (n := n) (by omega))
    clear hc
    go_enter Tryd.func5, Tryd.ntmps5
    go_wp2
    go_ret
    exact ⟨ret_str HF.out, Below.refl _ _⟩
  · have d1 : decide ((600 : Int) < (b.size : Int)) = false := decide_eq_false h1
    cases h2 : withinB n 1 600
    · have HF := hideB2 (chkB_no (b := b) (n := n) (by
        intro h
        have : withinB n 1 600 = true := by simp [withinB, h.2.1, h.2.2]
        rw [h2] at this; cases this))
      clear hc
      go_enter Tryd.func5, Tryd.ntmps5
      go_wp2_with (go_at_call 7; refine (within_any _ _ _ _).mono ?_; rintro e w' ⟨rfl, rfl⟩; rw [h2])
      go_ret
      exact ⟨ret_str HF.out, Below.refl _ _⟩
    · have h3 : 1 ≤ n ∧ n ≤ 600 := by simpa [withinB] using h2
      obtain ⟨m, rfl⟩ := Int.eq_ofNat_of_zero_le (show 0 ≤ n by omega)
      have hm1 : 1 ≤ m := by omega
      have hm2 : m ≤ 600 := by omega
      have hb6 : b.size ≤ 600 := by omega
      have H2 := hideB2 h2
      have HC := hideB2 hc
      have HY := hideB2 (fun j p hp h3 h4 => chkB_yes (b := b) (n := m) (j := j) (p := p) hb6 hm1 hm2 hp h3 h4)
      clear h2 h3 hc hb h1
      generalize hR : chkB b (m : Int) = R at *
      clear hR
      go_enter Tryd.func5, Tryd.ntmps5
      go_wp2_with (go_at_call 7; refine (within_any _ _ _ _).mono ?_; rintro e w' ⟨rfl, rfl⟩; rw [H2.out])
      go_loopw [5, 6] (fun t i wr => ∃ j p : Nat, Hid (p = j * m) ∧ i = .int .i64 p ∧ t = .string (chkP b m j) ∧ Hid (j = 0 ∨ p < b.size + m) ∧ p ≤ 1200 ∧ Below w'.heap.size w' wr) (fun _ i _ => b.size - (intOf i).toNat)
      case atStart => exact ⟨0, 0, by show 0 = 0 * m; omega, rfl, rfl, .inl rfl, by omega, Below.refl _ _⟩
      case round =>
        obtain ⟨j, p, hp, rfl, rfl, hj, hp12, hbw⟩ := hrel
        have hj6 := rounds_few hm1 hp.out hb6 hj.out
        have hsz := chkP_size (n := m) hb6 j
        have hsz2 : (chkP b m j).size ≤ 400000 := by omega
        clear hsz
        have HBW := hideB2 hbw
        clear hbw
        by_cases hlt : p < b.size
        · have hps := partB_small (p := p) (n := m) hb6
          have HO := hideB2 (fun W h => oneChunk_any (partB b p m) W hps h)
          have hos := oneC_size hps
          have HNX := hideB2 (show chkP b m (j + 1) = chkP b m j ++ oneC (partB b p m) by rw [hp.out]; rfl)
          have HTW := hideB2 (hextab_below HC.out HBW.out)
          have HP2 := hideB2 (show p + m = (j + 1) * m by rw [Nat.succ_mul, ← hp.out])
          by_cases hfit : p + m ≤ b.size
          · have HPart := hideB2 (show partB b p m = b.extract p (p + m) by unfold partB; rw [Nat.min_eq_left hfit])
            generalize hPP : partB b p m = PP at *
            clear hPP
            have hmin : min ((p : Int) + (m : Int)) (b.size : Int) = (p : Int) + (m : Int) := by omega
            generalize oneC PP = OC at *
            generalize hCP : chkP b m j = CP at *
            clear hCP
            go_wp2_with fail
            rw [← HPart.out]
            refine (HO.out _ HTW.out).mono ?_
            rintro e w3 ⟨rfl, hb3⟩
            go_wp2
            refine ⟨⟨j + 1, p + m, HP2.out, by go_num, by rw [HNX.out], .inr (by omega), by omega, below_then HBW.out hb3⟩, by simp [intOf]; omega⟩
          · have HPart := hideB2 (show partB b p m = b.extract p b.size by unfold partB; rw [Nat.min_eq_right (by omega)])
            generalize hPP : partB b p m = PP at *
            clear hPP
            have hmin : min ((p : Int) + (m : Int)) (b.size : Int) = (b.size : Int) := by omega
            generalize oneC PP = OC at *
            generalize hCP : chkP b m j = CP at *
            clear hCP
            go_wp2_with fail
            rw [← HPart.out]
            refine (HO.out _ HTW.out).mono ?_
            rintro e w3 ⟨rfl, hb3⟩
            go_wp2
            refine ⟨⟨j + 1, p + m, HP2.out, by go_num, by rw [HNX.out], .inr (by omega), by omega, below_then HBW.out hb3⟩, by simp [intOf]; omega⟩
        · have HF := hideB2 (HY.out j p hp.out (by omega) hj.out)
          have HO := hideB2 (fun W h => oneChunk_any ⟨#[]⟩ W (Nat.zero_le _) h)
          have HTW := hideB2 (hextab_below HC.out HBW.out)
          rw [oneC_nil] at HF HO
          generalize chkP b m j = CP at *
          go_wp2_with (go_at_call 8; refine (HO.out _ HTW.out).mono ?_; rintro e w3 ⟨rfl, hb3⟩)
          go_ret
          exact ⟨ret_str HF.out, below_then HBW.out hb3⟩
set_option maxHeartbeats 4000000 in
theorem sChunkText_any (b : ByteArray) (n : Int) (w : World) (hb : b.size ≤ maxLen) :
    Calls Tryd.prog 4 #[.string b, .int .i64 n] w fun e w' => e = .returned (.string (chkB b n)) ∧ Below w.heap.size w w' := by
  unfold maxLen at hb
  by_cases h1 : (600 : Int) < (b.size : Int)
  · have HF := hideB2 (chkB_no (b := b) (n := n) (by omega))
    go_enter Tryd.func4, Tryd.ntmps4
    go_wp2
    go_ret
    exact ⟨ret_str HF.out, Below.refl _ _⟩
  · have d1 : decide ((600 : Int) < (b.size : Int)) = false := decide_eq_false h1
    by_cases h2 : n < 1
    · have HF := hideB2 (chkB_no (b := b) (n := n) (by omega))
      go_enter Tryd.func4, Tryd.ntmps4
      go_wp2
      go_ret
      exact ⟨ret_str HF.out, Below.refl _ _⟩
    · have d2 : decide (n < 1) = false := decide_eq_false h2
      by_cases h3 : (600 : Int) < n
      · have HF := hideB2 (chkB_no (b := b) (n := n) (by omega))
        go_enter Tryd.func4, Tryd.ntmps4
        go_wp2
        go_ret
        exact ⟨ret_str HF.out, Below.refl _ _⟩
      · have d3 : decide ((600 : Int) < n) = false := decide_eq_false h3
        obtain ⟨m, rfl⟩ := Int.eq_ofNat_of_zero_le (show 0 ≤ n by omega)
        have hm1 : 1 ≤ m := by omega
        have hm2 : m ≤ 600 := by omega
        have hb6 : b.size ≤ 600 := by omega
        have HY := hideB2 (fun j p hp h3 h4 => chkB_yes (b := b) (n := m) (j := j) (p := p) hb6 hm1 hm2 hp h3 h4)
        clear h2 h3 hb h1
        generalize hR : chkB b (m : Int) = R at *
        clear hR
        go_enter Tryd.func4, Tryd.ntmps4
        go_wp2
        go_loopw [5, 6] (fun t i wr => ∃ j p : Nat, Hid (p = j * m) ∧ i = .int .i64 p ∧ t = .string (chkP b m j) ∧ Hid (j = 0 ∨ p < b.size + m) ∧ p ≤ 1200 ∧ Below w.heap.size w wr) (fun _ i _ => b.size - (intOf i).toNat)
        case atStart => exact ⟨0, 0, by show 0 = 0 * m; omega, rfl, rfl, .inl rfl, by omega, Below.refl _ _⟩
        case round =>
          obtain ⟨j, p, hp, rfl, rfl, hj, hp12, hbw⟩ := hrel
          have hj6 := rounds_few hm1 hp.out hb6 hj.out
          have hsz := chkP_size (n := m) hb6 j
          have hsz2 : (chkP b m j).size ≤ 400000 := by omega
          clear hsz
          have HBW := hideB2 hbw
          clear hbw
          by_cases hlt : p < b.size
          · have hps := partB_small (p := p) (n := m) hb6
            have HPZ := hideB2 (partB_size (b := b) (p := p) (n := m) hlt)
            have HNX := hideB2 (show chkP b m (j + 1) = chkP b m j ++ oneC (partB b p m) by rw [hp.out]; rfl)
            have HP2 := hideB2 (show p + m = (j + 1) * m by rw [Nat.succ_mul, ← hp.out])
            by_cases hfit : (m : Int) < (b.size : Int) - (p : Int)
            · have HPart := hideB2 (show partB b p m = b.extract p (p + m) by unfold partB; congr 1; omega)
              have HC1 := hideB2 (show chkP b m (j + 1) = chkP b m j ++ hexT ((m : Nat) : Int) ++ ⟨#[13, 10]⟩ ++ b.extract p (p + m) ++ ⟨#[13, 10]⟩ by
                rw [HNX.out]
                unfold oneC
                rw [HPZ.out, HPart.out, show min (p + m) b.size - p = m by omega]
                apply bytes_ext2
                simp [Go.Joins.data_append])
              have HH := hideB2 (fun W => sHexText_all ((m : Nat) : Int) W)
              have hhs := hexT_size (n := ((m : Nat) : Int)) (by omega) (by omega)
              have i1 : IntKind.i64.wrap ((p : Int) + (m : Int)) = (p : Int) + (m : Int) := by rw [IntKind.wrap_i64]; omega
              have i2 : (p : Int) + (m : Int) ≤ (b.size : Int) := by omega
              have i3 : (p : Int) ≤ (p : Int) + (m : Int) := by omega
              generalize hexT ((m : Nat) : Int) = H at *
              generalize hCP : chkP b m j = CP at *
              clear hCP
              go_wp2
              go_region_with (go_at_call 6; refine (HH.out _).mono ?_; rintro e w3 ⟨rfl, rfl⟩)
              all_goals
                go_wp2
                refine ⟨⟨j + 1, p + m, HP2.out, by go_num, by rw [HC1.out], .inr (by omega), by omega, below_then HBW.out (Below.refl _ _).drew⟩, by simp [intOf]; omega⟩
            · obtain ⟨q, hq⟩ : ∃ q : Nat, q = b.size - p := ⟨_, rfl⟩
              have hqs : (b.size : Int) - (p : Int) = (q : Int) := by omega
              have hfit2 : ¬ (m : Int) < (q : Int) := by omega
              have d4 : decide ((m : Int) < (q : Int)) = false := decide_eq_false hfit2
              have hq6 : q ≤ 600 := by omega
              have HPart := hideB2 (show partB b p m = b.extract p (p + q) by unfold partB; congr 1; omega)
              have HC1 := hideB2 (show chkP b m (j + 1) = chkP b m j ++ hexT ((q : Nat) : Int) ++ ⟨#[13, 10]⟩ ++ b.extract p (p + q) ++ ⟨#[13, 10]⟩ by
                rw [HNX.out]
                unfold oneC
                rw [HPZ.out, HPart.out, show min (p + m) b.size - p = q by omega]
                apply bytes_ext2
                simp [Go.Joins.data_append])
              have HH := hideB2 (fun W => sHexText_all ((q : Nat) : Int) W)
              have hhs := hexT_size (n := ((q : Nat) : Int)) (by omega) (by omega)
              have i1 : IntKind.i64.wrap ((p : Int) + (q : Int)) = (p : Int) + (q : Int) := by rw [IntKind.wrap_i64]; omega
              have i2 : (p : Int) + (q : Int) ≤ (b.size : Int) := by omega
              have i3 : (p : Int) ≤ (p : Int) + (q : Int) := by omega
              generalize hexT ((q : Nat) : Int) = H at *
              generalize hCP : chkP b m j = CP at *
              clear hCP
              have HQ := hideB2 hq
              clear hq hfit
              go_wp2
              go_region_with (go_at_call 6; refine (HH.out _).mono ?_; rintro e w3 ⟨rfl, rfl⟩)
              all_goals
                go_wp2
                refine ⟨⟨j + 1, p + m, HP2.out, by go_num, by rw [HC1.out], .inr (by omega), by omega, below_then HBW.out (Below.refl _ _).drew⟩, by simp [intOf]; omega⟩
          · have HF := hideB2 (HY.out j p hp.out (by omega) hj.out)
            rw [oneC_nil] at HF
            generalize chkP b m j = CP at *
            go_wp2
            go_ret
            exact ⟨ret_str HF.out, HBW.out⟩
end Go.Proofs.YtaelopjalfapgacDoor
