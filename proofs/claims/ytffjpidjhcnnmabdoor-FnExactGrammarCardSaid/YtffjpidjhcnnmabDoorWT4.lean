/-
  The walks over chapter 2: the texts of spec.
-/
import Derived.Test.YtffjpidjhcnnmabDoorWT2
import Derived.Test.YtffjpidjhcnnmabDoorWC5
import Derived.Test.YtffjpidjhcnnmabDoorW4
namespace Go.Proofs.YtffjpidjhcnnmabDoor
set_option linter.unusedVariables false
set_option linter.unusedSimpArgs false
open Go.RowKit

/-- What spec's l2pad has made, after j rounds. -/
def padB (n j : Nat) : ByteArray := ⟨(List.replicate j 48 ++ Lib.decDigits n).toArray⟩
theorem padB_zero (n : Nat) : padB n 0 = decB n := rfl
theorem padB_succ (n j : Nat) : padB n (j + 1) = ⟨#[48]⟩ ++ padB n j := by
  apply bytes_ext
  show _ = ((⟨#[48]⟩ : ByteArray) ++ padB n j).data.toList
  rw [ByteArray.data_append]
  simp [padB, List.replicate_succ]
theorem padB_size (n j : Nat) : (padB n j).size = j + (Lib.decDigits n).length := by
  show (List.replicate j 48 ++ Lib.decDigits n).toArray.size = _
  simp
theorem padB_end (n p j : Nat) (hp : 1 ≤ p) (hn : n < 10 ^ p) (hj : j = p - (Lib.decDigits n).length) : padB n j = digB n p := by
  obtain ⟨q, rfl⟩ : ∃ q, p = q + 1 := ⟨p - 1, by omega⟩
  have := padL_dec q n hn
  unfold padB digB
  rw [← this, hj]
  rfl
theorem digB_mod (y : Nat) : digB (y % 100) 2 = digB y 2 := by
  unfold digB
  congr 2
  simp only [digL]
  have e1 : y % 100 / 10 ^ 1 % 10 = y / 10 ^ 1 % 10 := by omega
  have e2 : y % 100 / 10 ^ 0 % 10 = y / 10 ^ 0 % 10 := by omega
  rw [e1, e2]
theorem bday_dec (d : Nat) (h : d < 10) : bday d = ⟨#[32]⟩ ++ decB d := by
  unfold bday
  rw [if_pos h, ← padB_zero, padB_end d 1 0 (by omega) (by omega) (by have := dec_len_le 0 d (by omega); have := List.length_pos_iff.2 (decDigits_ne_nil d); omega)]
theorem bday_two (d : Nat) (h : ¬ d < 10) : bday d = digB d 2 := by unfold bday; rw [if_neg h]
set_option maxHeartbeats 1000000 in
theorem l2pad_nat (n p : Nat) (w : World) (hp0 : 1 ≤ p) (hp : p ≤ 4) (hn : n < 10 ^ p) :
    Calls Tryd.prog 46 #[.int .i64 (n : Int), .int .i64 (p : Int)] w fun e w' => e = .returned (.string (digB n p)) ∧ Below w.heap.size w w' := by
  have hn' : n < 10000 := Nat.lt_of_lt_of_le hn (by have : 10 ^ p ≤ 10 ^ 4 := Nat.pow_le_pow_right (by decide) hp
                                                    simpa using this)
  have hlen : (Lib.decDigits n).length ≤ p := by
    obtain ⟨q, rfl⟩ : ∃ q, p = q + 1 := ⟨p - 1, by omega⟩
    exact dec_len_le q n hn
  have hfin := hideB2 (fun j => padB_end n p j hp0 hn)
  have HD := hideB2 (sDecText_nat n w (by omega))
  clear hn
  go_enter Tryd.func46, Tryd.ntmps46
  go_wp2_with fail
  refine HD.out.mono ?_
  rintro e w1 ⟨rfl, hb1⟩
  clear HD
  rw [← padB_zero]
  go_wp2
  go_loop [5] (fun ss => ∃ j : Nat, j + (Lib.decDigits n).length ≤ p ∧ ss = .string (padB n j)) (fun ss => match ss with | .string b => p - b.size | _ => 0)
  case atStart => exact ⟨0, by omega, rfl⟩
  case round =>
    obtain ⟨j, hj, rfl⟩ := hrel
    have hsz := padB_size n j
    by_cases hlt : j + (Lib.decDigits n).length < p
    · have hlt' : ((padB n j).size : Int) < (p : Int) := by omega
      have hup := hideB2 (padB_succ n j)
      have hsz2 := hideB2 (padB_size n (j + 1))
      have HS := hideB2 hsz
      have hb4 : (padB n j).size ≤ 4 := by omega
      clear hsz
      go_wp2
      go_round
      case rel => exact ⟨j + 1, by omega, by rw [hup.out]⟩
      case measure => rw [← hup.out]; show p - (padB n (j + 1)).size < p - (padB n j).size; rw [hsz2.out, HS.out]; omega
    · have hlt' : ¬ ((padB n j).size : Int) < (p : Int) := by omega
      clear hsz
      go_wp2
      go_ret
      exact ⟨ret_str (hfin.out j (by omega)).symm, hb1⟩
theorem l2pad_at (n : Nat) (p : Int) (w : World) (h0 : 1 ≤ p) (h1 : p ≤ 4) (hn : n < 10 ^ p.toNat) :
    Calls Tryd.prog 46 #[.int .i64 (n : Int), .int .i64 p] w fun e w' => e = .returned (.string (digB n p.toNat)) ∧ Below w.heap.size w w' := by
  obtain ⟨q, rfl⟩ := Int.eq_ofNat_of_zero_le (a := p) (by omega)
  exact l2pad_nat n q w (by omega) (by omega) (by simpa using hn)
set_option maxHeartbeats 2000000 in
theorem l2clock_any (y m d : Int) (h i s : Nat) (w : World) (hh : h < 100) (hi : i < 100) (hs : s < 100) :
    Calls Tryd.prog 47 #[civ y m d h i s] w fun e w' => e = .returned (.string (clockB h i s)) ∧ Below w.heap.size w w' := by
  unfold clockB
  have hsz := digB_size
  have hA := below_a1 w (.cells #[.int .i64 y, .int .i64 m, .int .i64 d, .int .i64 h, .int .i64 i, .int .i64 s] 62)
  have gc := civAt_new w y m d h i s 62
  go_enter Tryd.func47, Tryd.ntmps47
  go_wp2
  generalize w.alloc (.cells #[.int .i64 y, .int .i64 m, .int .i64 d, .int .i64 h, .int .i64 i, .int .i64 s] 62) = W at *
  obtain ⟨g0, g1, g2, g3, g4, g5⟩ := gc.grw
  clear gc
  refine wp_region_grow ?_ ?_ ?_
  · kernel_rfl
  · kernel_rfl
  · intro hne
    repeat (go_big_quiet_step ((go_at_call 46; exact grow_call (l2pad_at _ 2 _ (by omega) (by omega) (by first | exact hh | exact hi | exact hs)))))
    refine wpQuiet_nil ?_
    rintro _ ⟨V, rfl⟩
    have hb := below_then hA (grw_below W V)
    go_wp2
    go_ret
    exact ⟨rfl, hb⟩
set_option maxHeartbeats 1000000 in
theorem sWarcDate_no (t : Int) (w : World) (h : ¬ (0 ≤ t ∧ t ≤ 253402300799)) :
    Calls Tryd.prog 29 #[.int .i64 t] w fun e w' => e = .returned (.string ⟨#[]⟩) ∧ Below w.heap.size w w' := by
  go_enter Tryd.func29, Tryd.ntmps29
  go_wp2_with fail
  refine (sCivilOf_no t _ h).mono ?_
  rintro e w1 ⟨rfl, hb1⟩
  have BW := below_then hb1 (below_a1 w1 (.cells #[.int .i64 0, .int .i64 0, .int .i64 0, .int .i64 0, .int .i64 0, .int .i64 0] 62))
  clear hb1 h
  go_wp2
  go_ret
  exact ⟨rfl, BW⟩
set_option maxHeartbeats 4000000 in
theorem sWarcDate_yes (t : Int) (y m d h i s : Nat) (w : World) (hv : vld y m d h i s) (ht : t = secs y m d h i s) :
    Calls Tryd.prog 29 #[.int .i64 t] w fun e w' => e = .returned (.string (warcB y m d h i s)) ∧ Below w.heap.size w w' := by
  have HH := hideB2 (sCivilOf_yes t y m d h i s w hv ht)
  have hb := secs_bd hv
  rw [← ht] at hb
  obtain ⟨ht0, ht1⟩ := hb
  have hdm := dim_bd y m
  obtain ⟨v1, v2, v3, v4, v5, v6, v7, v8, v9, v10, v11, v12⟩ := hv
  have hsz := digB_size
  have hcz := clockB_size h i s
  have hmz := monB_size (k := m) (by omega) (by omega)
  have hwd := wdN_lt t
  have hdz : ((dayB (wdN t)).extract 0 3).size = 3 := dayS_size hwd
  have hbz := bday_size d
  have hDz := dayB_size hwd
  have hD1 : ((dayB (wdN t)).size : Int) ≤ 9 := by omega
  have hD2 : (6 : Int) ≤ ((dayB (wdN t)).size : Int) := by omega
  clear ht hDz
  go_enter Tryd.func29, Tryd.ntmps29
  go_wp2_with fail
  refine HH.out.mono ?_
  rintro e w1 ⟨rfl, hb1⟩
  have BW := below_then hb1 (below_a1 w1 (.cells #[.int .i64 y, .int .i64 m, .int .i64 d, .int .i64 h, .int .i64 i, .int .i64 s] 62))
  have gc := civAt_new w1 y m d h i s 62
  clear hb1 HH
  go_wp2_with fail
  generalize w1.alloc (.cells #[.int .i64 y, .int .i64 m, .int .i64 d, .int .i64 h, .int .i64 i, .int .i64 s] 62) = W at *
  obtain ⟨g0, g1, g2, g3, g4, g5⟩ := gc.grw
  clear gc
  refine wp_region_grow ?_ ?_ ?_
  · kernel_rfl
  · kernel_rfl
  · intro hne
    repeat (go_big_quiet_step (first
      | (go_at_call 46; exact grow_call (l2pad_at _ _ _ (by omega) (by omega) (by simp; omega)))
      | (go_at_call 47; exact grow_call (l2clock_any _ _ _ h i s _ (by omega) (by omega) (by omega)))))
    refine wpQuiet_nil ?_
    rintro _ ⟨V, rfl⟩
    have hb := below_then BW (grw_below W V)
    clear g0 g1 g2 g3 g4 g5
    go_wp2
    go_ret
    exact ⟨rfl, hb⟩
end Go.Proofs.YtffjpidjhcnnmabDoor
