/-
  impl.HexText and spec.HexText.
-/
import Derived.Test.YtaelopjalfapgacDoorWH1
namespace Go.Proofs.YtaelopjalfapgacDoor
set_option linter.unusedVariables false
set_option linter.unusedSimpArgs false
open Go.RowKit
abbrev HexTab (w : World) : Prop := w.cell? ⟨2, 15, none⟩ = some (.int .u8 4)
theorem hextab_below {w w' : World} (h : HexTab w) (hb : Below w.heap.size w w') : HexTab w' := by
  unfold HexTab
  rw [hb.cell (p := ⟨2, 15, none⟩) (World.block_lt_of_cell? _ _ h)]; exact h
def hexT (n : Int) : ByteArray := if 0 ≤ n ∧ n ≤ 268435455 then hexB n.toNat else ⟨#[]⟩
set_option maxHeartbeats 1000000 in
theorem FormatInt16 (u : Nat) (w : World) (hu : u ≤ 268435455) (hc : HexTab w) :
    Calls Tryd.prog 11 #[.int .i64 (u : Int), .int .i64 16] w fun e w' => e = .returned (.string (hexB u)) ∧ Below w.heap.size w w' := by
  have HH := hideB2 (formatBits_walk u w hu hc)
  clear hc
  go_enter Tryd.func11, Tryd.ntmps11
  go_wp2_with fail
  refine HH.out.mono ?_
  rintro e w1 ⟨rfl, hb⟩
  go_wp2
  go_ret
  exact ⟨rfl, hb⟩
set_option maxHeartbeats 1000000 in
theorem sFormatInt16 (u : Nat) (w : World) (hu : u ≤ 268435455) (hc : HexTab w) :
    Calls Tryd.prog 10 #[.int .i64 (u : Int), .int .i64 16] w fun e w' => e = .returned (.string (hexB u)) ∧ Below w.heap.size w w' := by
  have HH := hideB2 (FormatInt16 u w hu hc)
  clear hc
  go_enter Tryd.func10, Tryd.ntmps10
  go_wp2_with fail
  refine HH.out.mono ?_
  rintro e w1 ⟨rfl, hb⟩
  go_wp2
  go_ret
  exact ⟨rfl, hb⟩
set_option maxHeartbeats 1000000 in
theorem HexText_all (n : Int) (w : World) (hc : HexTab w) :
    Calls Tryd.prog 9 #[.int .i64 n] w fun e w' => e = .returned (.string (hexT n)) ∧ Below w.heap.size w w' := by
  by_cases h : 0 ≤ n ∧ n ≤ 268435455
  · obtain ⟨u, rfl⟩ := Int.eq_ofNat_of_zero_le h.1
    have hf : Hid (hexT (u : Int) = hexB u) := by show _ = _; unfold hexT; rw [if_pos h, Int.toNat_natCast]
    have HH := hideB2 (sFormatInt16 u w (by omega) hc)
    have h1 : ¬ (u : Int) < 0 := by omega
    have h2 : ¬ (268435455 : Int) < (u : Int) := by omega
    clear hc h
    go_enter Tryd.func9, Tryd.ntmps9
    go_wp2_with fail
    refine HH.out.mono ?_
    rintro e w1 ⟨rfl, hb⟩
    go_wp2
    go_ret
    exact ⟨ret_str hf.out, hb⟩
  · have hf : Hid (hexT n = ⟨#[]⟩) := by show _ = _; unfold hexT; rw [if_neg h]
    clear hc
    by_cases h0 : n < 0
    · clear h
      go_enter Tryd.func9, Tryd.ntmps9
      go_wp2
      go_ret
      exact ⟨ret_str hf.out, Below.refl _ _⟩
    · have h1 : (268435455 : Int) < n := by omega
      clear h
      go_enter Tryd.func9, Tryd.ntmps9
      go_wp2
      go_ret
      exact ⟨ret_str hf.out, Below.refl _ _⟩
theorem hexS_at (d : Nat) (hd : d < 16) : (⟨#[48, 49, 50, 51, 52, 53, 54, 55, 56, 57, 97, 98, 99, 100, 101, 102]⟩ : ByteArray).extract d (d + 1) = ⟨#[hexC d]⟩ := by
  have hds : d = 0 ∨ d = 1 ∨ d = 2 ∨ d = 3 ∨ d = 4 ∨ d = 5 ∨ d = 6 ∨ d = 7 ∨ d = 8 ∨ d = 9 ∨ d = 10 ∨ d = 11 ∨ d = 12 ∨ d = 13 ∨ d = 14 ∨ d = 15 := by omega
  rcases hds with rfl | rfl | rfl | rfl | rfl | rfl | rfl | rfl | rfl | rfl | rfl | rfl | rfl | rfl | rfl | rfl
  all_goals (apply bytes_ext; rw [extract_list]; rfl)
theorem hexB_size (u : Nat) (h : u ≤ 268435455) : (hexB u).size ≤ 7 := by
  show (hexL u).toArray.size ≤ 7
  simpa using hexL_len 6 u (by simp; omega)
set_option maxHeartbeats 1000000 in
theorem sHexText_nat (u : Nat) (w : World) (hu : u ≤ 268435455) :
    Calls Tryd.prog 6 #[.int .i64 (u : Int)] w fun e w' => e = .returned (.string (hexB u)) ∧ w' = w := by
  induction u using Nat.strongRecOn generalizing w with
  | _ u ih =>
    have h1 : ¬ (u : Int) < 0 := by omega
    have h2 : ¬ (268435455 : Int) < (u : Int) := by omega
    have hd : u % 16 < 16 := Nat.mod_lt _ (by omega)
    have hex := hexS_at (u % 16) hd
    have hmod : (u : Int) % 16 = ((u % 16 : Nat) : Int) := by omega
    by_cases h16 : (u : Int) < 16
    · have hfin : Hid (hexB u = ⟨#[hexC (u % 16)]⟩) := by show _ = _; unfold hexB; rw [hexL_lt (by omega), Nat.mod_eq_of_lt (by omega)]
      clear ih
      generalize hq : u % 16 = d at *
      have HQ := hideB2 hq
      clear hq
      go_enter Tryd.func6, Tryd.ntmps6
      go_wp2
      go_ret
      exact ⟨ret_str hfin.out, rfl⟩
    · have hfin : Hid (hexB u = hexB (u / 16) ++ ⟨#[hexC (u % 16)]⟩) := by
        show _ = _
        apply bytes_ext
        rw [ByteArray.data_append]
        unfold hexB
        rw [hexL_ge (by omega)]
        simp
      have hsz := hexB_size (u / 16) (by omega)
      have Hih : Hid (∀ (w : World), Calls Tryd.prog 6 #[.int .i64 ((u / 16 : Nat) : Int)] w fun e w' => e = .returned (.string (hexB (u / 16))) ∧ w' = w) := fun w => ih (u / 16) (by omega) w (by omega)
      have hdiv : (u : Int) / 16 = ((u / 16 : Nat) : Int) := by omega
      clear ih
      generalize hq : u % 16 = d at *
      generalize hr : u / 16 = q at *
      have HQ := hideB2 hq
      have HR := hideB2 hr
      clear hq hr
      go_enter Tryd.func6, Tryd.ntmps6
      go_wp2_with fail
      refine (Hih.out _).mono ?_
      rintro e w1 ⟨rfl, rfl⟩
      go_wp2
      go_ret
      exact ⟨ret_str hfin.out, rfl⟩
set_option maxHeartbeats 1000000 in
theorem sHexText_all (n : Int) (w : World) :
    Calls Tryd.prog 6 #[.int .i64 n] w fun e w' => e = .returned (.string (hexT n)) ∧ w' = w := by
  by_cases h : 0 ≤ n ∧ n ≤ 268435455
  · obtain ⟨u, rfl⟩ := Int.eq_ofNat_of_zero_le h.1
    have := sHexText_nat u w (by omega)
    unfold hexT
    rw [if_pos h, Int.toNat_natCast]
    exact this
  · have hf : Hid (hexT n = ⟨#[]⟩) := by show _ = _; unfold hexT; rw [if_neg h]
    by_cases h0 : n < 0
    · clear h
      go_enter Tryd.func6, Tryd.ntmps6
      go_wp2
      go_ret
      exact ⟨ret_str hf.out, rfl⟩
    · have h1 : (268435455 : Int) < n := by omega
      clear h
      go_enter Tryd.func6, Tryd.ntmps6
      go_wp2
      go_ret
      exact ⟨ret_str hf.out, rfl⟩
end Go.Proofs.YtaelopjalfapgacDoor
