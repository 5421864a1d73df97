/-
  The walks over the drawing functions: l1PickInt, l1num.
-/
import Derived.Test.YtohdfdbpmmeidaaDoorWD4
import Derived.Test.YtohdfdbpmmeidaaDoorW4
namespace Go.Proofs.YtohdfdbpmmeidaaDoor
set_option linter.unusedVariables false
set_option linter.unusedSimpArgs false
open Go.RowKit
theorem cell_newZ (w : World) (c : Array Value) (t : TypeId) (j : Nat) (z : Int) (h : c[j]? = some (.int .i64 z)) (h1 : -1 ≤ z) (h2 : z ≤ 10000000000000000) : ∃ z : Int, -1 ≤ z ∧ z ≤ 10000000000000000 ∧ (w.alloc (.cells c t)).cell? ⟨w.heap.size, j, none⟩ = some (.int .i64 z) :=
  ⟨z, h1, h2, by simp only [World.cell?, heap_alloc_new]; exact h⟩
set_option maxHeartbeats 1000000 in
theorem l1PickInt_any (p b n cap : Nat) (w : World) (hd : Drw w p) (hne : b ≠ p) (hc : ∀ j, j < n → ∃ z : Int, -1 ≤ z ∧ z ≤ 10000000000000000 ∧ w.cell? ⟨b, j, none⟩ = some (.int .i64 z)) (h0 : 0 < n) (h1 : n ≤ 1000) :
    Calls Tryd.prog 23 #[.pointer (some ⟨p, 0, none⟩), .slice (some ⟨b, 0, none⟩) n cap] w fun e w' => (∃ z : Int, -1 ≤ z ∧ z ≤ 10000000000000000 ∧ e = .returned (.int .i64 z)) ∧ Kp p w w' ∧ Drw w' p := by
  go_enter Tryd.func23, Tryd.ntmps23
  go_wp2_with fail
  refine (l1Below_any p (n : Int) _ hd (by omega)).mono ?_
  rintro e w1 ⟨⟨m, hm, _, _, rfl⟩, hk1, hd1⟩
  have hmn : (m : Int) < (n : Int) := hm (by omega)
  obtain ⟨z, hz1, hz2, hcz⟩ := hc m (by omega)
  have hcz1 := hk1.cell hcz hne
  clear hc hcz hm
  go_wp2
  go_ret
  exact ⟨⟨z, hz1, hz2, rfl⟩, hk1, hd1⟩
theorem pow_le15 (t : Nat) : 10 ^ (15 - t) ≤ 1000000000000000 := by
  have : 10 ^ (15 - t) ≤ 10 ^ 15 := Nat.pow_le_pow_right (by decide) (by omega)
  simpa using this
theorem pow_step {N d t : Nat} (h : N < 10 ^ (15 - (t + 1))) (ht : t + 1 ≤ 15) (hd : d < 10) : N * 10 + d < 10 ^ (15 - t) := by
  rw [show 15 - t = (15 - (t + 1)) + 1 from by omega, Nat.pow_succ]; omega
set_option maxHeartbeats 2000000 in
theorem l1num_any (p : Nat) (w : World) (hd : Drw w p) :
    Calls Tryd.prog 11 #[.pointer (some ⟨p, 0, none⟩)] w fun e w' => (∃ z : Int, -1 ≤ z ∧ z ≤ 10000000000000000 ∧ e = .returned (.int .i64 z)) ∧ Kp p w w' ∧ Drw w' p := by
  go_enter Tryd.func11, Tryd.ntmps11
  go_wp2_with fail
  refine (l1Below_any p 6 _ hd (by omega)).mono ?_
  rintro e w1 ⟨⟨m, hm, _, _, rfl⟩, hk1, hd1⟩
  have hm6 : (m : Int) < 6 := hm (by omega)
  clear hm
  by_cases m0 : m = 0
  · subst m0
    go_wp2_with fail
    refine (l1Below_any p 12 _ hd1 (by omega)).mono ?_
    rintro e w2 ⟨⟨n, hn, _, _, rfl⟩, hk2, hd2⟩
    have hn2 : (n : Int) < 12 := hn (by omega)
    clear hn
    go_wp2
    go_ret
    exact ⟨⟨n, by omega, by omega, rfl⟩, hk1.trans hk2, hd2⟩
  · by_cases m1 : m = 1
    · subst m1
      have hlt := hd1.lt
      go_wp2_with fail
      refine (l1PickInt_any p w1.heap.size 14 14 _ (hd1.alloc _) (by omega) ?_ (by omega) (by omega)).mono ?_
      · intro j hj
        rcases j with _ | _ | _ | _ | _ | _ | _ | _ | _ | _ | _ | _ | _ | _ | j
        all_goals first | omega | exact cell_newZ _ _ _ _ _ rfl (by decide) (by decide)
      rintro e w2 ⟨⟨z, hz1, hz2, rfl⟩, hk2, hd2⟩
      go_wp2
      go_ret
      exact ⟨⟨z, hz1, hz2, rfl⟩, (hk1.alloc _).trans hk2, hd2⟩
    · have g0 : ((m : Int) == 0) = false := by rw [beq_eq_false_iff_ne]; omega
      have g1 : ((m : Int) == 1) = false := by rw [beq_eq_false_iff_ne]; omega
      go_wp2_with fail
      refine (l1Below_any p 15 _ hd1 (by omega)).mono ?_
      rintro e w2 ⟨⟨n, hn, _, _, rfl⟩, hk2, hd2⟩
      have hn2 : n < 15 := by have := hn (by omega); omega
      have hk := hk1.trans hk2
      clear hn hk1 hk2 hd1
      go_wp2_with fail
      go_loopw [3, 4] (fun nv kv wr => ∃ (N t : Nat), t ≤ 15 ∧ N < 10 ^ (15 - t) ∧ nv = .int .i64 (N : Int) ∧ kv = .int .i64 ((t : Int) - 1) ∧ Kp p w wr ∧ Drw wr p) (fun _ kv _ => (intOf kv + 1).toNat)
      case atStart => exact ⟨0, n + 1, by omega, Nat.pow_pos (by decide), rfl, by congr 1; omega, hk, hd2⟩
      case round =>
        obtain ⟨N, t, ht, hN, rfl, rfl, hkr, hdr⟩ := hrel
        clear hk hd2 hd hn2
        have hN15 : (N : Int) < 1000000000000000 := by have := pow_le15 t; omega
        have HN : Hid (N < 10 ^ (15 - t)) := hN
        clear hN
        rcases t with _ | t
        · have e0 : ((0 : Nat) : Int) - 1 = -1 := rfl
          rw [e0]
          go_wp2
          go_ret
          exact ⟨⟨N, by omega, by omega, rfl⟩, hkr, hdr⟩
        · have e0 : ((t + 1 : Nat) : Int) - 1 = (t : Int) := by omega
          rw [e0]
          have hge : (0 : Int) ≤ (t : Int) := by omega
          go_wp2_with fail
          refine (l1Below_any p 10 _ hdr (by omega)).mono ?_
          rintro e w3 ⟨⟨d, hd', _, _, rfl⟩, hk3, hd3⟩
          have hd10 : d < 10 := by have := hd' (by omega); omega
          have HS : Hid (N * 10 + d < 10 ^ (15 - t)) := pow_step HN.out ht hd10
          clear hd'
          go_wp2
          go_round
          case rel => exact ⟨N * 10 + d, t, by omega, HS.out, by go_num, by go_num, hkr.trans hk3, hd3⟩
          case measure => simp [intOf] <;> omega
end Go.Proofs.YtohdfdbpmmeidaaDoor
