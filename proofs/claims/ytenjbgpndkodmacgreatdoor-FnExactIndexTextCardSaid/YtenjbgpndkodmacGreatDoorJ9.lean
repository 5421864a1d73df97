/-
  The walks over chapter 2: what spec reads of a text. · The walks over chapter 2: spec.ReadWarcDate, ReadStamp. · Chapter 9: may a line stand in an index; its text; both sides. · The operations of a region that keeps its order, walked as quiet ones, at the class of the worlds that have grown out of one. · Chapter 9: may a line stand in an index; both sides. (written by mkn8.py) · Chapter 9: may a line stand in an index; the specification's side. (written by mkn8.py) · Chapter 9: IndexOk; both sides. · Operations whose guard reads a slot that nothing has filled: passed by, as the kernel reckons. · Chapter 9: IndexOk; both sides.
-/
import Derived.Test.YtenjbgpndkodmacGreatDoorJ2
import Derived.Test.YtenjbgpndkodmacGreatDoorJ8
import Derived.Test.YtenjbgpndkodmacGreatDoorJ7
import Derived.Test.YtenjbgpndkodmacGreatDoorJ0
import Derived.Test.YtenjbgpndkodmacGreatDoorJ1
import Derived.Test.YtenjbgpndkodmacGreatDoorJ3
import Derived.Test.YtenjbgpndkodmacGreatDoorJ6
import Derived.Deep.DeepCutAuto
namespace Go.Proofs.YtenjbgpndkodmacGreatDoor
set_option linter.unusedVariables false
set_option linter.unusedSimpArgs false
open Go.RowKit

theorem wd_eq : wdN' = wdN := rfl
theorem all_snoc (p : UInt8 → Bool) (l : List UInt8) (b : UInt8) : (l ++ [b]).all p = (l.all p && p b) := by rw [List.all_append]; simp
theorem nS_no {s : ByteArray} {k : Nat} (hk : k < s.size) (h : numb (at8 s k) = false) : nS s = -1 := by
  unfold nS numS
  rw [if_neg]
  intro hh
  rw [List.all_eq_true] at hh
  have hl : k < s.data.toList.length := by rw [len_data]; exact hk
  have := hh (s.data.toList[k]) (List.getElem_mem hl)
  have e : at8 s k = s.data.toList[k] := by simp [at8, List.getD, List.getElem?_eq_getElem hl]
  rw [e, this] at h
  cases h
theorem nS_yes {s : ByteArray} (h : s.data.toList.all numb = true) : nS s = ((valN s.data.toList : Nat) : Int) := by unfold nS numS; rw [if_pos h]
set_option maxHeartbeats 1000000 in
theorem l2num_any (s : ByteArray) (w : World) (hs : s.size ≤ 8) :
    Calls Tryz.prog 87 #[.string s] w fun e w' => e = .returned (.int .i64 (nS s)) ∧ w' = w := by
  go_enter Tryz.func87, Tryz.ntmps87
  go_wp2
  go_loop [3, 4] (fun n i => ∃ k : Nat, k ≤ s.size ∧ i = .int .i64 k ∧ n = .int .i64 ((valN (s.data.toList.take k) : Nat) : Int) ∧ (s.data.toList.take k).all numb = true) (fun _ i => s.size - (intOf i).toNat)
  case atStart => exact ⟨0, Nat.zero_le _, rfl, rfl, rfl⟩
  case round =>
    obtain ⟨k, hk, rfl, rfl, hall⟩ := hrel
    have Hall := hideB2 hall
    clear hall
    have hvl : valN (s.data.toList.take k) < 100000000 := by
      have h1 := valN_lt (s.data.toList.take k)
      have h3 : 10 ^ (s.data.toList.take k).length ≤ 10 ^ 8 := Nat.pow_le_pow_right (by decide) (by simp; omega)
      have h4 : (10 : Nat) ^ 8 = 100000000 := by decide
      omega
    by_cases hlt : k < s.size
    · have hval : Hid (valN (s.data.toList.take (k + 1)) = valN (s.data.toList.take k) * 10 + dv (at8 s k)) := by
        show _ = _
        rw [allDig_take_succ s k hlt, valN_snoc]
      have hal2 : Hid ((s.data.toList.take (k + 1)).all numb = numb (at8 s k)) := by
        show _ = _
        rw [allDig_take_succ s k hlt, all_snoc, Hall.out]; rfl
      by_cases hbl : at8 s k = 32
      · have hq : ((s[k].toNat : Int) == 32) = true := by rw [beq_iff_eq, at8_eq s k hlt, hbl]; rfl
        have hdv : Hid (dv (at8 s k) = 0) := by show _ = _; rw [hbl]; decide
        have hnb : Hid (numb (at8 s k) = true) := by show _ = _; rw [hbl]; decide
        clear hbl
        generalize valN (s.data.toList.take k) = v at *
        go_wp2
        go_round
        case rel => exact ⟨k + 1, by omega, by go_num, congrArg (Value.int .i64) (by rw [hval.out, hdv.out]; omega), by rw [hal2.out]; exact hnb.out⟩
        case measure => simp [intOf]; omega
      · have hq : ((s[k].toNat : Int) == 32) = false := by
          rw [beq_eq_false_iff_ne, at8_eq s k hlt]
          intro hh
          apply hbl
          apply UInt8.toNat_inj.1
          show (at8 s k).toNat = 32
          omega
        cases hg0 : dig8 (at8 s k)
        · have hg : digP (s[k].toNat : Int) = false := by rw [at8_eq s k hlt]; exact hg0
          have hfin : Hid (nS s = -1) := nS_no hlt (by unfold numb; rw [hg0]; simp [hbl])
          clear hg0 hbl
          generalize valN (s.data.toList.take k) = v at *
          go_wp2_with (go_at_call 88; refine (l1digit_any _ _).mono ?_; rintro e w' ⟨rfl, rfl⟩)
          go_ret
          exact ⟨ret_int hfin.out, rfl⟩
        · have hg : digP (s[k].toNat : Int) = true := by rw [at8_eq s k hlt]; exact hg0
          have hb := (dig8_iff _).1 hg0
          have hdv : Hid (dv (at8 s k) = s[k].toNat - 48) := by show _ = _; unfold dv; rw [if_pos hg0, at8_eq s k hlt]
          have hnb : Hid (numb (at8 s k) = true) := by show _ = _; unfold numb; rw [hg0]; simp
          have hb1 : 48 ≤ s[k].toNat := by rw [at8_eq s k hlt]; exact hb.1
          have hb2 : s[k].toNat ≤ 57 := by rw [at8_eq s k hlt]; exact hb.2
          clear hg0 hb hbl
          generalize valN (s.data.toList.take k) = v at *
          go_wp2_with (go_at_call 88; refine (l1digit_any _ _).mono ?_; rintro e w' ⟨rfl, rfl⟩)
          go_round
          case rel => exact ⟨k + 1, by omega, by go_num, congrArg (Value.int .i64) (by rw [hval.out, hdv.out]; omega), by rw [hal2.out]; exact hnb.out⟩
          case measure => simp [intOf]; omega
    · obtain rfl : k = s.size := by omega
      have ht : s.data.toList.take s.size = s.data.toList := List.take_of_length_le (by rw [len_data]; exact Nat.le_refl _)
      rw [ht] at Hall ⊢
      have hfin := hideB2 (nS_yes Hall.out)
      clear ht hvl
      generalize valN s.data.toList = v at *
      go_wp2
      go_ret
      exact ⟨ret_int hfin.out, rfl⟩
set_option maxHeartbeats 4000000 in
theorem l2at_no (y m d : Int) (c : ByteArray) (w : World) (hc : c.size = 8) (hv : vldB y m d (nS (c.extract 0 2)) (nS (c.extract 3 5)) (nS (c.extract 6 8)) = false) :
    Calls Tryz.prog 86 #[.int .i64 y, .int .i64 m, .int .i64 d, .string c] w fun e w' => e = .returned (.int .i64 (-1)) ∧ Below w.heap.size w w' := by
  have e0 : (c.extract 0 2).size ≤ 8 := by rw [ext_size c 0 2 (by omega) (by omega)]; omega
  have e1 : (c.extract 3 5).size ≤ 8 := by rw [ext_size c 3 5 (by omega) (by omega)]; omega
  have e2 : (c.extract 6 8).size ≤ 8 := by rw [ext_size c 6 8 (by omega) (by omega)]; omega
  have HS := hideB2 (fun w => sSecondsOf_no y m d (nS (c.extract 0 2)) (nS (c.extract 3 5)) (nS (c.extract 6 8)) w hv)
  clear hv
  go_enter Tryz.func86, Tryz.ntmps86
  go_wp2
  refine wp_region_grow ?_ ?_ ?_
  · kernel_rfl
  · kernel_rfl
  · intro hne
    repeat (go_big_quiet_step (first
      | (go_at_call 87; exact grow_same (l2num_any _ _ (by assumption)))
      | (go_at_call 110; exact grow_call (HS.out _))))
    refine wpQuiet_nil ?_
    rintro _ ⟨V, rfl⟩
    have hb := grw_below w V
    clear HS
    go_wp2
    go_ret
    exact ⟨rfl, hb⟩
set_option maxHeartbeats 4000000 in
theorem l2at_yes (y : Int) (m : Nat) (d h i s : Int) (c : ByteArray) (w : World) (hc : c.size = 8) (h0 : nS (c.extract 0 2) = h) (h1 : nS (c.extract 3 5) = i) (h2 : nS (c.extract 6 8) = s) (hv : vldB y m d h i s = true) :
    Calls Tryz.prog 86 #[.int .i64 y, .int .i64 (m : Int), .int .i64 d, .string c] w fun e w' => e = .returned (.int .i64 (secs y m d h i s)) ∧ Below w.heap.size w w' := by
  subst h0 h1 h2
  have e0 : (c.extract 0 2).size ≤ 8 := by rw [ext_size c 0 2 (by omega) (by omega)]; omega
  have e1 : (c.extract 3 5).size ≤ 8 := by rw [ext_size c 3 5 (by omega) (by omega)]; omega
  have e2 : (c.extract 6 8).size ≤ 8 := by rw [ext_size c 6 8 (by omega) (by omega)]; omega
  have HS := hideB2 (fun w => sSecondsOf_yes y m d (nS (c.extract 0 2)) (nS (c.extract 3 5)) (nS (c.extract 6 8)) w hv)
  clear hv
  go_enter Tryz.func86, Tryz.ntmps86
  go_wp2
  refine wp_region_grow ?_ ?_ ?_
  · kernel_rfl
  · kernel_rfl
  · intro hne
    repeat (go_big_quiet_step (first
      | (go_at_call 87; exact grow_same (l2num_any _ _ (by assumption)))
      | (go_at_call 110; exact grow_call (HS.out _))))
    refine wpQuiet_nil ?_
    rintro _ ⟨V, rfl⟩
    have hb := grw_below w V
    clear HS
    go_wp2
    go_ret
    exact ⟨rfl, hb⟩
end Go.Proofs.YtenjbgpndkodmacGreatDoor
namespace Go.Proofs.YtenjbgpndkodmacGreatDoor
set_option linter.unusedVariables false
set_option linter.unusedSimpArgs false
open Go.RowKit
/-- The walk of spec.ReadStamp, once it is known what its parts make. -/
theorem sReadStamp_at (a x : ByteArray) (t : Int) (w : World) (hsz : a.size = 14) (hxs : x.size ≤ 100)
    (hat : ∀ w, Calls Tryz.prog 86 #[.int .i64 (nS (a.extract 0 4)), .int .i64 (nS (a.extract 4 6)), .int .i64 (nS (a.extract 6 8)), .string (colons (a.extract 8 10) (a.extract 10 12) (a.extract 12 14))] w fun e w' => e = .returned (.int .i64 t) ∧ Below w.heap.size w w')
    (hwr : ∀ w, Calls Tryz.prog 55 #[.int .i64 t] w fun e w' => e = .returned (.string x) ∧ Below w.heap.size w w') :
    Calls Tryz.prog 64 #[.string a] w fun e w' => e = .returned (.tuple #[.int .i64 (rdT x a t), .bool (eqB x a)]) ∧ Below w.heap.size w w' := by
  have e0 : ((a.extract 0 4)).size ≤ 8 := by rw [ext_size a 0 4 (by omega) (by omega)]; omega
  have e1 : ((a.extract 4 6)).size ≤ 8 := by rw [ext_size a 4 6 (by omega) (by omega)]; omega
  have e2 : ((a.extract 6 8)).size ≤ 8 := by rw [ext_size a 6 8 (by omega) (by omega)]; omega
  have z1 : (a.extract 8 10).size = 2 := by rw [ext_size a 8 10 (by omega) (by omega)]
  have z2 : (a.extract 10 12).size = 2 := by rw [ext_size a 10 12 (by omega) (by omega)]
  have z3 : (a.extract 12 14).size = 2 := by rw [ext_size a 12 14 (by omega) (by omega)]
  obtain ⟨hcs, k1, k2, k3⟩ := colons_pos z1 z2 z3
  have zz : a.extract 8 10 ++ ⟨#[58]⟩ ++ a.extract 10 12 ++ ⟨#[58]⟩ ++ a.extract 12 14 = colons (a.extract 8 10) (a.extract 10 12) (a.extract 12 14) := rfl
  clear k1 k2 k3 hcs
  have HA := hideB2 hat
  have HW := hideB2 hwr
  clear hat hwr
  have hb : ((a.size : Int) != 14) = false := by rw [bne_eq_false_iff_eq]; omega
  go_enter Tryz.func64, Tryz.ntmps64
  go_wp2
  refine wp_region_grow ?_ ?_ ?_
  · kernel_rfl
  · kernel_rfl
  · intro hne
    repeat (go_big_quiet_step (first
      | (go_at_call 87; exact grow_same (l2num_any _ _ (by assumption)))
      | (go_at_call 86; exact grow_call (HA.out _))))
    refine wpQuiet_nil ?_
    rintro _ ⟨V, rfl⟩
    have hb2 := grw_below w V
    generalize grw w V = W at *
    clear HA
    go_wp2_with fail
    refine (HW.out _).mono ?_
    rintro e w2 ⟨rfl, hb3⟩
    have hb4 := below_then hb2 hb3
    clear hb2 hb3 HW
    cases he : eqB x a
    · have HE : Hid (rdT x a t = 0 ∧ eqB x a = false) := ⟨by unfold rdT; rw [he]; rfl, he⟩
      unfold eqB at he
      go_wp2
      go_ret2
      exact ⟨ret_ib2 HE.out.1 HE.out.2, hb4⟩
    · have HE : Hid (rdT x a t = t ∧ eqB x a = true) := ⟨by unfold rdT; rw [he]; rfl, he⟩
      unfold eqB at he
      go_wp2
      go_ret2
      exact ⟨ret_ib2 HE.out.1 HE.out.2, hb4⟩
set_option maxHeartbeats 1000000 in
theorem sReadStamp_size (a : ByteArray) (w : World) (hsz : a.size ≠ 14) :
    Calls Tryz.prog 64 #[.string a] w fun e w' => e = .returned (.tuple #[.int .i64 0, .bool false]) ∧ Below w.heap.size w w' := by
  have hb : ((a.size : Int) != 14) = true := by rw [bne_iff_ne]; omega
  clear hsz
  go_enter Tryz.func64, Tryz.ntmps64
  go_wp2
  go_ret2
  exact ⟨rfl, Below.refl _ _⟩
theorem sReadStamp_ex (a : ByteArray) : ∃ t b, Res (IsF 9999 stampF a) t b ∧ ∀ w, Calls Tryz.prog 64 #[.string a] w fun e w' => e = .returned (.tuple #[.int .i64 t, .bool b]) ∧ Below w.heap.size w w' := by
  by_cases hsz : a.size = 14
  · have hr := stamp_readsS a
    have e0 : ((a.extract 0 4)).size ≤ 8 := by rw [ext_size a 0 4 (by omega) (by omega)]; omega
    have e1 : ((a.extract 4 6)).size ≤ 8 := by rw [ext_size a 4 6 (by omega) (by omega)]; omega
    have e2 : ((a.extract 6 8)).size ≤ 8 := by rw [ext_size a 6 8 (by omega) (by omega)]; omega
    have z1 : (a.extract 8 10).size = 2 := by rw [ext_size a 8 10 (by omega) (by omega)]
    have z2 : (a.extract 10 12).size = 2 := by rw [ext_size a 10 12 (by omega) (by omega)]
    have z3 : (a.extract 12 14).size = 2 := by rw [ext_size a 12 14 (by omega) (by omega)]
    obtain ⟨hcs, k1, k2, k3⟩ := colons_pos z1 z2 z3
    cases hv : vldB (nS (a.extract 0 4)) (nS (a.extract 4 6)) (nS (a.extract 6 8)) (nS (a.extract 8 10)) (nS (a.extract 10 12)) (nS (a.extract 12 14))
    · have hC := fun w => sReadStamp_at a ⟨#[]⟩ (-1) w hsz (by decide) (fun w => l2at_no _ _ _ _ w hcs (by rw [k1, k2, k3]; exact hv)) (fun w => sStamp_no (-1) w (by omega))
      have hne : eqB ⟨#[]⟩ a = false := Bool.eq_false_iff.2 fun hh => by
        have := congrArg ByteArray.size (eqB_iff.1 hh)
        rw [hsz] at this
        cases this
      refine ⟨0, false, .inr ⟨rfl, rfl, hr.none_of hv⟩, fun w => ?_⟩
      have h' := hC w
      rw [hne, show rdT ⟨#[]⟩ a (-1) = 0 by unfold rdT; rw [hne]; rfl] at h'
      exact h'
    · obtain ⟨y, m, d, h, i, s, e1, e2, e3, e4, e5, e6, v⟩ := nats_of hv
      have hat : ∀ w, Calls Tryz.prog 86 #[.int .i64 (nS (a.extract 0 4)), .int .i64 (nS (a.extract 4 6)), .int .i64 (nS (a.extract 6 8)), .string (colons (a.extract 8 10) (a.extract 10 12) (a.extract 12 14))] w fun e w' => e = .returned (.int .i64 (secs y m d h i s)) ∧ Below w.heap.size w w' := by
        intro w
        rw [e1, e2, e3]
        exact l2at_yes y m d h i s _ w hcs (by rw [k1]; exact e4) (by rw [k2]; exact e5) (by rw [k3]; exact e6) (vldB_iff.2 v)
      have hC := fun w => sReadStamp_at a (stampB y m d h i s) (secs y m d h i s) w hsz (by rw [stamp_size]; omega) hat (fun w => sStamp_yes _ y m d h i s w v rfl)
      rw [e1, e2, e3, e4, e5, e6] at hr
      cases he : eqB (stampB y m d h i s) a
      · refine ⟨0, false, .inr ⟨rfl, rfl, hr.none_ne fun hh => ?_⟩, fun w => ?_⟩
        · rw [hh] at he
          have := eqB_self (stampB y m d h i s)
          unfold stampF at he
          rw [this] at he
          cases he
        · have h' := hC w
          rw [he, show rdT (stampB y m d h i s) a (secs y m d h i s) = 0 by unfold rdT; rw [he]; rfl] at h'
          exact h'
      · refine ⟨secs y m d h i s, true, .inl ⟨rfl, y, m, d, h, i, s, v, by have := (vbd v).2.1; omega, rfl, (eqB_iff.1 he).symm⟩, fun w => ?_⟩
        have h' := hC w
        rw [he, show rdT (stampB y m d h i s) a (secs y m d h i s) = secs y m d h i s by unfold rdT; rw [he]; rfl] at h'
        exact h'
  · exact ⟨0, false, .inr ⟨rfl, rfl, fun t ⟨y, m, d, h, i, s, _, _, _, ea⟩ => hsz (by rw [ea]; exact stamp_size _ _ _ _ _ _)⟩, fun w => sReadStamp_size a w hsz⟩
end Go.Proofs.YtenjbgpndkodmacGreatDoor
namespace Go.Proofs.YtenjbgpndkodmacGreatDoor
set_option linter.unusedVariables false
set_option linter.unusedSimpArgs false
open Go.RowKit
theorem Stamp_all (t : Int) (w : World) (hT : MonTab w) :
    Calls Tryz.prog 59 #[.int .i64 t] w fun e w' => e = .returned (.string (stpT t)) ∧ Below w.heap.size w w' := by
  by_cases ht : 0 ≤ t ∧ t ≤ 253402300799
  · obtain ⟨y, m, d, h, i, s, hv, e, e2⟩ := stpT_ex ht
    rw [e2]
    exact Stamp_yes t y m d h i s w hT hv e
  · rw [stpT_no ht]
    exact Stamp_no t w ht
theorem sStamp_all (t : Int) (w : World) :
    Calls Tryz.prog 55 #[.int .i64 t] w fun e w' => e = .returned (.string (stpT t)) ∧ Below w.heap.size w w' := by
  by_cases ht : 0 ≤ t ∧ t ≤ 253402300799
  · obtain ⟨y, m, d, h, i, s, hv, e, e2⟩ := stpT_ex ht
    rw [e2]
    exact sStamp_yes t y m d h i s w hv e
  · rw [stpT_no ht]
    exact sStamp_no t w ht
theorem ReadStamp_all (a : ByteArray) (w : World) (hM : MonTab w) :
    Calls Tryz.prog 91 #[.string a] w fun e w' => e = .returned (.tuple #[.int .i64 (rsN a), .bool (rsO a)]) ∧ Below w.heap.size w w' := by
  obtain ⟨t, b, h1, h2⟩ := ReadStamp_ex a
  obtain ⟨rfl, rfl⟩ := rs_same h1
  exact h2 w hM
theorem sReadStamp_all (a : ByteArray) (w : World) :
    Calls Tryz.prog 64 #[.string a] w fun e w' => e = .returned (.tuple #[.int .i64 (rsN a), .bool (rsO a)]) ∧ Below w.heap.size w w' := by
  obtain ⟨t, b, h1, h2⟩ := sReadStamp_ex a
  obtain ⟨rfl, rfl⟩ := rs_same h1
  exact h2 w
set_option maxRecDepth 100000 in
theorem sideWord_any (n : Int) (w : World) : Calls Tryz.prog 60 #[.int .i64 n] w fun e w' => e = .returned (.string (sdW n)) ∧ w' = w := by
  by_cases h : n = 1
  · rw [show sdW n = ⟨#[111]⟩ by unfold sdW; rw [if_pos h]]
    subst h
    go_enter Tryz.func60, Tryz.ntmps60
    go_wp2
    go_ret
    exact ⟨rfl, rfl⟩
  · rw [show sdW n = ⟨#[99]⟩ by unfold sdW; rw [if_neg h]]
    have hb : (n == 1) = false := by simpa using h
    go_enter Tryz.func60, Tryz.ntmps60
    go_wp2
    go_ret
    exact ⟨rfl, rfl⟩
set_option maxRecDepth 100000 in
theorem kindWord_any (b : Bool) (w : World) : Calls Tryz.prog 62 #[.bool b] w fun e w' => e = .returned (.string (rvW b)) ∧ w' = w := by
  cases b
  all_goals
    go_enter Tryz.func62, Tryz.ntmps62
    go_wp2
    go_ret
    exact ⟨rfl, rfl⟩
set_option maxRecDepth 100000 in
set_option maxHeartbeats 1000000 in
theorem l9method_any (s : ByteArray) (w : World) (hs : s.size ≤ maxLen) :
    Calls Tryz.prog 72 #[.string s] w fun e w' => e = .returned (.bool (methQ s)) ∧ w' = w := by
  have HT := hideB2 (fun W => sToken_any s W hs)
  unfold maxLen at hs
  have HM : Hid (methQ s = (tokB s && decide ((s.size : Int) ≤ 20))) := rfl
  generalize methQ s = m at *
  generalize tokB s = tk at *
  by_cases h : (s.size : Int) ≤ 20
  · have HR := hideB2 (show m = tk by rw [HM.out, decide_eq_true h, Bool.and_true])
    clear HM
    go_enter Tryz.func72, Tryz.ntmps72
    go_wp2_with (go_at_call 97; refine (HT.out _).mono ?_; rintro e w' ⟨rfl, rfl⟩)
    go_ret
    exact ⟨ret_bool HR.out, rfl⟩
  · have HR := hideB2 (show m = false by rw [HM.out, decide_eq_false h, Bool.and_false])
    clear HM
    go_enter Tryz.func72, Tryz.ntmps72
    go_wp2
    go_ret
    exact ⟨ret_bool HR.out, rfl⟩
end Go.Proofs.YtenjbgpndkodmacGreatDoor
namespace Go.Proofs.YtenjbgpndkodmacGreatDoor
set_option linter.unusedVariables false
set_option linter.unusedSimpArgs false
open Go.RowKit
theorem wpList_of_quiet {P : Program} {ops : Array Oper} {C : World → Prop} {Q : Exit → Act → World → Prop} : ∀ (l : List Oper) (a : Act) (w : World), C w → wpQuiet P ops C (fun a' => ∀ w', C w' → Q .normal a' w') l a → wpList P ops Q l a w
  | [], a, w, hw, h => h w hw
  | o :: l, a, w, hw, h => by
    unfold wpQuiet at h
    unfold wpList
    split
    · rename_i hd
      rw [if_pos hd] at h
      exact .inl (Oper.wp_of_quiet hw (fun a' w' hw' hh => wpList_of_quiet l a' w' hw' hh) h)
    · rename_i hd
      rw [if_neg hd] at h
      exact wpList_of_quiet l _ w hw h
theorem wp_quiet_from (d : Nat) {P : Program} {ops : Array Oper} {Q : Exit → Act → World → Prop} {o : Oper} {rest : List Oper} {a : Act} {w : World} (hd : o.dst = some d)
    (h : Nonempty (Gr w) → wpQuiet P ops (fun w' => ∃ V, w' = grw w V) (fun a' => ∀ w', (∃ V, w' = grw w V) → Q .normal a' w') (o :: rest) a) : wpList P ops Q (o :: rest) a w :=
  wpList_of_quiet (o :: rest) a w ⟨⟨w, Below.refl _ _⟩, rfl⟩ (h ⟨⟨w, Below.refl _ _⟩⟩)
theorem wp_quiet_here {P : Program} {ops : Array Oper} {Q : Exit → Act → World → Prop} {l : List Oper} {a : Act} {w : World}
    (h : Nonempty (Gr w) → wpQuiet P ops (fun w' => ∃ V, w' = grw w V) (fun a' => ∀ w', (∃ V, w' = grw w V) → Q .normal a' w') l a) : wpList P ops Q l a w :=
  wpList_of_quiet l a w ⟨⟨w, Below.refl _ _⟩, rfl⟩ (h ⟨⟨w, Below.refl _ _⟩⟩)
theorem quiet_pass {P : Program} {ops : Array Oper} {C : World → Prop} {Q : Act → Prop} {o : Oper} {rest : List Oper} {a : Act} (hw : Region.wanted o (yielded ops a.tmps) = false) (hp : a.put o.dst undef = a)
    (h : wpQuiet P ops C Q rest a) : wpQuiet P ops C Q (o :: rest) a := by
  unfold wpQuiet
  rw [hw, if_neg (by simp), hp]
  exact h
end Go.Proofs.YtenjbgpndkodmacGreatDoor
namespace Go.Proofs.YtenjbgpndkodmacGreatDoor
set_option linter.unusedVariables false
set_option linter.unusedSimpArgs false
open Go.RowKit
set_option maxRecDepth 100000 in
set_option maxHeartbeats 8000000 in
theorem LineOk_any (x : Lx) (w : World) (h1 : x.ke.size ≤ 1048576) (h2 : x.me.size ≤ 1048576) (h3 : x.la.size ≤ 1048576) (htab : Tab10 w) :
    Calls Tryz.prog 58 #[lxV x] w fun e w' => e = .returned (.bool (linQ x)) ∧ Below w.heap.size w w' := by
  have HU := hideB2 (fun W (h : Tab10 W) => Unsurt_any x.ke W h1 h)
  have HT := hideB2 htab
  clear htab
  obtain ⟨dl, hdl⟩ := rlV_rlO x.la
  have HL := hideB2 (fun W => ReadLabel_any x.la W (by unfold maxLen; omega))
  rw [hdl] at HL
  have HM := hideB2 (fun W => methodOk_any x.me W (by unfold maxLen; omega))
  have HQ : Hid (linQ x = (usO x.ke && (rlO x.la && (timeB x.ti && (withinB x.si 0 1 && (methQ x.me && (stQ x.st && (withinB x.se 0 39 && (withinB x.wh 0 60000 && withinB x.sz 0 60000))))))))) := rfl
  clear hdl h1 h2 h3
  have B1 := Blk.new w (lxC x) 45
  have HB := hideB2 (below_a1 w (.cells (lxC x) 45))
  generalize linQ x = r at *
  generalize usO x.ke = c1 at *
  generalize usU x.ke = U at *
  generalize rlO x.la = c2 at *
  generalize methQ x.me = c5 at *
  generalize hc3 : timeB x.ti = c3 at *
  generalize hc4 : withinB x.si 0 1 = c4 at *
  generalize hc6 : stQ x.st = c6 at *
  generalize hc7 : withinB x.se 0 39 = c7 at *
  generalize hc8 : withinB x.wh 0 60000 = c8 at *
  generalize hc9 : withinB x.sz 0 60000 = c9 at *
  obtain ⟨ho, pa, qu, po, hq⟩ := U
  obtain ⟨ke, ti, si, me, st, la, rv, se, wh, sz⟩ := x
  unfold lxV
  unfold lxC at *
  simp only at *
  go_enter Tryz.func58, Tryz.ntmps58
  go_wp2_with fail
  refine (HU.out _ (tab_later HT.out HB.out)).mono ?_
  rintro e1 w1 ⟨rfl, hb1⟩
  unfold valU
  simp only
  have B2 := B1.later hb1
  have HB2 := hideB2 (below_then HB.out hb1)
  clear hb1 B1 HB HU HT
  obtain ⟨p0, p1, p2, p3, p4, p5, p6, p7, p8, p9⟩ := (B2.alloc (.cells #[.string ho, .int .i64 po, .string pa, .string qu, .bool hq] 84)).c10
  have HB1 := hideB2 B2
  clear B2
  go_wp2_with fail
  refine (HL.out _).mono ?_
  rintro e2 w2 ⟨rfl, hb2⟩
  have B3 := (HB1.out.alloc (.cells #[.string ho, .int .i64 po, .string pa, .string qu, .bool hq] 84)).later hb2
  have HB3 := hideB2 (below_then (below_then HB2.out (below_a1 w1 (.cells #[.string ho, .int .i64 po, .string pa, .string qu, .bool hq] 84))) hb2)
  clear p0 p1 p2 p3 p4 p5 p6 p7 p8 p9 hb2 HB1 HB2 HL
  rename_i K1 hK1 K2 hK2
  refine hK2 _ _ ?_
  refine wp_quiet_here (fun hne0 => ?_)
  repeat (go_big_quiet_step (fail))
  refine wpQuiet_nil ?_
  rintro _ ⟨V0, rfl⟩
  refine hK1 _ _ ?_
  have B4 := B3.later (grw_below w2 V0)
  have HB4 := hideB2 (below_then HB3.out (grw_below w2 V0))
  clear B3 HB3 hK1 hK2
  generalize grw w2 V0 = w2 at *
  refine wp_seq_k ?_
  intro K3 hK3
  refine wp_region_lit ?_
  obtain ⟨p0, p1, p2, p3, p4, p5, p6, p7, p8, p9⟩ := B4.c10
  have a0 := fun V => grw_some p0 V
  have a1 := fun V => grw_some p1 V
  have a2 := fun V => grw_some p2 V
  have a3 := fun V => grw_some p3 V
  have a4 := fun V => grw_some p4 V
  have a5 := fun V => grw_some p5 V
  have a6 := fun V => grw_some p6 V
  have a7 := fun V => grw_some p7 V
  have a8 := fun V => grw_some p8 V
  have a9 := fun V => grw_some p9 V
  clear p0 p1 p2 p3 p4 p5 p6 p7 p8 p9 B4
  have HBV := hideB2 (fun V => below_then HB4.out (grw_below _ V))
  clear HB4
  refine wp_quiet_here (fun hne => ?_)
  cases c1
  · skip
    have HR := hideB2 (show r = false by rw [HQ.out]; rfl)
    clear HQ
    repeat (go_big_quiet_step (first
      | (go_at_call 37; exact grow_same (isTime_any _ _))
      | (go_at_call 53; exact grow_same (within_any _ _ _ _))
      | (go_at_call 80; exact grow_same (HM.out _))
      | (go_at_call 81; exact grow_same (statusOk_any _ _))))
    refine wpQuiet_nil ?_
    rintro _ ⟨V, rfl⟩
    have HB3 := hideB2 (HBV.out V)
    clear a0 a1 a2 a3 a4 a5 a6 a7 a8 a9 HBV
    refine hK3 _ _ ?_
    clear hK3
    generalize grw _ V = w3 at *
    go_wp2
    go_ret
    exact ⟨ret_bool HR.out, HB3.out⟩
  · skip
    cases c2
    · skip
      have HR := hideB2 (show r = false by rw [HQ.out]; rfl)
      clear HQ
      repeat (go_big_quiet_step (first
        | (go_at_call 37; exact grow_same (isTime_any _ _))
        | (go_at_call 53; exact grow_same (within_any _ _ _ _))
        | (go_at_call 80; exact grow_same (HM.out _))
        | (go_at_call 81; exact grow_same (statusOk_any _ _))))
      refine wpQuiet_nil ?_
      rintro _ ⟨V, rfl⟩
      have HB3 := hideB2 (HBV.out V)
      clear a0 a1 a2 a3 a4 a5 a6 a7 a8 a9 HBV
      refine hK3 _ _ ?_
      clear hK3
      generalize grw _ V = w3 at *
      go_wp2
      go_ret
      exact ⟨ret_bool HR.out, HB3.out⟩
    · skip
      cases c3
      · skip
        have HR := hideB2 (show r = false by rw [HQ.out]; rfl)
        clear HQ
        repeat (go_big_quiet_step (first
          | (go_at_call 37; exact grow_same (isTime_any _ _))
          | (go_at_call 53; exact grow_same (within_any _ _ _ _))
          | (go_at_call 80; exact grow_same (HM.out _))
          | (go_at_call 81; exact grow_same (statusOk_any _ _))))
        refine wpQuiet_nil ?_
        rintro _ ⟨V, rfl⟩
        have HB3 := hideB2 (HBV.out V)
        clear a0 a1 a2 a3 a4 a5 a6 a7 a8 a9 HBV
        refine hK3 _ _ ?_
        clear hK3
        generalize grw _ V = w3 at *
        go_wp2
        go_ret
        exact ⟨ret_bool HR.out, HB3.out⟩
      · skip
        cases c4
        · skip
          have HR := hideB2 (show r = false by rw [HQ.out]; rfl)
          clear HQ
          repeat (go_big_quiet_step (first
            | (go_at_call 37; exact grow_same (isTime_any _ _))
            | (go_at_call 53; exact grow_same (within_any _ _ _ _))
            | (go_at_call 80; exact grow_same (HM.out _))
            | (go_at_call 81; exact grow_same (statusOk_any _ _))))
          refine wpQuiet_nil ?_
          rintro _ ⟨V, rfl⟩
          have HB3 := hideB2 (HBV.out V)
          clear a0 a1 a2 a3 a4 a5 a6 a7 a8 a9 HBV
          refine hK3 _ _ ?_
          clear hK3
          generalize grw _ V = w3 at *
          go_wp2
          go_ret
          exact ⟨ret_bool HR.out, HB3.out⟩
        · skip
          cases c5
          · skip
            have HR := hideB2 (show r = false by rw [HQ.out]; rfl)
            clear HQ
            repeat (go_big_quiet_step (first
              | (go_at_call 37; exact grow_same (isTime_any _ _))
              | (go_at_call 53; exact grow_same (within_any _ _ _ _))
              | (go_at_call 80; exact grow_same (HM.out _))
              | (go_at_call 81; exact grow_same (statusOk_any _ _))))
            refine wpQuiet_nil ?_
            rintro _ ⟨V, rfl⟩
            have HB3 := hideB2 (HBV.out V)
            clear a0 a1 a2 a3 a4 a5 a6 a7 a8 a9 HBV
            refine hK3 _ _ ?_
            clear hK3
            generalize grw _ V = w3 at *
            go_wp2
            go_ret
            exact ⟨ret_bool HR.out, HB3.out⟩
          · skip
            cases c6
            · skip
              have HR := hideB2 (show r = false by rw [HQ.out]; rfl)
              clear HQ
              repeat (go_big_quiet_step (first
                | (go_at_call 37; exact grow_same (isTime_any _ _))
                | (go_at_call 53; exact grow_same (within_any _ _ _ _))
                | (go_at_call 80; exact grow_same (HM.out _))
                | (go_at_call 81; exact grow_same (statusOk_any _ _))))
              refine wpQuiet_nil ?_
              rintro _ ⟨V, rfl⟩
              have HB3 := hideB2 (HBV.out V)
              clear a0 a1 a2 a3 a4 a5 a6 a7 a8 a9 HBV
              refine hK3 _ _ ?_
              clear hK3
              generalize grw _ V = w3 at *
              go_wp2
              go_ret
              exact ⟨ret_bool HR.out, HB3.out⟩
            · skip
              cases c7
              · skip
                have HR := hideB2 (show r = false by rw [HQ.out]; rfl)
                clear HQ
                repeat (go_big_quiet_step (first
                  | (go_at_call 37; exact grow_same (isTime_any _ _))
                  | (go_at_call 53; exact grow_same (within_any _ _ _ _))
                  | (go_at_call 80; exact grow_same (HM.out _))
                  | (go_at_call 81; exact grow_same (statusOk_any _ _))))
                refine wpQuiet_nil ?_
                rintro _ ⟨V, rfl⟩
                have HB3 := hideB2 (HBV.out V)
                clear a0 a1 a2 a3 a4 a5 a6 a7 a8 a9 HBV
                refine hK3 _ _ ?_
                clear hK3
                generalize grw _ V = w3 at *
                go_wp2
                go_ret
                exact ⟨ret_bool HR.out, HB3.out⟩
              · skip
                cases c8
                · skip
                  have HR := hideB2 (show r = false by rw [HQ.out]; rfl)
                  clear HQ
                  repeat (go_big_quiet_step (first
                    | (go_at_call 37; exact grow_same (isTime_any _ _))
                    | (go_at_call 53; exact grow_same (within_any _ _ _ _))
                    | (go_at_call 80; exact grow_same (HM.out _))
                    | (go_at_call 81; exact grow_same (statusOk_any _ _))))
                  refine wpQuiet_nil ?_
                  rintro _ ⟨V, rfl⟩
                  have HB3 := hideB2 (HBV.out V)
                  clear a0 a1 a2 a3 a4 a5 a6 a7 a8 a9 HBV
                  refine hK3 _ _ ?_
                  clear hK3
                  generalize grw _ V = w3 at *
                  go_wp2
                  go_ret
                  exact ⟨ret_bool HR.out, HB3.out⟩
                · skip
                  cases c9
                  · skip
                    have HR := hideB2 (show r = false by rw [HQ.out]; rfl)
                    clear HQ
                    repeat (go_big_quiet_step (first
                      | (go_at_call 37; exact grow_same (isTime_any _ _))
                      | (go_at_call 53; exact grow_same (within_any _ _ _ _))
                      | (go_at_call 80; exact grow_same (HM.out _))
                      | (go_at_call 81; exact grow_same (statusOk_any _ _))))
                    refine wpQuiet_nil ?_
                    rintro _ ⟨V, rfl⟩
                    have HB3 := hideB2 (HBV.out V)
                    clear a0 a1 a2 a3 a4 a5 a6 a7 a8 a9 HBV
                    refine hK3 _ _ ?_
                    clear hK3
                    generalize grw _ V = w3 at *
                    go_wp2
                    go_ret
                    exact ⟨ret_bool HR.out, HB3.out⟩
                  · skip
                    have HR := hideB2 (show r = true by rw [HQ.out]; rfl)
                    clear HQ
                    repeat (go_big_quiet_step (first
                      | (go_at_call 37; exact grow_same (isTime_any _ _))
                      | (go_at_call 53; exact grow_same (within_any _ _ _ _))
                      | (go_at_call 80; exact grow_same (HM.out _))
                      | (go_at_call 81; exact grow_same (statusOk_any _ _))))
                    refine wpQuiet_nil ?_
                    rintro _ ⟨V, rfl⟩
                    have HB3 := hideB2 (HBV.out V)
                    clear a0 a1 a2 a3 a4 a5 a6 a7 a8 a9 HBV
                    refine hK3 _ _ ?_
                    clear hK3
                    generalize grw _ V = w3 at *
                    go_wp2
                    go_ret
                    exact ⟨ret_bool HR.out, HB3.out⟩
end Go.Proofs.YtenjbgpndkodmacGreatDoor
namespace Go.Proofs.YtenjbgpndkodmacGreatDoor
set_option linter.unusedVariables false
set_option linter.unusedSimpArgs false
open Go.RowKit
set_option maxRecDepth 100000 in
set_option maxHeartbeats 8000000 in
theorem sLineOk_any (x : Lx) (w : World) (h1 : x.ke.size ≤ 1048576) (h2 : x.me.size ≤ 1048576) (h3 : x.la.size ≤ 1048576) :
    Calls Tryz.prog 48 #[lxV x] w fun e w' => e = .returned (.bool (linQ x)) ∧ Below w.heap.size w w' := by
  have HU := hideB2 (fun W => sUnsurt_any x.ke W h1)
  obtain ⟨dl, hdl⟩ := rlV_rlO x.la
  have HL := hideB2 (fun W => sReadLabel_any x.la W (by unfold maxLen; omega))
  rw [hdl] at HL
  have HM := hideB2 (fun W => l9method_any x.me W (by unfold maxLen; omega))
  have HQ : Hid (linQ x = (usO x.ke && (rlO x.la && (timeB x.ti && (withinB x.si 0 1 && (methQ x.me && (stQ x.st && (withinB x.se 0 39 && (withinB x.wh 0 60000 && withinB x.sz 0 60000))))))))) := rfl
  clear hdl h1 h2 h3
  have B1 := Blk.new w (lxC x) 45
  have HB := hideB2 (below_a1 w (.cells (lxC x) 45))
  generalize linQ x = r at *
  generalize usO x.ke = c1 at *
  generalize usU x.ke = U at *
  generalize rlO x.la = c2 at *
  generalize methQ x.me = c5 at *
  generalize hc3 : timeB x.ti = c3 at *
  obtain ⟨ho, pa, qu, po, hq⟩ := U
  obtain ⟨ke, ti, si, me, st, la, rv, se, wh, sz⟩ := x
  unfold lxV
  unfold lxC at *
  simp only at *
  go_enter Tryz.func48, Tryz.ntmps48
  go_wp2_with fail
  refine (HU.out _).mono ?_
  rintro e1 w1 ⟨rfl, hb1⟩
  unfold valU
  simp only
  have B2 := B1.later hb1
  have HB2 := hideB2 (below_then HB.out hb1)
  clear hb1 B1 HB HU
  obtain ⟨p0, p1, p2, p3, p4, p5, p6, p7, p8, p9⟩ := (B2.alloc (.cells #[.string ho, .int .i64 po, .string pa, .string qu, .bool hq] 84)).c10
  have HB1 := hideB2 B2
  clear B2
  go_wp2_with fail
  refine (HL.out _).mono ?_
  rintro e2 w2 ⟨rfl, hb2⟩
  have B3 := (HB1.out.alloc (.cells #[.string ho, .int .i64 po, .string pa, .string qu, .bool hq] 84)).later hb2
  have HB3 := hideB2 (below_then (below_then HB2.out (below_a1 w1 (.cells #[.string ho, .int .i64 po, .string pa, .string qu, .bool hq] 84))) hb2)
  clear p0 p1 p2 p3 p4 p5 p6 p7 p8 p9 hb2 HB1 HB2 HL
  rename_i K1 hK1 K2 hK2
  refine hK2 _ _ ?_
  refine wp_quiet_here (fun hne0 => ?_)
  repeat (go_big_quiet_step (fail))
  refine wpQuiet_nil ?_
  rintro _ ⟨V0, rfl⟩
  refine hK1 _ _ ?_
  have B4 := B3.later (grw_below w2 V0)
  have HB4 := hideB2 (below_then HB3.out (grw_below w2 V0))
  clear B3 HB3 hK1 hK2
  generalize grw w2 V0 = w2 at *
  refine wp_seq_k ?_
  intro K3 hK3
  refine wp_region_lit ?_
  simp only [List.append_eq, List.cons_append, List.nil_append]
  obtain ⟨p0, p1, p2, p3, p4, p5, p6, p7, p8, p9⟩ := B4.c10
  have a0 := fun V => grw_some p0 V
  have a1 := fun V => grw_some p1 V
  have a2 := fun V => grw_some p2 V
  have a3 := fun V => grw_some p3 V
  have a4 := fun V => grw_some p4 V
  have a5 := fun V => grw_some p5 V
  have a6 := fun V => grw_some p6 V
  have a7 := fun V => grw_some p7 V
  have a8 := fun V => grw_some p8 V
  have a9 := fun V => grw_some p9 V
  clear p0 p1 p2 p3 p4 p5 p6 p7 p8 p9 B4
  have HBV := hideB2 (fun V => below_then HB4.out (grw_below _ V))
  clear HB4
  refine wp_quiet_here (fun hne => ?_)
  cases c1
  · skip
    have HR := hideB2 (show r = false by rw [HQ.out]; simp [withinB, stQ])
    clear HQ
    repeat (first | (refine quiet_pass rfl rfl ?_) | (go_big_quiet_step (first
      | (go_at_call 35; exact grow_same (l2time_any _ _))
      | (go_at_call 72; exact grow_same (HM.out _)))))
    refine wpQuiet_nil ?_
    rintro _ ⟨V, rfl⟩
    have HB3 := hideB2 (HBV.out V)
    clear a0 a1 a2 a3 a4 a5 a6 a7 a8 a9 HBV
    refine hK3 _ _ ?_
    clear hK3
    generalize grw _ V = w3 at *
    go_wp2
    go_ret
    exact ⟨ret_bool HR.out, HB3.out⟩
  · skip
    cases c3
    · skip
      have HR := hideB2 (show r = false by rw [HQ.out]; simp [withinB, stQ])
      clear HQ
      repeat (first | (refine quiet_pass rfl rfl ?_) | (go_big_quiet_step (first
        | (go_at_call 35; exact grow_same (l2time_any _ _))
        | (go_at_call 72; exact grow_same (HM.out _)))))
      refine wpQuiet_nil ?_
      rintro _ ⟨V, rfl⟩
      have HB3 := hideB2 (HBV.out V)
      clear a0 a1 a2 a3 a4 a5 a6 a7 a8 a9 HBV
      refine hK3 _ _ ?_
      clear hK3
      generalize grw _ V = w3 at *
      go_wp2
      go_ret
      exact ⟨ret_bool HR.out, HB3.out⟩
    · skip
      by_cases hs : si = 0 ∨ si = 1
      · skip
        have hw4 : withinB si 0 1 = true := within_iff.2 (by omega)
        rw [hw4] at HQ
        have hor : (si == 0) = true ∨ (si == 0) = false ∧ (si == 1) = true := by rcases hs with rfl | rfl <;> simp
        have HOR := hideB2 hor
        clear hs hw4 hor
        cases c5
        · skip
          have HR := hideB2 (show r = false by rw [HQ.out]; simp [withinB, stQ])
          clear HQ
          rcases HOR.out with hsa | ⟨hsa, hsb⟩
          · skip
            repeat (go_big_quiet_step (first
              | (go_at_call 35; exact grow_same (l2time_any _ _))
              | (go_at_call 72; exact grow_same (HM.out _))))
            refine wpQuiet_nil ?_
            rintro _ ⟨V, rfl⟩
            have HB3 := hideB2 (HBV.out V)
            clear a0 a1 a2 a3 a4 a5 a6 a7 a8 a9 HBV
            refine hK3 _ _ ?_
            clear hK3
            generalize grw _ V = w3 at *
            go_wp2
            go_ret
            exact ⟨ret_bool HR.out, HB3.out⟩
          · skip
            repeat (go_big_quiet_step (first
              | (go_at_call 35; exact grow_same (l2time_any _ _))
              | (go_at_call 72; exact grow_same (HM.out _))))
            refine wpQuiet_nil ?_
            rintro _ ⟨V, rfl⟩
            have HB3 := hideB2 (HBV.out V)
            clear a0 a1 a2 a3 a4 a5 a6 a7 a8 a9 HBV
            refine hK3 _ _ ?_
            clear hK3
            generalize grw _ V = w3 at *
            go_wp2
            go_ret
            exact ⟨ret_bool HR.out, HB3.out⟩
        · skip
          by_cases ka : 200 ≤ st
          rotate_left
          · skip
            have HR := hideB2 (show r = false by rw [HQ.out]; simp [withinB, stQ, ka])
            clear HQ
            rcases HOR.out with hsa | ⟨hsa, hsb⟩
            · skip
              repeat (go_big_quiet_step (first
                | (go_at_call 35; exact grow_same (l2time_any _ _))
                | (go_at_call 72; exact grow_same (HM.out _))))
              refine wpQuiet_nil ?_
              rintro _ ⟨V, rfl⟩
              have HB3 := hideB2 (HBV.out V)
              clear a0 a1 a2 a3 a4 a5 a6 a7 a8 a9 HBV
              refine hK3 _ _ ?_
              clear hK3
              generalize grw _ V = w3 at *
              go_wp2
              go_ret
              exact ⟨ret_bool HR.out, HB3.out⟩
            · skip
              repeat (go_big_quiet_step (first
                | (go_at_call 35; exact grow_same (l2time_any _ _))
                | (go_at_call 72; exact grow_same (HM.out _))))
              refine wpQuiet_nil ?_
              rintro _ ⟨V, rfl⟩
              have HB3 := hideB2 (HBV.out V)
              clear a0 a1 a2 a3 a4 a5 a6 a7 a8 a9 HBV
              refine hK3 _ _ ?_
              clear hK3
              generalize grw _ V = w3 at *
              go_wp2
              go_ret
              exact ⟨ret_bool HR.out, HB3.out⟩
          · skip
            by_cases kb : st ≤ 599
            rotate_left
            · skip
              have HR := hideB2 (show r = false by rw [HQ.out]; simp [withinB, stQ, ka, kb])
              clear HQ
              rcases HOR.out with hsa | ⟨hsa, hsb⟩
              · skip
                repeat (go_big_quiet_step (first
                  | (go_at_call 35; exact grow_same (l2time_any _ _))
                  | (go_at_call 72; exact grow_same (HM.out _))))
                refine wpQuiet_nil ?_
                rintro _ ⟨V, rfl⟩
                have HB3 := hideB2 (HBV.out V)
                clear a0 a1 a2 a3 a4 a5 a6 a7 a8 a9 HBV
                refine hK3 _ _ ?_
                clear hK3
                generalize grw _ V = w3 at *
                go_wp2
                go_ret
                exact ⟨ret_bool HR.out, HB3.out⟩
              · skip
                repeat (go_big_quiet_step (first
                  | (go_at_call 35; exact grow_same (l2time_any _ _))
                  | (go_at_call 72; exact grow_same (HM.out _))))
                refine wpQuiet_nil ?_
                rintro _ ⟨V, rfl⟩
                have HB3 := hideB2 (HBV.out V)
                clear a0 a1 a2 a3 a4 a5 a6 a7 a8 a9 HBV
                refine hK3 _ _ ?_
                clear hK3
                generalize grw _ V = w3 at *
                go_wp2
                go_ret
                exact ⟨ret_bool HR.out, HB3.out⟩
            · skip
              cases c2
              · skip
                have HR := hideB2 (show r = false by rw [HQ.out]; simp [withinB, stQ, ka, kb])
                clear HQ
                rcases HOR.out with hsa | ⟨hsa, hsb⟩
                · skip
                  repeat (go_big_quiet_step (first
                    | (go_at_call 35; exact grow_same (l2time_any _ _))
                    | (go_at_call 72; exact grow_same (HM.out _))))
                  refine wpQuiet_nil ?_
                  rintro _ ⟨V, rfl⟩
                  have HB3 := hideB2 (HBV.out V)
                  clear a0 a1 a2 a3 a4 a5 a6 a7 a8 a9 HBV
                  refine hK3 _ _ ?_
                  clear hK3
                  generalize grw _ V = w3 at *
                  go_wp2
                  go_ret
                  exact ⟨ret_bool HR.out, HB3.out⟩
                · skip
                  repeat (go_big_quiet_step (first
                    | (go_at_call 35; exact grow_same (l2time_any _ _))
                    | (go_at_call 72; exact grow_same (HM.out _))))
                  refine wpQuiet_nil ?_
                  rintro _ ⟨V, rfl⟩
                  have HB3 := hideB2 (HBV.out V)
                  clear a0 a1 a2 a3 a4 a5 a6 a7 a8 a9 HBV
                  refine hK3 _ _ ?_
                  clear hK3
                  generalize grw _ V = w3 at *
                  go_wp2
                  go_ret
                  exact ⟨ret_bool HR.out, HB3.out⟩
              · skip
                by_cases kc : 0 ≤ se
                rotate_left
                · skip
                  have HR := hideB2 (show r = false by rw [HQ.out]; simp [withinB, stQ, ka, kb, kc])
                  clear HQ
                  rcases HOR.out with hsa | ⟨hsa, hsb⟩
                  · skip
                    repeat (go_big_quiet_step (first
                      | (go_at_call 35; exact grow_same (l2time_any _ _))
                      | (go_at_call 72; exact grow_same (HM.out _))))
                    refine wpQuiet_nil ?_
                    rintro _ ⟨V, rfl⟩
                    have HB3 := hideB2 (HBV.out V)
                    clear a0 a1 a2 a3 a4 a5 a6 a7 a8 a9 HBV
                    refine hK3 _ _ ?_
                    clear hK3
                    generalize grw _ V = w3 at *
                    go_wp2
                    go_ret
                    exact ⟨ret_bool HR.out, HB3.out⟩
                  · skip
                    repeat (go_big_quiet_step (first
                      | (go_at_call 35; exact grow_same (l2time_any _ _))
                      | (go_at_call 72; exact grow_same (HM.out _))))
                    refine wpQuiet_nil ?_
                    rintro _ ⟨V, rfl⟩
                    have HB3 := hideB2 (HBV.out V)
                    clear a0 a1 a2 a3 a4 a5 a6 a7 a8 a9 HBV
                    refine hK3 _ _ ?_
                    clear hK3
                    generalize grw _ V = w3 at *
                    go_wp2
                    go_ret
                    exact ⟨ret_bool HR.out, HB3.out⟩
                · skip
                  by_cases kd : se < 40
                  rotate_left
                  · skip
                    have kd2 : ¬ se ≤ 39 := by omega
                    have HR := hideB2 (show r = false by rw [HQ.out]; simp [withinB, stQ, ka, kb, kc, kd2])
                    clear HQ
                    rcases HOR.out with hsa | ⟨hsa, hsb⟩
                    · skip
                      repeat (go_big_quiet_step (first
                        | (go_at_call 35; exact grow_same (l2time_any _ _))
                        | (go_at_call 72; exact grow_same (HM.out _))))
                      refine wpQuiet_nil ?_
                      rintro _ ⟨V, rfl⟩
                      have HB3 := hideB2 (HBV.out V)
                      clear a0 a1 a2 a3 a4 a5 a6 a7 a8 a9 HBV
                      refine hK3 _ _ ?_
                      clear hK3
                      generalize grw _ V = w3 at *
                      go_wp2
                      go_ret
                      exact ⟨ret_bool HR.out, HB3.out⟩
                    · skip
                      repeat (go_big_quiet_step (first
                        | (go_at_call 35; exact grow_same (l2time_any _ _))
                        | (go_at_call 72; exact grow_same (HM.out _))))
                      refine wpQuiet_nil ?_
                      rintro _ ⟨V, rfl⟩
                      have HB3 := hideB2 (HBV.out V)
                      clear a0 a1 a2 a3 a4 a5 a6 a7 a8 a9 HBV
                      refine hK3 _ _ ?_
                      clear hK3
                      generalize grw _ V = w3 at *
                      go_wp2
                      go_ret
                      exact ⟨ret_bool HR.out, HB3.out⟩
                  · skip
                    have kd3 : se ≤ 39 := by omega
                    by_cases ke2 : 0 ≤ wh
                    rotate_left
                    · skip
                      have HR := hideB2 (show r = false by rw [HQ.out]; simp [withinB, stQ, ka, kb, kc, kd3, ke2])
                      clear HQ
                      rcases HOR.out with hsa | ⟨hsa, hsb⟩
                      · skip
                        repeat (go_big_quiet_step (first
                          | (go_at_call 35; exact grow_same (l2time_any _ _))
                          | (go_at_call 72; exact grow_same (HM.out _))))
                        refine wpQuiet_nil ?_
                        rintro _ ⟨V, rfl⟩
                        have HB3 := hideB2 (HBV.out V)
                        clear a0 a1 a2 a3 a4 a5 a6 a7 a8 a9 HBV
                        refine hK3 _ _ ?_
                        clear hK3
                        generalize grw _ V = w3 at *
                        go_wp2
                        go_ret
                        exact ⟨ret_bool HR.out, HB3.out⟩
                      · skip
                        repeat (go_big_quiet_step (first
                          | (go_at_call 35; exact grow_same (l2time_any _ _))
                          | (go_at_call 72; exact grow_same (HM.out _))))
                        refine wpQuiet_nil ?_
                        rintro _ ⟨V, rfl⟩
                        have HB3 := hideB2 (HBV.out V)
                        clear a0 a1 a2 a3 a4 a5 a6 a7 a8 a9 HBV
                        refine hK3 _ _ ?_
                        clear hK3
                        generalize grw _ V = w3 at *
                        go_wp2
                        go_ret
                        exact ⟨ret_bool HR.out, HB3.out⟩
                    · skip
                      by_cases kf : wh ≤ 60000
                      rotate_left
                      · skip
                        have HR := hideB2 (show r = false by rw [HQ.out]; simp [withinB, stQ, ka, kb, kc, kd3, ke2, kf])
                        clear HQ
                        rcases HOR.out with hsa | ⟨hsa, hsb⟩
                        · skip
                          repeat (go_big_quiet_step (first
                            | (go_at_call 35; exact grow_same (l2time_any _ _))
                            | (go_at_call 72; exact grow_same (HM.out _))))
                          refine wpQuiet_nil ?_
                          rintro _ ⟨V, rfl⟩
                          have HB3 := hideB2 (HBV.out V)
                          clear a0 a1 a2 a3 a4 a5 a6 a7 a8 a9 HBV
                          refine hK3 _ _ ?_
                          clear hK3
                          generalize grw _ V = w3 at *
                          go_wp2
                          go_ret
                          exact ⟨ret_bool HR.out, HB3.out⟩
                        · skip
                          repeat (go_big_quiet_step (first
                            | (go_at_call 35; exact grow_same (l2time_any _ _))
                            | (go_at_call 72; exact grow_same (HM.out _))))
                          refine wpQuiet_nil ?_
                          rintro _ ⟨V, rfl⟩
                          have HB3 := hideB2 (HBV.out V)
                          clear a0 a1 a2 a3 a4 a5 a6 a7 a8 a9 HBV
                          refine hK3 _ _ ?_
                          clear hK3
                          generalize grw _ V = w3 at *
                          go_wp2
                          go_ret
                          exact ⟨ret_bool HR.out, HB3.out⟩
                      · skip
                        by_cases kg : 0 ≤ sz
                        rotate_left
                        · skip
                          have HR := hideB2 (show r = false by rw [HQ.out]; simp [withinB, stQ, ka, kb, kc, kd3, ke2, kf, kg])
                          clear HQ
                          rcases HOR.out with hsa | ⟨hsa, hsb⟩
                          · skip
                            repeat (go_big_quiet_step (first
                              | (go_at_call 35; exact grow_same (l2time_any _ _))
                              | (go_at_call 72; exact grow_same (HM.out _))))
                            refine wpQuiet_nil ?_
                            rintro _ ⟨V, rfl⟩
                            have HB3 := hideB2 (HBV.out V)
                            clear a0 a1 a2 a3 a4 a5 a6 a7 a8 a9 HBV
                            refine hK3 _ _ ?_
                            clear hK3
                            generalize grw _ V = w3 at *
                            go_wp2
                            go_ret
                            exact ⟨ret_bool HR.out, HB3.out⟩
                          · skip
                            repeat (go_big_quiet_step (first
                              | (go_at_call 35; exact grow_same (l2time_any _ _))
                              | (go_at_call 72; exact grow_same (HM.out _))))
                            refine wpQuiet_nil ?_
                            rintro _ ⟨V, rfl⟩
                            have HB3 := hideB2 (HBV.out V)
                            clear a0 a1 a2 a3 a4 a5 a6 a7 a8 a9 HBV
                            refine hK3 _ _ ?_
                            clear hK3
                            generalize grw _ V = w3 at *
                            go_wp2
                            go_ret
                            exact ⟨ret_bool HR.out, HB3.out⟩
                        · skip
                          by_cases kh : sz ≤ 60000
                          rotate_left
                          · skip
                            have HR := hideB2 (show r = false by rw [HQ.out]; simp [withinB, stQ, ka, kb, kc, kd3, ke2, kf, kg, kh])
                            clear HQ
                            rcases HOR.out with hsa | ⟨hsa, hsb⟩
                            · skip
                              repeat (go_big_quiet_step (first
                                | (go_at_call 35; exact grow_same (l2time_any _ _))
                                | (go_at_call 72; exact grow_same (HM.out _))))
                              refine wpQuiet_nil ?_
                              rintro _ ⟨V, rfl⟩
                              have HB3 := hideB2 (HBV.out V)
                              clear a0 a1 a2 a3 a4 a5 a6 a7 a8 a9 HBV
                              refine hK3 _ _ ?_
                              clear hK3
                              generalize grw _ V = w3 at *
                              go_wp2
                              go_ret
                              exact ⟨ret_bool HR.out, HB3.out⟩
                            · skip
                              repeat (go_big_quiet_step (first
                                | (go_at_call 35; exact grow_same (l2time_any _ _))
                                | (go_at_call 72; exact grow_same (HM.out _))))
                              refine wpQuiet_nil ?_
                              rintro _ ⟨V, rfl⟩
                              have HB3 := hideB2 (HBV.out V)
                              clear a0 a1 a2 a3 a4 a5 a6 a7 a8 a9 HBV
                              refine hK3 _ _ ?_
                              clear hK3
                              generalize grw _ V = w3 at *
                              go_wp2
                              go_ret
                              exact ⟨ret_bool HR.out, HB3.out⟩
                          · skip
                            have HR := hideB2 (show r = true by rw [HQ.out]; simp [withinB, stQ, ka, kb, kc, kd3, ke2, kf, kg, kh])
                            clear HQ
                            rcases HOR.out with hsa | ⟨hsa, hsb⟩
                            · skip
                              repeat (go_big_quiet_step (first
                                | (go_at_call 35; exact grow_same (l2time_any _ _))
                                | (go_at_call 72; exact grow_same (HM.out _))))
                              refine wpQuiet_nil ?_
                              rintro _ ⟨V, rfl⟩
                              have HB3 := hideB2 (HBV.out V)
                              clear a0 a1 a2 a3 a4 a5 a6 a7 a8 a9 HBV
                              refine hK3 _ _ ?_
                              clear hK3
                              generalize grw _ V = w3 at *
                              go_wp2
                              go_ret
                              exact ⟨ret_bool HR.out, HB3.out⟩
                            · skip
                              repeat (go_big_quiet_step (first
                                | (go_at_call 35; exact grow_same (l2time_any _ _))
                                | (go_at_call 72; exact grow_same (HM.out _))))
                              refine wpQuiet_nil ?_
                              rintro _ ⟨V, rfl⟩
                              have HB3 := hideB2 (HBV.out V)
                              clear a0 a1 a2 a3 a4 a5 a6 a7 a8 a9 HBV
                              refine hK3 _ _ ?_
                              clear hK3
                              generalize grw _ V = w3 at *
                              go_wp2
                              go_ret
                              exact ⟨ret_bool HR.out, HB3.out⟩
      · skip
        have hw4 : withinB si 0 1 = false := by
          cases hh : withinB si 0 1
          · rfl
          · exact absurd (within_iff.1 hh) (by omega)
        rw [hw4] at HQ
        have hsa : (si == 0) = false := by simp; omega
        have hsb : (si == 1) = false := by simp; omega
        clear hs hw4
        have HR := hideB2 (show r = false by rw [HQ.out]; simp)
        clear HQ
        repeat (go_big_quiet_step (first
          | (go_at_call 35; exact grow_same (l2time_any _ _))
          | (go_at_call 72; exact grow_same (HM.out _))))
        refine wpQuiet_nil ?_
        rintro _ ⟨V, rfl⟩
        have HB3 := hideB2 (HBV.out V)
        clear a0 a1 a2 a3 a4 a5 a6 a7 a8 a9 HBV
        refine hK3 _ _ ?_
        clear hK3
        generalize grw _ V = w3 at *
        go_wp2
        go_ret
        exact ⟨ret_bool HR.out, HB3.out⟩
end Go.Proofs.YtenjbgpndkodmacGreatDoor
namespace Go.Proofs.YtenjbgpndkodmacGreatDoor
set_option linter.unusedVariables false
set_option linter.unusedSimpArgs false
open Go.RowKit
/-- No text is greater than 2^20. -/
structure SzX (x : Lx) : Prop where
  ke : x.ke.size ≤ 1048576
  me : x.me.size ≤ 1048576
  la : x.la.size ≤ 1048576
def BdX (l : List Lx) : Prop := ∀ j, j < l.length → SzX (lxAt l j)
theorem SzX.of {x : Lx} (h : szX x ≤ 1048576) : SzX x := by
  unfold szX at h
  exact ⟨by omega, by omega, by omega⟩
theorem BdX.of {l : List Lx} (h : totX l ≤ 1048576) : BdX l := fun j hj => SzX.of (by have := szX_le hj; omega)
theorem BdX.take {l : List Lx} (h : BdX l) (k : Nat) : BdX (l.take k) := by
  intro j hj
  rw [List.length_take] at hj
  rw [take_at (by omega)]
  exact h j (by omega)
theorem fitB_full {l : List Lx} {x : Lx} (h : l.length = 400) : fitB l x = false := by unfold fitB; rw [decide_eq_true h]; rfl
theorem fitB_bad {l : List Lx} {x : Lx} (h : linQ x = false) : fitB l x = false := by unfold fitB; rw [h]; simp
theorem fitB_none {l : List Lx} {x : Lx} (h : l.length = 0) (h2 : linQ x = true) : fitB l x = true := by unfold fitB; rw [h2, h]; rfl
theorem fitB_some {l : List Lx} {x : Lx} {m : Nat} (h4 : l.length ≠ 400) (h : l.length = m + 1) (h2 : linQ x = true) : fitB l x = decide (cmpX (lxAt l m) x = -1) := by
  unfold fitB
  rw [h2, decide_eq_false h4, h, decide_eq_false (by omega : ¬ m + 1 = 0)]
  simp
set_option maxRecDepth 100000 in
set_option maxHeartbeats 4000000 in
theorem fitsBehind_any (v : Value) (l : List Lx) (x : Lx) (w : World) (hv : SlX w v l) (hb : BdX l) (hx : SzX x) (hl : l.length ≤ 1048576) (htab : Tab10 w) :
    Calls Tryz.prog 47 #[v, lxV x] w fun e w' => e = .returned (.bool (fitB l x)) ∧ Below w.heap.size w w' := by
  have HK := hideB2 (fun W (h : Tab10 W) => LineOk_any x W hx.ke hx.me hx.la h)
  have HV := hideB2 hv
  have HT := hideB2 htab
  have B1 := hideB2 (Blk.new w (lxC x) 45)
  have HB := hideB2 (below_a1 w (.cells (lxC x) 45))
  obtain ⟨a, c0, hvf⟩ := hv.form
  clear hv htab hx
  by_cases h400 : l.length = 400
  · have HR := hideB2 (fitB_full (x := x) h400)
    rw [h400] at hvf
    subst hvf
    generalize fitB l x = r at *
    obtain ⟨ke, ti, si, me, st, la, rv, se, wh, sz⟩ := x
    unfold lxV at *
    unfold lxC at *
    simp only at *
    go_enter Tryz.func47, Tryz.ntmps47
    go_wp2
    go_ret
    exact ⟨ret_bool HR.out, HB.out⟩
  have hb4 : ((l.length : Int) == 400) = false := by simp; omega
  cases hq : linQ x
  · have HR := hideB2 (fitB_bad (l := l) hq)
    rw [hq] at HK
    clear hq
    subst hvf
    generalize fitB l x = r at *
    obtain ⟨ke, ti, si, me, st, la, rv, se, wh, sz⟩ := x
    unfold lxV at *
    unfold lxC at *
    simp only at *
    go_enter Tryz.func47, Tryz.ntmps47
    go_wp2_with fail
    refine (HK.out _ (tab_later HT.out HB.out)).mono ?_
    rintro e1 w1 ⟨rfl, hb1⟩
    have HB1 := hideB2 (below_then HB.out hb1)
    clear hb1
    go_wp2
    go_ret
    exact ⟨ret_bool HR.out, HB1.out⟩
  by_cases h0 : l.length = 0
  · have HR := hideB2 (fitB_none h0 hq)
    rw [hq] at HK
    clear hq
    rw [h0] at hvf
    subst hvf
    generalize fitB l x = r at *
    obtain ⟨ke, ti, si, me, st, la, rv, se, wh, sz⟩ := x
    unfold lxV at *
    unfold lxC at *
    simp only at *
    go_enter Tryz.func47, Tryz.ntmps47
    go_wp2_with fail
    refine (HK.out _ (tab_later HT.out HB.out)).mono ?_
    rintro e1 w1 ⟨rfl, hb1⟩
    have B2 := B1.out.later hb1
    have HB1 := hideB2 (below_then HB.out hb1)
    clear hb1
    obtain ⟨p0, p1, p2, p3, p4, p5, p6, p7, p8, p9⟩ := B2.c10
    have a0 := fun V => grw_some p0 V
    have a1 := fun V => grw_some p1 V
    have a2 := fun V => grw_some p2 V
    have a3 := fun V => grw_some p3 V
    have a4 := fun V => grw_some p4 V
    have a5 := fun V => grw_some p5 V
    have a6 := fun V => grw_some p6 V
    have a7 := fun V => grw_some p7 V
    have a8 := fun V => grw_some p8 V
    have a9 := fun V => grw_some p9 V
    clear p0 p1 p2 p3 p4 p5 p6 p7 p8 p9 B2
    go_wp2_with fail
    refine wp_region_grow ?_ ?_ ?_
    · kernel_rfl
    · kernel_rfl
    · intro hne
      repeat (go_big_quiet_step (fail))
      refine wpQuiet_nil ?_
      rintro _ ⟨V, rfl⟩
      have HBV := hideB2 (below_then HB1.out (grw_below w1 V))
      clear a0 a1 a2 a3 a4 a5 a6 a7 a8 a9
      generalize grw w1 V = w3 at *
      go_wp2
      go_ret
      exact ⟨ret_bool HR.out, HBV.out⟩
  · obtain ⟨m, hm⟩ : ∃ m, l.length = m + 1 := ⟨l.length - 1, by omega⟩
    have HR := hideB2 (fitB_some h400 hm hq)
    have hbz : (((m + 1 : Nat) : Int) == 0) = false := by simp; omega
    have hbz2 : ((m : Int) + 1 == 0) = false := by simp; omega
    have hb42 : ((m : Int) + 1 == 400) = false := by simp; omega
    have e1 : ((m + 1 : Nat) : Int) - 1 = (m : Int) := by omega
    have e2 : (m : Int) + 1 - 1 = (m : Int) := by omega
    have HC := hideB2 (fun W => Compare_any (lxAt l m) x W)
    obtain ⟨b, o, rfl, hr⟩ : ∃ b o, a = some ⟨b, o, none⟩ ∧ RowX w b o l := by
      have h1 := HV.out
      rw [hvf] at h1
      exact h1.row (by omega)
    rw [hm] at hvf hb4 hl
    rw [hq] at HK
    have HD := hideB2 (hr.dat m (by omega))
    have hbl := hr.lt
    subst hvf
    clear hq hr h400 h0 hm HV hb
    generalize fitB l x = r at *
    generalize cmpX (lxAt l m) x = cc at *
    generalize lxAt l m = y at *
    have hdec : decide (cc = -1) = (cc == -1) := by by_cases h : cc = -1 <;> simp [h]
    rw [hdec] at HR
    clear hdec
    obtain ⟨ke, ti, si, me, st, la, rv, se, wh, sz⟩ := x
    obtain ⟨yke, yti, ysi, yme, yst, yla, yrv, yse, ywh, ysz⟩ := y
    unfold lxV at *
    unfold lxC at *
    simp only at *
    go_enter Tryz.func47, Tryz.ntmps47
    go_wp2_with fail
    refine (HK.out _ (tab_later HT.out HB.out)).mono ?_
    rintro e1 w1 ⟨rfl, hb1⟩
    have B2 := B1.out.later hb1
    have HB1 := hideB2 (below_then HB.out hb1)
    obtain ⟨q0, q1, q2, q3, q4, q5, q6, q7, q8, q9⟩ := HD.out.later HB1.out hbl
    simp only at q0 q1 q2 q3 q4 q5 q6 q7 q8 q9
    clear hb1
    obtain ⟨p0, p1, p2, p3, p4, p5, p6, p7, p8, p9⟩ := B2.c10
    have a0 := fun V => grw_some p0 V
    have a1 := fun V => grw_some p1 V
    have a2 := fun V => grw_some p2 V
    have a3 := fun V => grw_some p3 V
    have a4 := fun V => grw_some p4 V
    have a5 := fun V => grw_some p5 V
    have a6 := fun V => grw_some p6 V
    have a7 := fun V => grw_some p7 V
    have a8 := fun V => grw_some p8 V
    have a9 := fun V => grw_some p9 V
    have b0 := fun V => grw_some q0 V
    have b1 := fun V => grw_some q1 V
    have b2 := fun V => grw_some q2 V
    have b3 := fun V => grw_some q3 V
    have b4 := fun V => grw_some q4 V
    have b5 := fun V => grw_some q5 V
    have b6 := fun V => grw_some q6 V
    have b7 := fun V => grw_some q7 V
    have b8 := fun V => grw_some q8 V
    have b9 := fun V => grw_some q9 V
    clear p0 p1 p2 p3 p4 p5 p6 p7 p8 p9 q0 q1 q2 q3 q4 q5 q6 q7 q8 q9 B2 HD B1
    go_wp2_with fail
    refine wp_region_grow ?_ ?_ ?_
    · kernel_rfl
    · kernel_rfl
    · intro hne
      repeat (go_big_quiet_step ((go_at_call 30; exact grow_call (HC.out _))))
      refine wpQuiet_nil ?_
      rintro _ ⟨V, rfl⟩
      have HBV := hideB2 (below_then HB1.out (grw_below w1 V))
      clear a0 a1 a2 a3 a4 a5 a6 a7 a8 a9 b0 b1 b2 b3 b4 b5 b6 b7 b8 b9
      generalize grw w1 V = w3 at *
      go_wp2
      go_ret
      exact ⟨ret_bool HR.out, HBV.out⟩
end Go.Proofs.YtenjbgpndkodmacGreatDoor
namespace Go.Proofs.YtenjbgpndkodmacGreatDoor
set_option linter.unusedVariables false
set_option linter.unusedSimpArgs false
open Go.RowKit
def skipA : List Oper → Act → Nat → Act
  | _, a, 0 => a
  | [], a, _ => a
  | o :: l, a, n + 1 => skipA l (a.put o.dst undef) n
def skipsB (ops : Array Oper) : List Oper → Act → Nat → Bool
  | _, _, 0 => true
  | [], _, _ => true
  | o :: l, a, n + 1 => !(Region.wanted o (yielded ops a.tmps)) && skipsB ops l (a.put o.dst undef) n
theorem quiet_passes {P : Program} {ops : Array Oper} {C : World → Prop} {Q : Act → Prop} : ∀ (n : Nat) {l : List Oper} {a : Act}, skipsB ops l a n = true → wpQuiet P ops C Q (l.drop n) (skipA l a n) → wpQuiet P ops C Q l a
  | 0, l, _, _, h => by cases l <;> exact h
  | _ + 1, [], _, _, h => h
  | n + 1, o :: l, a, hb, h => by
    unfold skipsB at hb
    rw [Bool.and_eq_true] at hb
    unfold wpQuiet
    have hw : Region.wanted o (yielded ops a.tmps) = false := by
      cases e : Region.wanted o (yielded ops a.tmps)
      · rfl
      · rw [e] at hb; cases hb.1
    rw [hw, if_neg (by simp)]
    exact quiet_passes n hb.2 h
theorem quiet_mv {P : Program} {ops : Array Oper} {C : World → Prop} {Q : Act → Prop} {o : Oper} {rest : List Oper} {a : Act} {x : Operand} (ho : o.op = .move x) (hg : o.guard = none)
    (h : wpQuiet P ops C Q rest (a.put o.dst (a.eval x))) : wpQuiet P ops C Q (o :: rest) a :=
  BigFrame.wpQuiet_want (by unfold Region.wanted; rw [hg]) (fun K hK => BigFrame.quiet_move x ho (hK _ h))
theorem quiet_pk {P : Program} {ops : Array Oper} {C : World → Prop} {Q : Act → Prop} {o : Oper} {rest : List Oper} {a : Act} {c x y : Operand} (ho : o.op = .pick c x y) (hg : o.guard = none) (hc : a.eval c = .bool true)
    (h : wpQuiet P ops C Q rest (a.put o.dst (a.eval x))) : wpQuiet P ops C Q (o :: rest) a :=
  BigFrame.wpQuiet_want (by unfold Region.wanted; rw [hg]) (fun K hK => ⟨a.eval x, fun w _ => by
    unfold Oper.quietAt execOp
    rw [ho]
    simp only [hc]
    exact ⟨rfl, rfl⟩, hK _ h⟩)
theorem act_is {K : Act → World → Prop} {a a' : Act} {w : World} (h : a = a') (hk : K a' w) : K a w := by rw [h]; exact hk
/-- A value handed on, then n operations that nothing asks for, then a pick that is true: the rest of a region. -/
theorem quiet_tail {P : Program} {ops : Array Oper} {C : World → Prop} {Q : Act → Prop} (n : Nat) (a' : Act) {o o2 : Oper} {rest : List Oper} {a : Act} {x c y z : Operand} (ho : o.op = .move x) (hg : o.guard = none)
    (hs : skipsB ops rest (a.put o.dst (a.eval x)) n = true) (hd : rest.drop n = [o2]) (ho2 : o2.op = .pick c y z) (hg2 : o2.guard = none) (hc : (skipA rest (a.put o.dst (a.eval x)) n).eval c = .bool true)
    (hf : (skipA rest (a.put o.dst (a.eval x)) n).put o2.dst ((skipA rest (a.put o.dst (a.eval x)) n).eval y) = a') (hq : Q a') : wpQuiet P ops C Q (o :: rest) a := by
  refine quiet_mv ho hg (quiet_passes n hs ?_)
  rw [hd]
  exact quiet_pk ho2 hg2 hc (by rw [hf]; exact hq)
end Go.Proofs.YtenjbgpndkodmacGreatDoor
namespace Go.Proofs.YtenjbgpndkodmacGreatDoor
set_option linter.unusedVariables false
set_option linter.unusedSimpArgs false
open Go.RowKit
/-- A slice's length is no more than its room. -/
def CapX (v : Value) : Prop := ∃ a n c, v = .slice a n c ∧ n ≤ c ∧ c ≤ maxLen
theorem CapX.le {a : Option Addr} {n c : Nat} (h : CapX (.slice a n c)) : n ≤ c ∧ c ≤ maxLen := by
  obtain ⟨a', n', c', e, h1, h2⟩ := h
  injection e with _ e2 e3
  subst e2 e3
  exact ⟨h1, h2⟩
theorem CapX.mk {a : Option Addr} {n c : Nat} (h : n ≤ c) (h2 : c ≤ maxLen) : CapX (.slice a n c) := ⟨a, n, c, rfl, h, h2⟩
theorem idxQ_long {l : List Lx} {k : Nat} (h : 400 ≤ k) (hk : k < l.length) : idxQ l = false := by unfold idxQ; rw [decide_eq_false (by omega)]; rfl
theorem idxQ_bad {l : List Lx} {k : Nat} (hk : k < l.length) (h : fitK l k = false) : idxQ l = false := by
  unfold idxQ
  cases e : idxP l l.length
  · rw [Bool.and_false]
  · rw [idxP_fit hk e] at h; cases h
theorem idxQ_all {l : List Lx} (h : l.length ≤ 400) (hp : idxP l l.length = true) : idxQ l = true := by unfold idxQ; rw [decide_eq_true h, hp]; rfl
theorem idxP_next {l : List Lx} {k : Nat} (h : idxP l k = true) (hf : fitK l k = true) : idxP l (k + 1) = true := by rw [idxP_succ, h, hf]; rfl
theorem fitK_no {l : List Lx} {k : Nat} (h : linQ (lxAt l k) = false) : fitK l k = false := by unfold fitK; rw [h]; rfl
theorem fitK_zero {l : List Lx} (h : linQ (lxAt l 0) = true) : fitK l 0 = true := by unfold fitK; rw [h]; rfl
theorem fitK_pos {l : List Lx} {m : Nat} (h : linQ (lxAt l (m + 1)) = true) : fitK l (m + 1) = !(decide (0 ≤ cmpX (lxAt l m) (lxAt l (m + 1)))) := by
  unfold fitK
  rw [h, decide_eq_false (by omega : ¬ m + 1 = 0), show m + 1 - 1 = m from rfl]
  rcases cmp_cases (lxAt l m) (lxAt l (m + 1)) with ⟨e, _⟩ | ⟨e, _⟩ | ⟨e, _⟩ <;> rw [e] <;> rfl
set_option maxRecDepth 100000 in
set_option maxHeartbeats 4000000 in
theorem IndexOk_any (v : Value) (l : List Lx) (w : World) (hv : SlX w v l) (hc : CapX v) (hb : BdX l) (hl : l.length ≤ 1048576) (htab : Tab10 w) :
    Calls Tryz.prog 28 #[v] w fun e w' => e = .returned (.bool (idxQ l)) ∧ Below w.heap.size w w' := by
  obtain ⟨a, c0, rfl⟩ := hv.form
  have HV := hideB2 hv
  have HBD := hideB2 hb
  have HT := hideB2 htab
  obtain ⟨hc1, hc2⟩ := hc.le
  unfold maxLen at hc2
  clear hv hb htab hc
  generalize hn : l.length = n at *
  have HN := hideB2 hn
  clear hn
  have HQL := hideB2 (fun k => idxQ_long (l := l) (k := k))
  have HQB := hideB2 (fun k => idxQ_bad (l := l) (k := k))
  have HQA := hideB2 (idxQ_all (l := l))
  generalize idxQ l = R at *
  go_enter Tryz.func28, Tryz.ntmps28
  go_wp2
  go_loopw [7] (fun i wr => ∃ k : Nat, k ≤ n ∧ i = .int .i64 k ∧ idxP l k = true ∧ k ≤ 400 ∧ Below w.heap.size w wr) (fun i _ => n - (intOf i).toNat)
  case atStart => exact ⟨0, Nat.zero_le _, rfl, rfl, by omega, Below.refl _ _⟩
  case round =>
    obtain ⟨k, hk, rfl, hp, h4, hb1⟩ := hrel
    by_cases hlt : k < n
    · have hkl : k < l.length := by rw [HN.out]; exact hlt
      obtain ⟨b, o, rfl, hr⟩ := HV.out.row (by omega)
      have hr1 := hr.keep hb1
      obtain ⟨p0, p1, p2, p3, p4, p5, p6, p7, p8, p9⟩ := hr1.dat k hkl
      have hsx := HBD.out k hkl
      have hkc : (k : Int) ≤ (c0 : Int) := by omega
      have HF := hideB2 (fun W (hs : SlX W (.slice (some ⟨b, o, none⟩) k c0) (l.take k)) (ht : Tab10 W) => fitsBehind_any (.slice (some ⟨b, o, none⟩) k c0) (l.take k) (lxAt l k) W hs (HBD.out.take k) hsx (by rw [List.length_take]; omega) ht)
      have HFT := hideB2 (fun h => fitB_take (l := l) (k := k) hkl h)
      have HFF := hideB2 (fun h => fitB_full (l := l.take k) (x := lxAt l k) h)
      have htl : (l.take k).length = k := by rw [List.length_take]; omega
      have HTL := hideB2 htl
      have HP := hideB2 hp
      have HKL := hideB2 hkl
      have HB1 := hideB2 hb1
      clear hr hsx hp htl hb1 hkl
      generalize hx : lxAt l k = x at *
      clear hx
      generalize hr0 : fitB (l.take k) x = r at *
      have HR0 := hideB2 hr0
      clear hr0
      obtain ⟨ke, ti, si, me, st, la, rv, se, wh, sz⟩ := x
      simp only at p0 p1 p2 p3 p4 p5 p6 p7 p8 p9
      have B1 := Blk.new wr #[.string ke, .int .i64 ti, .int .i64 si, .string me, .int .i64 st, .string la, .bool rv, .int .i64 se, .int .i64 wh, .int .i64 sz] 45
      have HB2 := hideB2 (HB1.out.trans ((below_a1 wr (.cells #[.string ke, .int .i64 ti, .int .i64 si, .string me, .int .i64 st, .string la, .bool rv, .int .i64 se, .int .i64 wh, .int .i64 sz] 45)).mono HB1.out.size))
      have hrA := hr1.keep (below_a1 wr (.cells #[.string ke, .int .i64 ti, .int .i64 si, .string me, .int .i64 st, .string la, .bool rv, .int .i64 se, .int .i64 wh, .int .i64 sz] 45))
      unfold lxV at HF
      simp only at HF
      clear hr1
      go_wp2_with fail
      generalize wr.alloc (.cells #[.string ke, .int .i64 ti, .int .i64 si, .string me, .int .i64 st, .string la, .bool rv, .int .i64 se, .int .i64 wh, .int .i64 sz] 45) = W at *
      clear p0 p1 p2 p3 p4 p5 p6 p7 p8 p9
      obtain ⟨q0, q1, q2, q3, q4, q5, q6, q7, q8, q9⟩ := B1.c10
      have a0 := fun V => grw_some q0 V
      have a1 := fun V => grw_some q1 V
      have a2 := fun V => grw_some q2 V
      have a3 := fun V => grw_some q3 V
      have a4 := fun V => grw_some q4 V
      have a5 := fun V => grw_some q5 V
      have a6 := fun V => grw_some q6 V
      have a7 := fun V => grw_some q7 V
      have a8 := fun V => grw_some q8 V
      have a9 := fun V => grw_some q9 V
      have HSV := hideB2 (fun V : Gr W => show SlX (grw W V) (.slice (some ⟨b, o, none⟩) k c0) (l.take k) from ((hrA.take k).keep (grw_below W V)).sl HTL.out c0)
      have HTV := hideB2 (fun V : Gr W => tab_later (tab_later HT.out HB2.out) (grw_below W V))
      clear q0 q1 q2 q3 q4 q5 q6 q7 q8 q9 B1 hrA
      refine wp_region_grow ?_ ?_ ?_
      · kernel_rfl
      · kernel_rfl
      · intro hne
        repeat (go_big_quiet_step ((go_at_call 47; exact grow_call (HF.out _ (HSV.out _) (HTV.out _)))))
        refine wpQuiet_nil ?_
        rintro _ ⟨V, rfl⟩
        have HB3 := hideB2 (HB2.out.trans ((grw_below W V).mono HB2.out.size))
        clear a0 a1 a2 a3 a4 a5 a6 a7 a8 a9 HSV HTV HF HB2 HB1
        generalize grw W V = w3 at *
        cases r
        · have HRF : Hid (R = false) := by
            by_cases h40 : 400 ≤ k
            · exact HQL.out k h40 HKL.out
            · exact HQB.out k HKL.out (by rw [← HFT.out (by omega)])
          go_wp2
          go_ret
          exact ⟨ret_bool HRF.out, HB3.out⟩
        · have hk4 : k < 400 := by
            rcases Nat.lt_or_ge k 400 with h | h
            · exact h
            · have hk40 : k = 400 := by omega
              have := HFF.out (by rw [HTL.out]; exact hk40)
              cases this
          have HPN := hideB2 (idxP_next HP.out (by rw [← HFT.out hk4]))
          go_wp2
          exact ⟨⟨k + 1, by omega, by go_num, HPN.out, by omega, HB3.out⟩, by simp [intOf]; omega⟩
    · obtain rfl : k = n := by omega
      have HRT : Hid (R = true) := HQA.out (by rw [HN.out]; exact h4) (by rw [HN.out]; exact hp)
      have HB1 := hideB2 hb1
      clear hb1 hp
      go_wp2
      go_ret
      exact ⟨ret_bool HRT.out, HB1.out⟩
set_option maxRecDepth 100000 in
set_option maxHeartbeats 4000000 in
theorem sIndexOk_any (v : Value) (l : List Lx) (w : World) (hv : SlX w v l) (hb : BdX l) (hl : l.length ≤ 1048576) :
    Calls Tryz.prog 24 #[v] w fun e w' => e = .returned (.bool (idxQ l)) ∧ Below w.heap.size w w' := by
  obtain ⟨a, c0, rfl⟩ := hv.form
  have HV := hideB2 hv
  have HBD := hideB2 hb
  clear hv hb
  generalize hn : l.length = n at *
  have HN := hideB2 hn
  clear hn
  have HQL := hideB2 (fun k => idxQ_long (l := l) (k := k))
  have HQB := hideB2 (fun k => idxQ_bad (l := l) (k := k))
  have HQA := hideB2 (idxQ_all (l := l))
  generalize idxQ l = R at *
  by_cases h4 : (400 : Int) < (n : Int)
  · have HRF : Hid (R = false) := HQL.out 400 (Nat.le_refl _) (by rw [HN.out]; omega)
    go_enter Tryz.func24, Tryz.ntmps24
    go_wp2
    go_ret
    exact ⟨ret_bool HRF.out, Below.refl _ _⟩
  · go_enter Tryz.func24, Tryz.ntmps24
    go_wp2
    go_loopw [3] (fun i wr => ∃ k : Nat, k ≤ n ∧ i = .int .i64 k ∧ idxP l k = true ∧ Below w.heap.size w wr) (fun i _ => n - (intOf i).toNat)
    case atStart => exact ⟨0, Nat.zero_le _, rfl, rfl, Below.refl _ _⟩
    case round =>
      obtain ⟨k, hk, rfl, hp, hb1⟩ := hrel
      by_cases hlt : k < n
      · have hkl : k < l.length := by rw [HN.out]; exact hlt
        obtain ⟨b, o, rfl, hr⟩ := HV.out.row (by omega)
        have hr1 := hr.keep hb1
        have HX := hideB2 (hr1.dat k hkl)
        have hsx := HBD.out k hkl
        have HK := hideB2 (fun W => sLineOk_any (lxAt l k) W hsx.ke hsx.me hsx.la)
        have HP := hideB2 hp
        have HKL := hideB2 hkl
        have HB1 := hideB2 hb1
        clear hr hp hb1
        cases hq : linQ (lxAt l k)
        · have HRF : Hid (R = false) := HQB.out k hkl (fitK_no hq)
          rw [hq] at HK
          clear hkl hsx hr1 hq
          generalize lxAt l k = x at *
          obtain ⟨ke, ti, si, me, st, la, rv, se, wh, sz⟩ := x
          obtain ⟨p0, p1, p2, p3, p4, p5, p6, p7, p8, p9⟩ := HX.out
          simp only at p0 p1 p2 p3 p4 p5 p6 p7 p8 p9
          unfold lxV at HK
          simp only at HK
          have a0 := fun V => grw_some p0 V
          have a1 := fun V => grw_some p1 V
          have a2 := fun V => grw_some p2 V
          have a3 := fun V => grw_some p3 V
          have a4 := fun V => grw_some p4 V
          have a5 := fun V => grw_some p5 V
          have a6 := fun V => grw_some p6 V
          have a7 := fun V => grw_some p7 V
          have a8 := fun V => grw_some p8 V
          have a9 := fun V => grw_some p9 V
          clear p0 p1 p2 p3 p4 p5 p6 p7 p8 p9
          go_wp2_with fail
          refine wp_region_grow ?_ ?_ ?_
          · kernel_rfl
          · kernel_rfl
          · intro hne
            iterate 6 (go_big_quiet_step ((go_at_call 48; exact grow_call (HK.out _))))
            refine quiet_tail 15 { tmps := #[.slice (some ⟨b, o, none⟩) n c0, undef, u2, .int .i64 k, .slice (some ⟨b, o, none⟩) n c0, .int .i64 n, .bool false, .int .i64 k, .slice (some ⟨b, o, none⟩) n c0, .int .i64 n, .bool true, u11, u12, .slice (some ⟨b, o, none⟩) n c0, .int .i64 k, .pointer (some ⟨b, o + k * 10, none⟩), .agg #[.string ke, .int .i64 ti, .int .i64 si, .string me, .int .i64 st, .string la, .bool rv, .int .i64 se, .int .i64 wh, .int .i64 sz], .bool false, .bool true, .bool true, undef, undef, undef, undef, undef, undef, undef, undef, undef, undef, undef, undef, undef, undef, undef, .bool true], defers := [] } rfl rfl (by kernel_rfl) rfl rfl rfl (by kernel_rfl) (by kernel_rfl) ?_
            rintro _ ⟨V, rfl⟩
            have HB3 := hideB2 (HB1.out.trans ((grw_below wr V).mono HB1.out.size))
            clear a0 a1 a2 a3 a4 a5 a6 a7 a8 a9 HB1 HX HK
            generalize grw wr V = w3 at *
            go_wp2
            go_ret
            exact ⟨ret_bool HRF.out, HB3.out⟩
        · rw [hq] at HK
          rcases Nat.eq_zero_or_pos k with rfl | hpos
          · have HPN := hideB2 (idxP_next HP.out (fitK_zero hq))
            clear hkl hsx hr1 hq
            generalize lxAt l 0 = x at *
            obtain ⟨ke, ti, si, me, st, la, rv, se, wh, sz⟩ := x
            obtain ⟨p0, p1, p2, p3, p4, p5, p6, p7, p8, p9⟩ := HX.out
            simp only [Nat.zero_mul, Nat.add_zero] at p0 p1 p2 p3 p4 p5 p6 p7 p8 p9
            unfold lxV at HK
            simp only at HK
            have a0 := fun V => grw_some p0 V
            have a1 := fun V => grw_some p1 V
            have a2 := fun V => grw_some p2 V
            have a3 := fun V => grw_some p3 V
            have a4 := fun V => grw_some p4 V
            have a5 := fun V => grw_some p5 V
            have a6 := fun V => grw_some p6 V
            have a7 := fun V => grw_some p7 V
            have a8 := fun V => grw_some p8 V
            have a9 := fun V => grw_some p9 V
            clear p0 p1 p2 p3 p4 p5 p6 p7 p8 p9
            go_wp2_with fail
            refine wp_region_grow ?_ ?_ ?_
            · kernel_rfl
            · kernel_rfl
            · intro hne
              repeat (go_big_quiet_step ((go_at_call 48; exact grow_call (HK.out _))))
              refine wpQuiet_nil ?_
              rintro _ ⟨V, rfl⟩
              have HB3 := hideB2 (HB1.out.trans ((grw_below wr V).mono HB1.out.size))
              clear a0 a1 a2 a3 a4 a5 a6 a7 a8 a9 HB1 HX HK
              generalize grw wr V = w3 at *
              go_wp2
              exact ⟨⟨1, by omega, by go_num, HPN.out, HB3.out⟩, by simp [intOf]; omega⟩
          · obtain ⟨m, rfl⟩ : ∃ m, k = m + 1 := ⟨k - 1, by omega⟩
            have HY := hideB2 (hr1.dat m (by omega))
            have HC := hideB2 (fun W => sCompare_any (lxAt l m) (lxAt l (m + 1)) W)
            have HFK := hideB2 (fitK_pos hq)
            have hpos' : decide ((0 : Int) < ((m + 1 : Nat) : Int)) = true := by simp
            have e1 : IntKind.i64.wrap (((m + 1 : Nat) : Int) - 1) = (m : Int) := by rw [IntKind.wrap_i64]; omega
            have e2 : ((m + 1 : Nat) : Int) - 1 = (m : Int) := by omega
            have e3 : (m : Int) + 1 - 1 = (m : Int) := by omega
            have hpos2 : (0 : Int) < (m : Int) + 1 := by omega
            clear hkl hsx hr1 hq
            generalize lxAt l (m + 1) = x at *
            generalize lxAt l m = y at *
            generalize cmpX y x = cc at *
            obtain ⟨ke, ti, si, me, st, la, rv, se, wh, sz⟩ := x
            obtain ⟨yke, yti, ysi, yme, yst, yla, yrv, yse, ywh, ysz⟩ := y
            obtain ⟨p0, p1, p2, p3, p4, p5, p6, p7, p8, p9⟩ := HX.out
            obtain ⟨q0, q1, q2, q3, q4, q5, q6, q7, q8, q9⟩ := HY.out
            simp only at p0 p1 p2 p3 p4 p5 p6 p7 p8 p9 q0 q1 q2 q3 q4 q5 q6 q7 q8 q9
            unfold lxV at HK HC
            simp only at HK HC
            have a0 := fun V => grw_some p0 V
            have a1 := fun V => grw_some p1 V
            have a2 := fun V => grw_some p2 V
            have a3 := fun V => grw_some p3 V
            have a4 := fun V => grw_some p4 V
            have a5 := fun V => grw_some p5 V
            have a6 := fun V => grw_some p6 V
            have a7 := fun V => grw_some p7 V
            have a8 := fun V => grw_some p8 V
            have a9 := fun V => grw_some p9 V
            have b0 := fun V => grw_some q0 V
            have b1 := fun V => grw_some q1 V
            have b2 := fun V => grw_some q2 V
            have b3 := fun V => grw_some q3 V
            have b4 := fun V => grw_some q4 V
            have b5 := fun V => grw_some q5 V
            have b6 := fun V => grw_some q6 V
            have b7 := fun V => grw_some q7 V
            have b8 := fun V => grw_some q8 V
            have b9 := fun V => grw_some q9 V
            clear p0 p1 p2 p3 p4 p5 p6 p7 p8 p9 q0 q1 q2 q3 q4 q5 q6 q7 q8 q9
            go_wp2_with fail
            refine wp_region_grow ?_ ?_ ?_
            · kernel_rfl
            · kernel_rfl
            · intro hne
              repeat (go_big_quiet_step (first
                | (go_at_call 48; exact grow_call (HK.out _))
                | (go_at_call 25; exact grow_call (HC.out _))))
              refine wpQuiet_nil ?_
              rintro _ ⟨V, rfl⟩
              have HB3 := hideB2 (HB1.out.trans ((grw_below wr V).mono HB1.out.size))
              clear a0 a1 a2 a3 a4 a5 a6 a7 a8 a9 b0 b1 b2 b3 b4 b5 b6 b7 b8 b9 HB1 HX HY HK HC
              generalize grw wr V = w3 at *
              by_cases hcc : 0 ≤ cc
              · have HRF : Hid (R = false) := HQB.out (m + 1) HKL.out (by rw [HFK.out, decide_eq_true hcc]; rfl)
                go_wp2
                go_ret
                exact ⟨ret_bool HRF.out, HB3.out⟩
              · have HPN := hideB2 (idxP_next HP.out (by rw [HFK.out, decide_eq_false hcc]; rfl))
                go_wp2
                exact ⟨⟨m + 1 + 1, by omega, by go_num, HPN.out, HB3.out⟩, by simp [intOf]; omega⟩
      · obtain rfl : k = n := by omega
        have HRT : Hid (R = true) := HQA.out (by rw [HN.out]; omega) (by rw [HN.out]; exact hp)
        have HB1 := hideB2 hb1
        clear hb1 hp
        go_wp2
        go_ret
        exact ⟨ret_bool HRT.out, HB1.out⟩
end Go.Proofs.YtenjbgpndkodmacGreatDoor
