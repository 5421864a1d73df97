/-
  The walks over chapter 2: spec.ReadHttpDate.
-/
import Derived.Test.YtohaghlhdkfkbacDoorWS1
import Derived.Test.YtohaghlhdkfkbacDoorRd
import Derived.Test.YtohaghlhdkfkbacDoorMZ
namespace Go.Proofs.YtohaghlhdkfkbacDoor
set_option linter.unusedVariables false
set_option linter.unusedSimpArgs false
open Go.RowKit
set_option maxHeartbeats 4000000 in
theorem sReadHttp_http (a x : ByteArray) (t : Int) (w : World) (hsz : a.size = 29) (hxs : x.size ≤ 100)
    (hat : ∀ w, Calls Tryd.prog 18 #[.int .i64 (nS (a.extract 12 16)), .int .i64 (sMon (a.extract 8 11)), .int .i64 (nS (a.extract 5 7)), .string (a.extract 17 25)] w fun e w' => e = .returned (.int .i64 t) ∧ Below w.heap.size w w')
    (hwr : ∀ w, Calls Tryd.prog 21 #[.int .i64 t] w fun e w' => e = .returned (.string x) ∧ Below w.heap.size w w') :
    Calls Tryd.prog 8 #[.string a] w fun e w' => e = .returned (.tuple #[.int .i64 (rdT x a t), .bool (eqB x a)]) ∧ Below w.heap.size w w' := by
  have e0 : (a.extract 12 16).size ≤ 8 := by rw [ext_size a 12 16 (by omega) (by omega)]; omega
  have e1 : (a.extract 8 11).size ≤ 8 := by rw [ext_size a 8 11 (by omega) (by omega)]; omega
  have e2 : (a.extract 5 7).size ≤ 8 := by rw [ext_size a 5 7 (by omega) (by omega)]; omega
  have c29 : ((a.size : Int) == 29) = true := by rw [beq_iff_eq]; omega
  have c24 : ((a.size : Int) == 24) = false := by rw [beq_eq_false_iff_ne]; omega
  have c30 : ¬ (30 : Int) ≤ (a.size : Int) := by omega
  have HA := hideB2 hat
  have HW := hideB2 hwr
  clear hat hwr
  go_enter Tryd.func8, Tryd.ntmps8
  go_wp2
  refine wp_region_grow ?_ ?_ ?_
  · kernel_rfl
  · kernel_rfl
  · intro hne
    repeat (go_big_quiet_step (first
      | (go_at_call 19; exact grow_same (l2num_any _ _ (by assumption)))
      | (go_at_call 20; exact grow_same (l2month_any _ _))
      | (go_at_call 18; exact grow_call (HA.out _))))
    refine wpQuiet_nil ?_
    rintro _ ⟨V, rfl⟩
    have hb2 := grw_below w V
    generalize grw w V = W at *
    clear HA
    go_wp2_with fail
    refine (HW.out _).mono ?_
    rintro e w2 ⟨rfl, hb3⟩
    have hb4 := below_then hb2 hb3
    clear hb2 hb3 HW
    cases he : eqB x a
    · have HE : Hid (rdT x a t = 0 ∧ eqB x a = false) := ⟨by unfold rdT; rw [he]; rfl, he⟩
      unfold eqB at he
      go_wp2
      go_ret2
      exact ⟨ret_ib2 HE.out.1 HE.out.2, hb4⟩
    · have HE : Hid (rdT x a t = t ∧ eqB x a = true) := ⟨by unfold rdT; rw [he]; rfl, he⟩
      unfold eqB at he
      go_wp2
      go_ret2
      exact ⟨ret_ib2 HE.out.1 HE.out.2, hb4⟩
set_option maxHeartbeats 4000000 in
theorem sReadHttp_line (a x : ByteArray) (t : Int) (w : World) (hsz : a.size = 24) (hxs : x.size ≤ 100)
    (hat : ∀ w, Calls Tryd.prog 18 #[.int .i64 (nS (a.extract 20 24)), .int .i64 (sMon (a.extract 4 7)), .int .i64 (nS (a.extract 8 10)), .string (a.extract 11 19)] w fun e w' => e = .returned (.int .i64 t) ∧ Below w.heap.size w w')
    (hwr : ∀ w, Calls Tryd.prog 22 #[.int .i64 t] w fun e w' => e = .returned (.string x) ∧ Below w.heap.size w w') :
    Calls Tryd.prog 8 #[.string a] w fun e w' => e = .returned (.tuple #[.int .i64 (rdT x a t), .bool (eqB x a)]) ∧ Below w.heap.size w w' := by
  have e0 : (a.extract 20 24).size ≤ 8 := by rw [ext_size a 20 24 (by omega) (by omega)]; omega
  have e1 : (a.extract 4 7).size ≤ 8 := by rw [ext_size a 4 7 (by omega) (by omega)]; omega
  have e2 : (a.extract 8 10).size ≤ 8 := by rw [ext_size a 8 10 (by omega) (by omega)]; omega
  have c29 : ((a.size : Int) == 29) = false := by rw [beq_eq_false_iff_ne]; omega
  have c24 : ((a.size : Int) == 24) = true := by rw [beq_iff_eq]; omega
  have c30 : ¬ (30 : Int) ≤ (a.size : Int) := by omega
  have HA := hideB2 hat
  have HW := hideB2 hwr
  clear hat hwr
  go_enter Tryd.func8, Tryd.ntmps8
  go_wp2
  refine wp_region_grow ?_ ?_ ?_
  · kernel_rfl
  · kernel_rfl
  · intro hne
    repeat (go_big_quiet_step (first
      | (go_at_call 19; exact grow_same (l2num_any _ _ (by assumption)))
      | (go_at_call 20; exact grow_same (l2month_any _ _))
      | (go_at_call 18; exact grow_call (HA.out _))))
    refine wpQuiet_nil ?_
    rintro _ ⟨V, rfl⟩
    have hb2 := grw_below w V
    generalize grw w V = W at *
    clear HA
    go_wp2_with fail
    refine (HW.out _).mono ?_
    rintro e w2 ⟨rfl, hb3⟩
    have hb4 := below_then hb2 hb3
    clear hb2 hb3 HW
    cases he : eqB x a
    · have HE : Hid (rdT x a t = 0 ∧ eqB x a = false) := ⟨by unfold rdT; rw [he]; rfl, he⟩
      unfold eqB at he
      go_wp2
      go_ret2
      exact ⟨ret_ib2 HE.out.1 HE.out.2, hb4⟩
    · have HE : Hid (rdT x a t = t ∧ eqB x a = true) := ⟨by unfold rdT; rw [he]; rfl, he⟩
      unfold eqB at he
      go_wp2
      go_ret2
      exact ⟨ret_ib2 HE.out.1 HE.out.2, hb4⟩
set_option maxHeartbeats 4000000 in
theorem sReadHttp_long (a x : ByteArray) (t : Int) (w : World) (q : Nat) (r : ByteArray) (hr : a.extract (q + 2) a.size = r) (hq : a.size = q + 24) (h30 : 30 ≤ a.size) (h33 : a.size ≤ 33) (hxs : x.size ≤ 100)
    (hat : ∀ w, Calls Tryd.prog 18 #[.int .i64 (sYear (nS (r.extract 7 9))), .int .i64 (sMon (r.extract 3 6)), .int .i64 (nS (r.extract 0 2)), .string (r.extract 10 18)] w fun e w' => e = .returned (.int .i64 t) ∧ Below w.heap.size w w')
    (hwr : ∀ w, Calls Tryd.prog 23 #[.int .i64 t] w fun e w' => e = .returned (.string x) ∧ Below w.heap.size w w') :
    Calls Tryd.prog 8 #[.string a] w fun e w' => e = .returned (.tuple #[.int .i64 (rdT x a t), .bool (eqB x a)]) ∧ Below w.heap.size w w' := by
  have hrs : r.size = 22 := by rw [← hr, ext_size a (q + 2) a.size (by omega) (by omega)]; omega
  have e0 : (r.extract 7 9).size ≤ 8 := by rw [ext_size r 7 9 (by omega) (by omega)]; omega
  have e1 : (r.extract 3 6).size ≤ 8 := by rw [ext_size r 3 6 (by omega) (by omega)]; omega
  have e2 : (r.extract 0 2).size ≤ 8 := by rw [ext_size r 0 2 (by omega) (by omega)]; omega
  have hy := nS_lt2 (r.extract 7 9) (by rw [ext_size r 7 9 (by omega) (by omega)]; omega)
  have c29 : ((a.size : Int) == 29) = false := by rw [beq_eq_false_iff_ne]; omega
  have c24 : ((a.size : Int) == 24) = false := by rw [beq_eq_false_iff_ne]; omega
  have c30 : (30 : Int) ≤ (a.size : Int) := by omega
  have c33 : (a.size : Int) ≤ 33 := by omega
  have csub : (a.size : Int) - 22 = ((q + 2 : Nat) : Int) := by omega
  have cq : ((q + 2 : Nat) : Int) ≤ (a.size : Int) := by omega
  have hS := hideB2 (show sYear (nS (r.extract 7 9)) = if 70 ≤ nS (r.extract 7 9) then nS (r.extract 7 9) + 1900 else nS (r.extract 7 9) + 2000 from rfl)
  have HQ := hideB2 hq
  clear hq h30 h33
  generalize q + 2 = q2 at *
  have HA := hideB2 hat
  have HW := hideB2 hwr
  clear hat hwr
  go_enter Tryd.func8, Tryd.ntmps8
  go_wp2_with fail
  refine (l2num_any _ _ (by assumption)).mono ?_
  rintro e w' ⟨rfl, rfl⟩
  clear hr csub cq
  generalize hyy : nS (r.extract 7 9) = yy at *
  have hcond : (70 ≤ yy ∧ sYear yy = yy + 1900) ∨ (¬ 70 ≤ yy ∧ sYear yy = yy + 2000) := by
    unfold sYear
    by_cases h : 70 ≤ yy
    · left; exact ⟨h, by rw [if_pos h]⟩
    · right; exact ⟨h, by rw [if_neg h]⟩
  rcases hcond with ⟨h70, hsy⟩ | ⟨h70, hsy⟩
  all_goals
    rw [hsy] at HA
    clear hsy hyy hS HQ
    go_wp2
    refine wp_region_grow ?_ ?_ ?_
    · kernel_rfl
    · kernel_rfl
    · intro hne
      repeat (go_big_quiet_step (first
        | (go_at_call 19; exact grow_same (l2num_any _ _ (by assumption)))
        | (go_at_call 20; exact grow_same (l2month_any _ _))
        | (go_at_call 18; exact grow_call (HA.out _))))
      refine wpQuiet_nil ?_
      rintro _ ⟨V, rfl⟩
      have hb2 := grw_below w' V
      generalize grw w' V = W at *
      clear HA
      go_wp2_with fail
      refine (HW.out _).mono ?_
      rintro e w2 ⟨rfl, hb3⟩
      have hb4 := below_then hb2 hb3
      clear hb2 hb3 HW
      cases he : eqB x a
      · have HE : Hid (rdT x a t = 0 ∧ eqB x a = false) := ⟨by unfold rdT; rw [he]; rfl, he⟩
        unfold eqB at he
        go_wp2
        go_ret2
        exact ⟨ret_ib2 HE.out.1 HE.out.2, hb4⟩
      · have HE : Hid (rdT x a t = t ∧ eqB x a = true) := ⟨by unfold rdT; rw [he]; rfl, he⟩
        unfold eqB at he
        go_wp2
        go_ret2
        exact ⟨ret_ib2 HE.out.1 HE.out.2, hb4⟩
set_option maxHeartbeats 1000000 in
theorem sReadHttp_none (a : ByteArray) (w : World) (hm : a.size ≤ maxLen) (h1 : a.size ≠ 29) (h2 : a.size ≠ 24) (h3 : a.size < 30 ∨ 33 < a.size) :
    Calls Tryd.prog 8 #[.string a] w fun e w' => e = .returned (.tuple #[.int .i64 0, .bool false]) ∧ Below w.heap.size w w' := by
  unfold maxLen at hm
  have c29 : ((a.size : Int) == 29) = false := by rw [beq_eq_false_iff_ne]; omega
  have c24 : ((a.size : Int) == 24) = false := by rw [beq_eq_false_iff_ne]; omega
  have h4 : (¬ (30 : Int) ≤ (a.size : Int)) ∨ ((30 : Int) ≤ (a.size : Int) ∧ ¬ (a.size : Int) ≤ 33) := by omega
  clear h1 h2 h3
  rcases h4 with h | ⟨h, h'⟩
  all_goals
    go_enter Tryd.func8, Tryd.ntmps8
    go_wp2
    go_ret2
    exact ⟨rfl, Below.refl _ _⟩
theorem stry_http (a : ByteArray) (hsz : a.size = 29) : ∃ t b, Res (IsF 9999 httpF a) t b ∧ ∀ w, Calls Tryd.prog 8 #[.string a] w fun e w' => e = .returned (.tuple #[.int .i64 t, .bool b]) ∧ Below w.heap.size w w' := by
  have hr := http_readsS a
  have hcs : (a.extract 17 25).size = 8 := by rw [ext_size a 17 25 (by omega) (by omega)]
  cases hv : vldB (nS (a.extract 12 16)) (sMon (a.extract 8 11)) (nS (a.extract 5 7)) (nS ((a.extract 17 25).extract 0 2)) (nS ((a.extract 17 25).extract 3 5)) (nS ((a.extract 17 25).extract 6 8))
  · have hC := fun w => sReadHttp_http a ⟨#[]⟩ (-1) w hsz (by decide) (fun w => l2at_no _ _ _ _ w hcs hv) (fun w => sHttpDate_no (-1) w (by omega))
    have hne : eqB ⟨#[]⟩ a = false := Bool.eq_false_iff.2 fun hh => by
      have := congrArg ByteArray.size (eqB_iff.1 hh)
      have e : (ByteArray.mk #[]).size = 0 := rfl
      omega
    refine ⟨0, false, .inr ⟨rfl, rfl, hr.none_of hv⟩, fun w => ?_⟩
    have h' := hC w
    rw [hne, show rdT ⟨#[]⟩ a (-1) = 0 by unfold rdT; rw [hne]; rfl] at h'
    exact h'
  · obtain ⟨y, m, d, h, i, s, e1, e2, e3, e4, e5, e6, v⟩ := nats_of hv
    have hat : ∀ w, Calls Tryd.prog 18 #[.int .i64 (nS (a.extract 12 16)), .int .i64 (sMon (a.extract 8 11)), .int .i64 (nS (a.extract 5 7)), .string (a.extract 17 25)] w fun e w' => e = .returned (.int .i64 (secs y m d h i s)) ∧ Below w.heap.size w w' := by
      intro w
      rw [e1, e2, e3]
      exact l2at_yes y m d h i s _ w hcs e4 e5 e6 (vldB_iff.2 v)
    obtain ⟨_, _, m1, m2, _⟩ := vbd v
    have hxz : (httpB (wdN (secs y m d h i s)) y m d h i s).size ≤ 100 := by
      rw [http_size _ _ _ _ _ _ _ (wdN_lt _) m1 m2]; omega
    have hC := fun w => sReadHttp_http a (httpB (wdN (secs y m d h i s)) y m d h i s) (secs y m d h i s) w hsz hxz hat (fun w => sHttpDate_yes _ y m d h i s w v rfl)
    rw [e1, e2, e3, e4, e5, e6] at hr
    cases he : eqB (httpB (wdN (secs y m d h i s)) y m d h i s) a
    · refine ⟨0, false, .inr ⟨rfl, rfl, hr.none_ne fun hh => ?_⟩, fun w => ?_⟩
      · have := eqB_self (httpB (wdN (secs y m d h i s)) y m d h i s)
        rw [show a = httpB (wdN (secs y m d h i s)) y m d h i s from hh, this] at he
        cases he
      · have h' := hC w
        rw [he, show rdT (httpB (wdN (secs y m d h i s)) y m d h i s) a (secs y m d h i s) = 0 by unfold rdT; rw [he]; rfl] at h'
        exact h'
    · refine ⟨secs y m d h i s, true, .inl ⟨rfl, y, m, d, h, i, s, v, by have := (vbd v).2.1; omega, rfl, (eqB_iff.1 he).symm⟩, fun w => ?_⟩
      have h' := hC w
      rw [he, show rdT (httpB (wdN (secs y m d h i s)) y m d h i s) a (secs y m d h i s) = secs y m d h i s by unfold rdT; rw [he]; rfl] at h'
      exact h'
theorem stry_line (a : ByteArray) (hsz : a.size = 24) : ∃ t b, Res (IsF 9999 lineF a) t b ∧ ∀ w, Calls Tryd.prog 8 #[.string a] w fun e w' => e = .returned (.tuple #[.int .i64 t, .bool b]) ∧ Below w.heap.size w w' := by
  have hr := line_readsS a
  have hcs : (a.extract 11 19).size = 8 := by rw [ext_size a 11 19 (by omega) (by omega)]
  cases hv : vldB (nS (a.extract 20 24)) (sMon (a.extract 4 7)) (nS (a.extract 8 10)) (nS ((a.extract 11 19).extract 0 2)) (nS ((a.extract 11 19).extract 3 5)) (nS ((a.extract 11 19).extract 6 8))
  · have hC := fun w => sReadHttp_line a ⟨#[]⟩ (-1) w hsz (by decide) (fun w => l2at_no _ _ _ _ w hcs hv) (fun w => sLineDate_no (-1) w (by omega))
    have hne : eqB ⟨#[]⟩ a = false := Bool.eq_false_iff.2 fun hh => by
      have := congrArg ByteArray.size (eqB_iff.1 hh)
      have e : (ByteArray.mk #[]).size = 0 := rfl
      omega
    refine ⟨0, false, .inr ⟨rfl, rfl, hr.none_of hv⟩, fun w => ?_⟩
    have h' := hC w
    rw [hne, show rdT ⟨#[]⟩ a (-1) = 0 by unfold rdT; rw [hne]; rfl] at h'
    exact h'
  · obtain ⟨y, m, d, h, i, s, e1, e2, e3, e4, e5, e6, v⟩ := nats_of hv
    have hat : ∀ w, Calls Tryd.prog 18 #[.int .i64 (nS (a.extract 20 24)), .int .i64 (sMon (a.extract 4 7)), .int .i64 (nS (a.extract 8 10)), .string (a.extract 11 19)] w fun e w' => e = .returned (.int .i64 (secs y m d h i s)) ∧ Below w.heap.size w w' := by
      intro w
      rw [e1, e2, e3]
      exact l2at_yes y m d h i s _ w hcs e4 e5 e6 (vldB_iff.2 v)
    obtain ⟨_, _, m1, m2, _⟩ := vbd v
    have hxz : (lineB (wdN (secs y m d h i s)) y m d h i s).size ≤ 100 := by
      rw [line_size _ _ _ _ _ _ _ (wdN_lt _) m1 m2]; omega
    have hC := fun w => sReadHttp_line a (lineB (wdN (secs y m d h i s)) y m d h i s) (secs y m d h i s) w hsz hxz hat (fun w => sLineDate_yes _ y m d h i s w v rfl)
    rw [e1, e2, e3, e4, e5, e6] at hr
    cases he : eqB (lineB (wdN (secs y m d h i s)) y m d h i s) a
    · refine ⟨0, false, .inr ⟨rfl, rfl, hr.none_ne fun hh => ?_⟩, fun w => ?_⟩
      · have := eqB_self (lineB (wdN (secs y m d h i s)) y m d h i s)
        rw [show a = lineB (wdN (secs y m d h i s)) y m d h i s from hh, this] at he
        cases he
      · have h' := hC w
        rw [he, show rdT (lineB (wdN (secs y m d h i s)) y m d h i s) a (secs y m d h i s) = 0 by unfold rdT; rw [he]; rfl] at h'
        exact h'
    · refine ⟨secs y m d h i s, true, .inl ⟨rfl, y, m, d, h, i, s, v, by have := (vbd v).2.1; omega, rfl, (eqB_iff.1 he).symm⟩, fun w => ?_⟩
      have h' := hC w
      rw [he, show rdT (lineB (wdN (secs y m d h i s)) y m d h i s) a (secs y m d h i s) = secs y m d h i s by unfold rdT; rw [he]; rfl] at h'
      exact h'
theorem stry_long (a : ByteArray) (q : Nat) (hq : a.size = q + 24) (h30 : 30 ≤ a.size) (h33 : a.size ≤ 33) : ∃ t b, Res (IsF 2069 longF a) t b ∧ ∀ w, Calls Tryd.prog 8 #[.string a] w fun e w' => e = .returned (.tuple #[.int .i64 t, .bool b]) ∧ Below w.heap.size w w' := by
  have hr := long_readsS a q hq
  have hcs : ((a.extract (q + 2) a.size).extract 10 18).size = 8 := by rw [ext_size _ 10 18 (by omega) (by rw [ext_size a (q + 2) a.size (by omega) (by omega)]; omega)]
  cases hv : vldB (sYear (nS ((a.extract (q + 2) a.size).extract 7 9))) (sMon ((a.extract (q + 2) a.size).extract 3 6)) (nS ((a.extract (q + 2) a.size).extract 0 2)) (nS (((a.extract (q + 2) a.size).extract 10 18).extract 0 2)) (nS (((a.extract (q + 2) a.size).extract 10 18).extract 3 5)) (nS (((a.extract (q + 2) a.size).extract 10 18).extract 6 8))
  · have hC := fun w => sReadHttp_long a ⟨#[]⟩ (-1) w q _ rfl hq h30 h33 (by decide) (fun w => l2at_no _ _ _ _ w hcs hv) (fun w => sLongDate_no (-1) w (by omega))
    have hne : eqB ⟨#[]⟩ a = false := Bool.eq_false_iff.2 fun hh => by
      have := congrArg ByteArray.size (eqB_iff.1 hh)
      have e : (ByteArray.mk #[]).size = 0 := rfl
      omega
    refine ⟨0, false, .inr ⟨rfl, rfl, hr.none_of hv⟩, fun w => ?_⟩
    have h' := hC w
    rw [hne, show rdT ⟨#[]⟩ a (-1) = 0 by unfold rdT; rw [hne]; rfl] at h'
    exact h'
  · obtain ⟨y, m, d, h, i, s, e1, e2, e3, e4, e5, e6, v⟩ := nats_of hv
    have hy : y ≤ 2069 := by
      have h1 := nS_lt2 ((a.extract (q + 2) a.size).extract 7 9) (by rw [ext_size _ 7 9 (by omega) (by rw [ext_size a (q + 2) a.size (by omega) (by omega)]; omega)]; omega)
      have h2 := sYear_le h1.1 h1.2
      omega
    have hat : ∀ w, Calls Tryd.prog 18 #[.int .i64 (sYear (nS ((a.extract (q + 2) a.size).extract 7 9))), .int .i64 (sMon ((a.extract (q + 2) a.size).extract 3 6)), .int .i64 (nS ((a.extract (q + 2) a.size).extract 0 2)), .string ((a.extract (q + 2) a.size).extract 10 18)] w fun e w' => e = .returned (.int .i64 (secs y m d h i s)) ∧ Below w.heap.size w w' := by
      intro w
      rw [e1, e2, e3]
      exact l2at_yes y m d h i s _ w hcs e4 e5 e6 (vldB_iff.2 v)
    obtain ⟨_, _, m1, m2, _⟩ := vbd v
    have hxz : (longB (wdN (secs y m d h i s)) y m d h i s).size ≤ 100 := by
      have h1 := dayB_bd (wdN (secs y m d h i s))
      rw [long_size _ _ _ _ _ _ _ m1 m2]; omega
    have hC := fun w => sReadHttp_long a (longB (wdN (secs y m d h i s)) y m d h i s) (secs y m d h i s) w q _ rfl hq h30 h33 hxz hat (fun w => sLongDate_yes _ y m d h i s w v rfl hy)
    rw [e1, e2, e3, e4, e5, e6] at hr
    cases he : eqB (longB (wdN (secs y m d h i s)) y m d h i s) a
    · refine ⟨0, false, .inr ⟨rfl, rfl, hr.none_ne fun hh => ?_⟩, fun w => ?_⟩
      · have := eqB_self (longB (wdN (secs y m d h i s)) y m d h i s)
        rw [show a = longB (wdN (secs y m d h i s)) y m d h i s from hh, this] at he
        cases he
      · have h' := hC w
        rw [he, show rdT (longB (wdN (secs y m d h i s)) y m d h i s) a (secs y m d h i s) = 0 by unfold rdT; rw [he]; rfl] at h'
        exact h'
    · refine ⟨secs y m d h i s, true, .inl ⟨rfl, y, m, d, h, i, s, v, hy, rfl, (eqB_iff.1 he).symm⟩, fun w => ?_⟩
      have h' := hC w
      rw [he, show rdT (longB (wdN (secs y m d h i s)) y m d h i s) a (secs y m d h i s) = secs y m d h i s by unfold rdT; rw [he]; rfl] at h'
      exact h'
theorem sReadHttpDate_ex (a : ByteArray) (hm : a.size ≤ maxLen) : ∃ t b, Res (IsH a) t b ∧ ∀ w, Calls Tryd.prog 8 #[.string a] w fun e w' => e = .returned (.tuple #[.int .i64 t, .bool b]) ∧ Below w.heap.size w w' := by
  by_cases h29 : a.size = 29
  · obtain ⟨t, b, r, h⟩ := stry_http a h29
    refine ⟨t, b, ?_, h⟩
    rcases r with ⟨rfl, r⟩ | ⟨rfl, rfl, r⟩
    · exact .inl ⟨rfl, .inl r⟩
    · refine .inr ⟨rfl, rfl, ?_⟩
      rintro t (k | k | k)
      · exact r _ k
      · have := longF_size k; omega
      · have := lineF_size k; omega
  · by_cases h24 : a.size = 24
    · obtain ⟨t, b, r, h⟩ := stry_line a h24
      refine ⟨t, b, ?_, h⟩
      rcases r with ⟨rfl, r⟩ | ⟨rfl, rfl, r⟩
      · exact .inl ⟨rfl, .inr (.inr r)⟩
      · refine .inr ⟨rfl, rfl, ?_⟩
        rintro t (k | k | k)
        · have := httpF_size k; omega
        · have := longF_size k; omega
        · exact r _ k
    · by_cases h3 : 30 ≤ a.size ∧ a.size ≤ 33
      · obtain ⟨t, b, r, h⟩ := stry_long a (a.size - 24) (by omega) h3.1 h3.2
        refine ⟨t, b, ?_, h⟩
        rcases r with ⟨rfl, r⟩ | ⟨rfl, rfl, r⟩
        · exact .inl ⟨rfl, .inr (.inl r)⟩
        · refine .inr ⟨rfl, rfl, ?_⟩
          rintro t (k | k | k)
          · have := httpF_size k; omega
          · exact r _ k
          · have := lineF_size k; omega
      · refine ⟨0, false, .inr ⟨rfl, rfl, ?_⟩, fun w => sReadHttp_none a w hm h29 h24 (by omega)⟩
        rintro t (k | k | k)
        · have := httpF_size k; omega
        · have := longF_size k; omega
        · have := lineF_size k; omega
end Go.Proofs.YtohaghlhdkfkbacDoor
