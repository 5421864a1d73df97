/-
  The walks over chapter 2's draws, and laws.days.
-/
import Derived.Test.YtohaghlhdkfkbaaDoorWN
import Derived.Test.YtohaghlhdkfkbaaDoorWT3
import Derived.Test.YtohaghlhdkfkbaaDoorMX
import Derived.Test.YtohaghlhdkfkbaaDoorOpenC
namespace Go.Proofs.YtohaghlhdkfkbaaDoor
set_option linter.unusedVariables false
set_option linter.unusedSimpArgs false
open Go.RowKit
set_option maxHeartbeats 2000000 in
theorem l2draw_any (p : Nat) (w : World) (hd : Drw w p) :
    Calls Tryd.prog 45 #[.pointer (some ⟨p, 0, none⟩)] w fun e w' => (∃ z : Int, -1 ≤ z ∧ z ≤ 10000000000000000 ∧ e = .returned (.int .i64 z)) ∧ Kp p w w' ∧ Drw w' p := by
  go_enter Tryd.func45, Tryd.ntmps45
  go_wp2_with fail
  refine (l1Below_any p 4 _ hd (by omega)).mono ?_
  rintro e w1 ⟨⟨m, hm, _, _, rfl⟩, hk1, hd1⟩
  have hm4 : (m : Int) < 4 := hm (by omega)
  clear hm
  have hcs : m = 0 ∨ m = 1 ∨ m = 2 ∨ m = 3 := by omega
  rcases hcs with rfl | rfl | rfl | rfl
  · have hlt := hd1.lt
    go_wp2_with fail
    refine (l1PickInt_any p w1.heap.size 13 13 _ (hd1.alloc _) (by omega) ?_ (by omega) (by omega)).mono ?_
    · intro j hj
      rcases j with _ | _ | _ | _ | _ | _ | _ | _ | _ | _ | _ | _ | _ | j
      all_goals first | omega | exact cell_newZ _ _ _ _ _ rfl (by decide) (by decide)
    rintro e w2 ⟨⟨z, hz1, hz2, rfl⟩, hk2, hd2⟩
    go_wp2
    go_ret
    exact ⟨⟨z, hz1, hz2, rfl⟩, (hk1.alloc _).trans hk2, hd2⟩
  · go_wp2_with fail
    refine (l1Below_any p 400 _ hd1 (by omega)).mono ?_
    rintro e w2 ⟨⟨n, hn, _, _, rfl⟩, hk2, hd2⟩
    have hn2 : (n : Int) < 400 := hn (by omega)
    clear hn
    go_wp2
    go_ret
    exact ⟨⟨(n : Int) * 86400, by omega, by omega, rfl⟩, hk1.trans hk2, hd2⟩
  · go_wp2_with fail
    refine (l1Below_any p 2000000000 _ hd1 (by omega)).mono ?_
    rintro e w2 ⟨⟨n, hn, _, _, rfl⟩, hk2, hd2⟩
    have hn2 : (n : Int) < 2000000000 := hn (by omega)
    clear hn
    go_wp2
    go_ret
    exact ⟨⟨(n : Int) * 2, by omega, by omega, rfl⟩, hk1.trans hk2, hd2⟩
  · go_wp2_with fail
    refine (l1Below_any p 60000 _ hd1 (by omega)).mono ?_
    rintro e w2 ⟨⟨n, hn, _, _, rfl⟩, hk2, hd2⟩
    have hn2 : (n : Int) < 60000 := hn (by omega)
    clear hn
    go_wp2_with fail
    refine (l1Below_any p 3600 _ hd2 (by omega)).mono ?_
    rintro e w3 ⟨⟨q, hq, _, _, rfl⟩, hk3, hd3⟩
    have hq2 : (q : Int) < 3600 := hq (by omega)
    clear hq
    go_wp2
    go_ret
    exact ⟨⟨(n : Int) * 4000000 + q, by omega, by omega, rfl⟩, (hk1.trans hk2).trans hk3, hd3⟩
set_option maxHeartbeats 1000000 in
theorem DrawCivilOf_any (a : Option Addr) (len cap : Nat) (w : World) (hc : Code w a len) :
    Calls Tryd.prog 23 #[.slice a len cap] w fun e w' => (∃ z : Int, -1 ≤ z ∧ z ≤ 10000000000000000 ∧ e = .returned (.int .i64 z)) ∧ Below w.heap.size w w' := by
  go_enter Tryd.func23, Tryd.ntmps23
  go_wp2_with fail
  refine (l1New_any a len cap _ hc.row hc.max).mono ?_
  rintro e w1 ⟨rfl, hb1, hd1⟩
  go_wp2_with fail
  refine (l2draw_any _ _ hd1).mono ?_
  rintro e w2 ⟨⟨z, h1, h2, rfl⟩, hk2, hd2⟩
  go_wp2
  go_ret
  exact ⟨⟨z, h1, h2, rfl⟩, hb1.trans (hk2.below (Nat.le_refl _) hb1.size)⟩
set_option maxHeartbeats 1000000 in
theorem DrawHttpDate_any (a : Option Addr) (len cap : Nat) (w : World) (hc : Code w a len) :
    Calls Tryd.prog 13 #[.slice a len cap] w fun e w' => (∃ z : Int, -1 ≤ z ∧ z ≤ 10000000000000000 ∧ e = .returned (.int .i64 z)) ∧ Below w.heap.size w w' := by
  go_enter Tryd.func13, Tryd.ntmps13
  go_wp2_with fail
  refine (l1New_any a len cap _ hc.row hc.max).mono ?_
  rintro e w1 ⟨rfl, hb1, hd1⟩
  go_wp2_with fail
  refine (l2draw_any _ _ hd1).mono ?_
  rintro e w2 ⟨⟨z, h1, h2, rfl⟩, hk2, hd2⟩
  go_wp2
  go_ret
  exact ⟨⟨z, h1, h2, rfl⟩, hb1.trans (hk2.below (Nat.le_refl _) hb1.size)⟩
set_option maxHeartbeats 1000000 in
theorem DrawStamp_any (a : Option Addr) (len cap : Nat) (w : World) (hc : Code w a len) :
    Calls Tryd.prog 28 #[.slice a len cap] w fun e w' => (∃ z : Int, -1 ≤ z ∧ z ≤ 10000000000000000 ∧ e = .returned (.int .i64 z)) ∧ Below w.heap.size w w' := by
  go_enter Tryd.func28, Tryd.ntmps28
  go_wp2_with fail
  refine (l1New_any a len cap _ hc.row hc.max).mono ?_
  rintro e w1 ⟨rfl, hb1, hd1⟩
  go_wp2_with fail
  refine (l2draw_any _ _ hd1).mono ?_
  rintro e w2 ⟨⟨z, h1, h2, rfl⟩, hk2, hd2⟩
  go_wp2
  go_ret
  exact ⟨⟨z, h1, h2, rfl⟩, hb1.trans (hk2.below (Nat.le_refl _) hb1.size)⟩
theorem days_http : ((httpB (wdN 86400) 1970 1 2 0 0 0).toList == [70, 114, 105, 44, 32, 48, 50, 32, 74, 97, 110, 32, 49, 57, 55, 48, 32, 48, 48, 58, 48, 48, 58, 48, 48, 32, 71, 77, 84]) = true := by
  rw [ByteArray.toList_eq, beq_iff_eq, http_list _ _ _ _ _ _ _ (wdN_lt _)]
  decide
theorem days_stamp : ((stampB 1970 1 1 0 0 1).toList == [49, 57, 55, 48, 48, 49, 48, 49, 48, 48, 48, 48, 48, 49]) = true := by
  rw [ByteArray.toList_eq, beq_iff_eq, stamp_list]
  decide
set_option maxHeartbeats 2000000 in
theorem days_any (w : World) (hT : Tabs w) :
    Calls Tryd.prog 17 #[] w fun e w' => e = .returned (.bool true) ∧ Below w.heap.size w w' := by
  have hw0 : wdN 0 = 3 := by decide
  have h1 := hideB2 (HttpDate_yes 86400 1970 1 2 0 0 0 w hT (by unfold vld; decide) (by decide))
  have h2 := hideB2 (fun w hT => Stamp_yes 1 1970 1 1 0 0 1 w hT (by unfold vld; decide) (by decide))
  have e1 := days_http
  have e2 := days_stamp
  generalize httpB (wdN 86400) 1970 1 2 0 0 0 = x1 at *
  generalize stampB 1970 1 1 0 0 1 = x2 at *
  go_enter Tryd.func17, Tryd.ntmps17
  go_wp2_with fail
  refine h1.out.mono ?_
  rintro e w1 ⟨rfl, hb1⟩
  have hM := (hT.below hb1).mon
  clear h1 hT
  go_wp2_with fail
  refine (Weekday_yes 0 _ (by omega) (by omega)).mono ?_
  rintro e w2 ⟨rfl, rfl⟩
  rw [hw0]
  go_wp2_with fail
  refine (h2.out _ hM).mono ?_
  rintro e w3 ⟨rfl, hb3⟩
  have hb := below_then hb1 hb3
  clear h2 hM hb1 hb3
  go_wp2
  go_ret
  exact ⟨rfl, hb⟩
end Go.Proofs.YtohaghlhdkfkbaaDoor
