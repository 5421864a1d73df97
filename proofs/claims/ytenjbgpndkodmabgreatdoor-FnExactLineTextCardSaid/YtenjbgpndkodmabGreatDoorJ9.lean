/-
  Chapter 9: may a line stand in an index; the specification's side. (written by mkn8.py) · Chapter 9: a line's text; both sides. (written by mkn9.py) · What a card of a door seat of chapter 1 needs: the listed tables. · What a card of a door seat of chapter 6 needs: the table of the powers of ten. · What every frame of a door seat of chapter 2 shares: the listed tables, a day and hour that comes in.
-/
import Derived.Test.YtenjbgpndkodmabGreatDoorJ8
import Derived.Test.YtenjbgpndkodmabGreatDoorJ0
import Derived.Lib.LaidTab
import Derived.LaidLaws
import Derived.LaidHandle
import Derived.ChangeVars
import Derived.OpenVars
import Derived.SevenTiedAt
import Derived.Test.YtenjbgpndkodmabGreatDoorJ3
import Derived.Test.YtenjbgpndkodmabGreatDoorJ7
namespace Go.Proofs.YtenjbgpndkodmabGreatDoor
set_option linter.unusedVariables false
set_option linter.unusedSimpArgs false
open Go.RowKit
set_option maxRecDepth 100000 in
set_option maxHeartbeats 8000000 in
theorem sLineOk_any (x : Lx) (w : World) (h1 : x.ke.size ≤ 1048576) (h2 : x.me.size ≤ 1048576) (h3 : x.la.size ≤ 1048576) :
    Calls Tryz.prog 9 #[lxV x] w fun e w' => e = .returned (.bool (linQ x)) ∧ Below w.heap.size w w' := by
  have HU := hideB2 (fun W => sUnsurt_any x.ke W h1)
  obtain ⟨dl, hdl⟩ := rlV_rlO x.la
  have HL := hideB2 (fun W => sReadLabel_any x.la W (by unfold maxLen; omega))
  rw [hdl] at HL
  have HM := hideB2 (fun W => l9method_any x.me W (by unfold maxLen; omega))
  have HQ : Hid (linQ x = (usO x.ke && (rlO x.la && (timeB x.ti && (withinB x.si 0 1 && (methQ x.me && (stQ x.st && (withinB x.se 0 39 && (withinB x.wh 0 60000 && withinB x.sz 0 60000))))))))) := rfl
  clear hdl h1 h2 h3
  have B1 := Blk.new w (lxC x) 26
  have HB := hideB2 (below_a1 w (.cells (lxC x) 26))
  generalize linQ x = r at *
  generalize usO x.ke = c1 at *
  generalize usU x.ke = U at *
  generalize rlO x.la = c2 at *
  generalize methQ x.me = c5 at *
  generalize hc3 : timeB x.ti = c3 at *
  obtain ⟨ho, pa, qu, po, hq⟩ := U
  obtain ⟨ke, ti, si, me, st, la, rv, se, wh, sz⟩ := x
  unfold lxV
  unfold lxC at *
  simp only at *
  go_enter Tryz.func9, Tryz.ntmps9
  go_wp2_with fail
  refine (HU.out _).mono ?_
  rintro e1 w1 ⟨rfl, hb1⟩
  unfold valU
  simp only
  have B2 := B1.later hb1
  have HB2 := hideB2 (below_then HB.out hb1)
  clear hb1 B1 HB HU
  obtain ⟨p0, p1, p2, p3, p4, p5, p6, p7, p8, p9⟩ := (B2.alloc (.cells #[.string ho, .int .i64 po, .string pa, .string qu, .bool hq] 46)).c10
  have HB1 := hideB2 B2
  clear B2
  go_wp2_with fail
  refine (HL.out _).mono ?_
  rintro e2 w2 ⟨rfl, hb2⟩
  have B3 := (HB1.out.alloc (.cells #[.string ho, .int .i64 po, .string pa, .string qu, .bool hq] 46)).later hb2
  have HB3 := hideB2 (below_then (below_then HB2.out (below_a1 w1 (.cells #[.string ho, .int .i64 po, .string pa, .string qu, .bool hq] 46))) hb2)
  clear p0 p1 p2 p3 p4 p5 p6 p7 p8 p9 hb2 HB1 HB2 HL
  rename_i K1 hK1 K2 hK2
  refine hK2 _ _ ?_
  refine wp_quiet_here (fun hne0 => ?_)
  repeat (go_big_quiet_step (fail))
  refine wpQuiet_nil ?_
  rintro _ ⟨V0, rfl⟩
  refine hK1 _ _ ?_
  have B4 := B3.later (grw_below w2 V0)
  have HB4 := hideB2 (below_then HB3.out (grw_below w2 V0))
  clear B3 HB3 hK1 hK2
  generalize grw w2 V0 = w2 at *
  refine wp_seq_k ?_
  intro K3 hK3
  refine wp_region_lit ?_
  simp only [List.append_eq, List.cons_append, List.nil_append]
  obtain ⟨p0, p1, p2, p3, p4, p5, p6, p7, p8, p9⟩ := B4.c10
  have a0 := fun V => grw_some p0 V
  have a1 := fun V => grw_some p1 V
  have a2 := fun V => grw_some p2 V
  have a3 := fun V => grw_some p3 V
  have a4 := fun V => grw_some p4 V
  have a5 := fun V => grw_some p5 V
  have a6 := fun V => grw_some p6 V
  have a7 := fun V => grw_some p7 V
  have a8 := fun V => grw_some p8 V
  have a9 := fun V => grw_some p9 V
  clear p0 p1 p2 p3 p4 p5 p6 p7 p8 p9 B4
  have HBV := hideB2 (fun V => below_then HB4.out (grw_below _ V))
  clear HB4
  refine wp_quiet_here (fun hne => ?_)
  cases c1
  · skip
    have HR := hideB2 (show r = false by rw [HQ.out]; simp [withinB, stQ])
    clear HQ
    repeat (first | (refine quiet_pass rfl rfl ?_) | (go_big_quiet_step (first
      | (go_at_call 28; exact grow_same (l2time_any _ _))
      | (go_at_call 29; exact grow_same (HM.out _)))))
    refine wpQuiet_nil ?_
    rintro _ ⟨V, rfl⟩
    have HB3 := hideB2 (HBV.out V)
    clear a0 a1 a2 a3 a4 a5 a6 a7 a8 a9 HBV
    refine hK3 _ _ ?_
    clear hK3
    generalize grw _ V = w3 at *
    go_wp2
    go_ret
    exact ⟨ret_bool HR.out, HB3.out⟩
  · skip
    cases c3
    · skip
      have HR := hideB2 (show r = false by rw [HQ.out]; simp [withinB, stQ])
      clear HQ
      repeat (first | (refine quiet_pass rfl rfl ?_) | (go_big_quiet_step (first
        | (go_at_call 28; exact grow_same (l2time_any _ _))
        | (go_at_call 29; exact grow_same (HM.out _)))))
      refine wpQuiet_nil ?_
      rintro _ ⟨V, rfl⟩
      have HB3 := hideB2 (HBV.out V)
      clear a0 a1 a2 a3 a4 a5 a6 a7 a8 a9 HBV
      refine hK3 _ _ ?_
      clear hK3
      generalize grw _ V = w3 at *
      go_wp2
      go_ret
      exact ⟨ret_bool HR.out, HB3.out⟩
    · skip
      by_cases hs : si = 0 ∨ si = 1
      · skip
        have hw4 : withinB si 0 1 = true := within_iff.2 (by omega)
        rw [hw4] at HQ
        have hor : (si == 0) = true ∨ (si == 0) = false ∧ (si == 1) = true := by rcases hs with rfl | rfl <;> simp
        have HOR := hideB2 hor
        clear hs hw4 hor
        cases c5
        · skip
          have HR := hideB2 (show r = false by rw [HQ.out]; simp [withinB, stQ])
          clear HQ
          rcases HOR.out with hsa | ⟨hsa, hsb⟩
          · skip
            repeat (go_big_quiet_step (first
              | (go_at_call 28; exact grow_same (l2time_any _ _))
              | (go_at_call 29; exact grow_same (HM.out _))))
            refine wpQuiet_nil ?_
            rintro _ ⟨V, rfl⟩
            have HB3 := hideB2 (HBV.out V)
            clear a0 a1 a2 a3 a4 a5 a6 a7 a8 a9 HBV
            refine hK3 _ _ ?_
            clear hK3
            generalize grw _ V = w3 at *
            go_wp2
            go_ret
            exact ⟨ret_bool HR.out, HB3.out⟩
          · skip
            repeat (go_big_quiet_step (first
              | (go_at_call 28; exact grow_same (l2time_any _ _))
              | (go_at_call 29; exact grow_same (HM.out _))))
            refine wpQuiet_nil ?_
            rintro _ ⟨V, rfl⟩
            have HB3 := hideB2 (HBV.out V)
            clear a0 a1 a2 a3 a4 a5 a6 a7 a8 a9 HBV
            refine hK3 _ _ ?_
            clear hK3
            generalize grw _ V = w3 at *
            go_wp2
            go_ret
            exact ⟨ret_bool HR.out, HB3.out⟩
        · skip
          by_cases ka : 200 ≤ st
          rotate_left
          · skip
            have HR := hideB2 (show r = false by rw [HQ.out]; simp [withinB, stQ, ka])
            clear HQ
            rcases HOR.out with hsa | ⟨hsa, hsb⟩
            · skip
              repeat (go_big_quiet_step (first
                | (go_at_call 28; exact grow_same (l2time_any _ _))
                | (go_at_call 29; exact grow_same (HM.out _))))
              refine wpQuiet_nil ?_
              rintro _ ⟨V, rfl⟩
              have HB3 := hideB2 (HBV.out V)
              clear a0 a1 a2 a3 a4 a5 a6 a7 a8 a9 HBV
              refine hK3 _ _ ?_
              clear hK3
              generalize grw _ V = w3 at *
              go_wp2
              go_ret
              exact ⟨ret_bool HR.out, HB3.out⟩
            · skip
              repeat (go_big_quiet_step (first
                | (go_at_call 28; exact grow_same (l2time_any _ _))
                | (go_at_call 29; exact grow_same (HM.out _))))
              refine wpQuiet_nil ?_
              rintro _ ⟨V, rfl⟩
              have HB3 := hideB2 (HBV.out V)
              clear a0 a1 a2 a3 a4 a5 a6 a7 a8 a9 HBV
              refine hK3 _ _ ?_
              clear hK3
              generalize grw _ V = w3 at *
              go_wp2
              go_ret
              exact ⟨ret_bool HR.out, HB3.out⟩
          · skip
            by_cases kb : st ≤ 599
            rotate_left
            · skip
              have HR := hideB2 (show r = false by rw [HQ.out]; simp [withinB, stQ, ka, kb])
              clear HQ
              rcases HOR.out with hsa | ⟨hsa, hsb⟩
              · skip
                repeat (go_big_quiet_step (first
                  | (go_at_call 28; exact grow_same (l2time_any _ _))
                  | (go_at_call 29; exact grow_same (HM.out _))))
                refine wpQuiet_nil ?_
                rintro _ ⟨V, rfl⟩
                have HB3 := hideB2 (HBV.out V)
                clear a0 a1 a2 a3 a4 a5 a6 a7 a8 a9 HBV
                refine hK3 _ _ ?_
                clear hK3
                generalize grw _ V = w3 at *
                go_wp2
                go_ret
                exact ⟨ret_bool HR.out, HB3.out⟩
              · skip
                repeat (go_big_quiet_step (first
                  | (go_at_call 28; exact grow_same (l2time_any _ _))
                  | (go_at_call 29; exact grow_same (HM.out _))))
                refine wpQuiet_nil ?_
                rintro _ ⟨V, rfl⟩
                have HB3 := hideB2 (HBV.out V)
                clear a0 a1 a2 a3 a4 a5 a6 a7 a8 a9 HBV
                refine hK3 _ _ ?_
                clear hK3
                generalize grw _ V = w3 at *
                go_wp2
                go_ret
                exact ⟨ret_bool HR.out, HB3.out⟩
            · skip
              cases c2
              · skip
                have HR := hideB2 (show r = false by rw [HQ.out]; simp [withinB, stQ, ka, kb])
                clear HQ
                rcases HOR.out with hsa | ⟨hsa, hsb⟩
                · skip
                  repeat (go_big_quiet_step (first
                    | (go_at_call 28; exact grow_same (l2time_any _ _))
                    | (go_at_call 29; exact grow_same (HM.out _))))
                  refine wpQuiet_nil ?_
                  rintro _ ⟨V, rfl⟩
                  have HB3 := hideB2 (HBV.out V)
                  clear a0 a1 a2 a3 a4 a5 a6 a7 a8 a9 HBV
                  refine hK3 _ _ ?_
                  clear hK3
                  generalize grw _ V = w3 at *
                  go_wp2
                  go_ret
                  exact ⟨ret_bool HR.out, HB3.out⟩
                · skip
                  repeat (go_big_quiet_step (first
                    | (go_at_call 28; exact grow_same (l2time_any _ _))
                    | (go_at_call 29; exact grow_same (HM.out _))))
                  refine wpQuiet_nil ?_
                  rintro _ ⟨V, rfl⟩
                  have HB3 := hideB2 (HBV.out V)
                  clear a0 a1 a2 a3 a4 a5 a6 a7 a8 a9 HBV
                  refine hK3 _ _ ?_
                  clear hK3
                  generalize grw _ V = w3 at *
                  go_wp2
                  go_ret
                  exact ⟨ret_bool HR.out, HB3.out⟩
              · skip
                by_cases kc : 0 ≤ se
                rotate_left
                · skip
                  have HR := hideB2 (show r = false by rw [HQ.out]; simp [withinB, stQ, ka, kb, kc])
                  clear HQ
                  rcases HOR.out with hsa | ⟨hsa, hsb⟩
                  · skip
                    repeat (go_big_quiet_step (first
                      | (go_at_call 28; exact grow_same (l2time_any _ _))
                      | (go_at_call 29; exact grow_same (HM.out _))))
                    refine wpQuiet_nil ?_
                    rintro _ ⟨V, rfl⟩
                    have HB3 := hideB2 (HBV.out V)
                    clear a0 a1 a2 a3 a4 a5 a6 a7 a8 a9 HBV
                    refine hK3 _ _ ?_
                    clear hK3
                    generalize grw _ V = w3 at *
                    go_wp2
                    go_ret
                    exact ⟨ret_bool HR.out, HB3.out⟩
                  · skip
                    repeat (go_big_quiet_step (first
                      | (go_at_call 28; exact grow_same (l2time_any _ _))
                      | (go_at_call 29; exact grow_same (HM.out _))))
                    refine wpQuiet_nil ?_
                    rintro _ ⟨V, rfl⟩
                    have HB3 := hideB2 (HBV.out V)
                    clear a0 a1 a2 a3 a4 a5 a6 a7 a8 a9 HBV
                    refine hK3 _ _ ?_
                    clear hK3
                    generalize grw _ V = w3 at *
                    go_wp2
                    go_ret
                    exact ⟨ret_bool HR.out, HB3.out⟩
                · skip
                  by_cases kd : se < 40
                  rotate_left
                  · skip
                    have kd2 : ¬ se ≤ 39 := by omega
                    have HR := hideB2 (show r = false by rw [HQ.out]; simp [withinB, stQ, ka, kb, kc, kd2])
                    clear HQ
                    rcases HOR.out with hsa | ⟨hsa, hsb⟩
                    · skip
                      repeat (go_big_quiet_step (first
                        | (go_at_call 28; exact grow_same (l2time_any _ _))
                        | (go_at_call 29; exact grow_same (HM.out _))))
                      refine wpQuiet_nil ?_
                      rintro _ ⟨V, rfl⟩
                      have HB3 := hideB2 (HBV.out V)
                      clear a0 a1 a2 a3 a4 a5 a6 a7 a8 a9 HBV
                      refine hK3 _ _ ?_
                      clear hK3
                      generalize grw _ V = w3 at *
                      go_wp2
                      go_ret
                      exact ⟨ret_bool HR.out, HB3.out⟩
                    · skip
                      repeat (go_big_quiet_step (first
                        | (go_at_call 28; exact grow_same (l2time_any _ _))
                        | (go_at_call 29; exact grow_same (HM.out _))))
                      refine wpQuiet_nil ?_
                      rintro _ ⟨V, rfl⟩
                      have HB3 := hideB2 (HBV.out V)
                      clear a0 a1 a2 a3 a4 a5 a6 a7 a8 a9 HBV
                      refine hK3 _ _ ?_
                      clear hK3
                      generalize grw _ V = w3 at *
                      go_wp2
                      go_ret
                      exact ⟨ret_bool HR.out, HB3.out⟩
                  · skip
                    have kd3 : se ≤ 39 := by omega
                    by_cases ke2 : 0 ≤ wh
                    rotate_left
                    · skip
                      have HR := hideB2 (show r = false by rw [HQ.out]; simp [withinB, stQ, ka, kb, kc, kd3, ke2])
                      clear HQ
                      rcases HOR.out with hsa | ⟨hsa, hsb⟩
                      · skip
                        repeat (go_big_quiet_step (first
                          | (go_at_call 28; exact grow_same (l2time_any _ _))
                          | (go_at_call 29; exact grow_same (HM.out _))))
                        refine wpQuiet_nil ?_
                        rintro _ ⟨V, rfl⟩
                        have HB3 := hideB2 (HBV.out V)
                        clear a0 a1 a2 a3 a4 a5 a6 a7 a8 a9 HBV
                        refine hK3 _ _ ?_
                        clear hK3
                        generalize grw _ V = w3 at *
                        go_wp2
                        go_ret
                        exact ⟨ret_bool HR.out, HB3.out⟩
                      · skip
                        repeat (go_big_quiet_step (first
                          | (go_at_call 28; exact grow_same (l2time_any _ _))
                          | (go_at_call 29; exact grow_same (HM.out _))))
                        refine wpQuiet_nil ?_
                        rintro _ ⟨V, rfl⟩
                        have HB3 := hideB2 (HBV.out V)
                        clear a0 a1 a2 a3 a4 a5 a6 a7 a8 a9 HBV
                        refine hK3 _ _ ?_
                        clear hK3
                        generalize grw _ V = w3 at *
                        go_wp2
                        go_ret
                        exact ⟨ret_bool HR.out, HB3.out⟩
                    · skip
                      by_cases kf : wh ≤ 60000
                      rotate_left
                      · skip
                        have HR := hideB2 (show r = false by rw [HQ.out]; simp [withinB, stQ, ka, kb, kc, kd3, ke2, kf])
                        clear HQ
                        rcases HOR.out with hsa | ⟨hsa, hsb⟩
                        · skip
                          repeat (go_big_quiet_step (first
                            | (go_at_call 28; exact grow_same (l2time_any _ _))
                            | (go_at_call 29; exact grow_same (HM.out _))))
                          refine wpQuiet_nil ?_
                          rintro _ ⟨V, rfl⟩
                          have HB3 := hideB2 (HBV.out V)
                          clear a0 a1 a2 a3 a4 a5 a6 a7 a8 a9 HBV
                          refine hK3 _ _ ?_
                          clear hK3
                          generalize grw _ V = w3 at *
                          go_wp2
                          go_ret
                          exact ⟨ret_bool HR.out, HB3.out⟩
                        · skip
                          repeat (go_big_quiet_step (first
                            | (go_at_call 28; exact grow_same (l2time_any _ _))
                            | (go_at_call 29; exact grow_same (HM.out _))))
                          refine wpQuiet_nil ?_
                          rintro _ ⟨V, rfl⟩
                          have HB3 := hideB2 (HBV.out V)
                          clear a0 a1 a2 a3 a4 a5 a6 a7 a8 a9 HBV
                          refine hK3 _ _ ?_
                          clear hK3
                          generalize grw _ V = w3 at *
                          go_wp2
                          go_ret
                          exact ⟨ret_bool HR.out, HB3.out⟩
                      · skip
                        by_cases kg : 0 ≤ sz
                        rotate_left
                        · skip
                          have HR := hideB2 (show r = false by rw [HQ.out]; simp [withinB, stQ, ka, kb, kc, kd3, ke2, kf, kg])
                          clear HQ
                          rcases HOR.out with hsa | ⟨hsa, hsb⟩
                          · skip
                            repeat (go_big_quiet_step (first
                              | (go_at_call 28; exact grow_same (l2time_any _ _))
                              | (go_at_call 29; exact grow_same (HM.out _))))
                            refine wpQuiet_nil ?_
                            rintro _ ⟨V, rfl⟩
                            have HB3 := hideB2 (HBV.out V)
                            clear a0 a1 a2 a3 a4 a5 a6 a7 a8 a9 HBV
                            refine hK3 _ _ ?_
                            clear hK3
                            generalize grw _ V = w3 at *
                            go_wp2
                            go_ret
                            exact ⟨ret_bool HR.out, HB3.out⟩
                          · skip
                            repeat (go_big_quiet_step (first
                              | (go_at_call 28; exact grow_same (l2time_any _ _))
                              | (go_at_call 29; exact grow_same (HM.out _))))
                            refine wpQuiet_nil ?_
                            rintro _ ⟨V, rfl⟩
                            have HB3 := hideB2 (HBV.out V)
                            clear a0 a1 a2 a3 a4 a5 a6 a7 a8 a9 HBV
                            refine hK3 _ _ ?_
                            clear hK3
                            generalize grw _ V = w3 at *
                            go_wp2
                            go_ret
                            exact ⟨ret_bool HR.out, HB3.out⟩
                        · skip
                          by_cases kh : sz ≤ 60000
                          rotate_left
                          · skip
                            have HR := hideB2 (show r = false by rw [HQ.out]; simp [withinB, stQ, ka, kb, kc, kd3, ke2, kf, kg, kh])
                            clear HQ
                            rcases HOR.out with hsa | ⟨hsa, hsb⟩
                            · skip
                              repeat (go_big_quiet_step (first
                                | (go_at_call 28; exact grow_same (l2time_any _ _))
                                | (go_at_call 29; exact grow_same (HM.out _))))
                              refine wpQuiet_nil ?_
                              rintro _ ⟨V, rfl⟩
                              have HB3 := hideB2 (HBV.out V)
                              clear a0 a1 a2 a3 a4 a5 a6 a7 a8 a9 HBV
                              refine hK3 _ _ ?_
                              clear hK3
                              generalize grw _ V = w3 at *
                              go_wp2
                              go_ret
                              exact ⟨ret_bool HR.out, HB3.out⟩
                            · skip
                              repeat (go_big_quiet_step (first
                                | (go_at_call 28; exact grow_same (l2time_any _ _))
                                | (go_at_call 29; exact grow_same (HM.out _))))
                              refine wpQuiet_nil ?_
                              rintro _ ⟨V, rfl⟩
                              have HB3 := hideB2 (HBV.out V)
                              clear a0 a1 a2 a3 a4 a5 a6 a7 a8 a9 HBV
                              refine hK3 _ _ ?_
                              clear hK3
                              generalize grw _ V = w3 at *
                              go_wp2
                              go_ret
                              exact ⟨ret_bool HR.out, HB3.out⟩
                          · skip
                            have HR := hideB2 (show r = true by rw [HQ.out]; simp [withinB, stQ, ka, kb, kc, kd3, ke2, kf, kg, kh])
                            clear HQ
                            rcases HOR.out with hsa | ⟨hsa, hsb⟩
                            · skip
                              repeat (go_big_quiet_step (first
                                | (go_at_call 28; exact grow_same (l2time_any _ _))
                                | (go_at_call 29; exact grow_same (HM.out _))))
                              refine wpQuiet_nil ?_
                              rintro _ ⟨V, rfl⟩
                              have HB3 := hideB2 (HBV.out V)
                              clear a0 a1 a2 a3 a4 a5 a6 a7 a8 a9 HBV
                              refine hK3 _ _ ?_
                              clear hK3
                              generalize grw _ V = w3 at *
                              go_wp2
                              go_ret
                              exact ⟨ret_bool HR.out, HB3.out⟩
                            · skip
                              repeat (go_big_quiet_step (first
                                | (go_at_call 28; exact grow_same (l2time_any _ _))
                                | (go_at_call 29; exact grow_same (HM.out _))))
                              refine wpQuiet_nil ?_
                              rintro _ ⟨V, rfl⟩
                              have HB3 := hideB2 (HBV.out V)
                              clear a0 a1 a2 a3 a4 a5 a6 a7 a8 a9 HBV
                              refine hK3 _ _ ?_
                              clear hK3
                              generalize grw _ V = w3 at *
                              go_wp2
                              go_ret
                              exact ⟨ret_bool HR.out, HB3.out⟩
      · skip
        have hw4 : withinB si 0 1 = false := by
          cases hh : withinB si 0 1
          · rfl
          · exact absurd (within_iff.1 hh) (by omega)
        rw [hw4] at HQ
        have hsa : (si == 0) = false := by simp; omega
        have hsb : (si == 1) = false := by simp; omega
        clear hs hw4
        have HR := hideB2 (show r = false by rw [HQ.out]; simp)
        clear HQ
        repeat (go_big_quiet_step (first
          | (go_at_call 28; exact grow_same (l2time_any _ _))
          | (go_at_call 29; exact grow_same (HM.out _))))
        refine wpQuiet_nil ?_
        rintro _ ⟨V, rfl⟩
        have HB3 := hideB2 (HBV.out V)
        clear a0 a1 a2 a3 a4 a5 a6 a7 a8 a9 HBV
        refine hK3 _ _ ?_
        clear hK3
        generalize grw _ V = w3 at *
        go_wp2
        go_ret
        exact ⟨ret_bool HR.out, HB3.out⟩
end Go.Proofs.YtenjbgpndkodmabGreatDoor
namespace Go.Proofs.YtenjbgpndkodmabGreatDoor
set_option linter.unusedVariables false
set_option linter.unusedSimpArgs false
open Go.RowKit
theorem bl3 (c : UInt8) : (⟨#[32, c, 32]⟩ : ByteArray) = ((⟨#[32]⟩ : ByteArray) ++ ⟨#[c]⟩) ++ ⟨#[32]⟩ := by
  apply bytes_ext
  rw [Go.Joins.data_append, Go.Joins.data_append]
  rfl
theorem joinS10 (a0 a1 a2 a3 a4 a5 a6 a7 a8 a9 : ByteArray) : joinS 32 [a0, a1, a2, a3, a4, a5, a6, a7, a8, a9] = ((((((((((((((((((a0 ++ (⟨#[32]⟩ : ByteArray)) ++ a1) ++ (⟨#[32]⟩ : ByteArray)) ++ a2) ++ (⟨#[32]⟩ : ByteArray)) ++ a3) ++ (⟨#[32]⟩ : ByteArray)) ++ a4) ++ (⟨#[32]⟩ : ByteArray)) ++ a5) ++ (⟨#[32]⟩ : ByteArray)) ++ a6) ++ (⟨#[32]⟩ : ByteArray)) ++ a7) ++ (⟨#[32]⟩ : ByteArray)) ++ a8) ++ (⟨#[32]⟩ : ByteArray)) ++ a9) := by
  rw [joinS_two, joinS_two, joinS_two, joinS_two, joinS_two, joinS_two, joinS_two, joinS_two, joinS_two, joinS_one]
  simp only [← bytes_assoc]
theorem lit_form (a0 a1 a3 a4 a5 a7 a8 a9 : ByteArray) (c d : UInt8) : joinS 32 [a0, a1, ⟨#[c]⟩, a3, a4, a5, ⟨#[d]⟩, a7, a8, a9] = (((((((((((((a0 ++ (⟨#[32]⟩ : ByteArray)) ++ a1) ++ ⟨#[32, c, 32]⟩) ++ a3) ++ (⟨#[32]⟩ : ByteArray)) ++ a4) ++ (⟨#[32]⟩ : ByteArray)) ++ a5) ++ ⟨#[32, d, 32]⟩) ++ a7) ++ (⟨#[32]⟩ : ByteArray)) ++ a8) ++ (⟨#[32]⟩ : ByteArray)) ++ a9 := by
  rw [joinS10, bl3 c, bl3 d]
  simp only [← bytes_assoc]
set_option maxRecDepth 100000 in
set_option maxHeartbeats 4000000 in
theorem LineText_any (x : Lx) (w : World) (h1 : x.ke.size ≤ 1048576) (h2 : x.me.size ≤ 1048576) (h3 : x.la.size ≤ 1048576) (htab : Tab10 w) (hM : MonTab w) :
    Calls Tryz.prog 13 #[lxV x] w fun e w' => e = .returned (.string (litB x)) ∧ Below w.heap.size w w' := by
  have HK := hideB2 (fun W (h : Tab10 W) => LineOk_any x W h1 h2 h3 h)
  have HT := hideB2 htab
  have HMT := hideB2 hM
  have B1 := Blk.new w (lxC x) 26
  have HB := hideB2 (below_a1 w (.cells (lxC x) 26))
  clear h1 h2 h3 htab hM
  cases hq : linQ x
  · rw [litB_no hq]
    rw [hq] at HK
    clear hq
    obtain ⟨ke, ti, si, me, st, la, rv, se, wh, sz⟩ := x
    unfold lxV at *
    unfold lxC at *
    simp only at *
    go_enter Tryz.func13, Tryz.ntmps13
    go_wp2_with fail
    refine (HK.out _ (tab_later HT.out HB.out)).mono ?_
    rintro e1 w1 ⟨rfl, hb1⟩
    have HB1 := hideB2 (below_then HB.out hb1)
    clear hb1 B1
    go_wp2
    go_ret
    exact ⟨rfl, HB1.out⟩
  · have hz := lit_size hq
    rw [litB_yes hq] at *
    rw [hq] at HK
    clear hq
    have HJ := hideB2 (fun w0 W v hb => JoinS_any w0 W v 32 (wdsX x) hb (by simp [wdsX]) (by omega))
    unfold wdsX at *
    generalize joinS 32 [x.ke, stpT x.ti, sdW x.si, x.me, decT x.st, x.la, rvW x.rv, decT x.se, decT x.wh, decT x.sz] = R at *
    obtain ⟨ke, ti, si, me, st, la, rv, se, wh, sz⟩ := x
    unfold lxV at *
    unfold lxC at *
    simp only at *
    go_enter Tryz.func13, Tryz.ntmps13
    go_wp2_with fail
    refine (HK.out _ (tab_later HT.out HB.out)).mono ?_
    rintro e1 w1 ⟨rfl, hb1⟩
    have B2 := B1.later hb1
    have HB1 := hideB2 (below_then HB.out hb1)
    have HT1 := hideB2 (fun V : Gr w1 => tab_later (tab_later HT.out HB1.out) (grw_below w1 V))
    have HM1 := hideB2 (fun V : Gr w1 => (HMT.out.below HB1.out).below (grw_below w1 V))
    clear hb1 B1
    obtain ⟨p0, p1, p2, p3, p4, p5, p6, p7, p8, p9⟩ := B2.c10
    have a0 := fun V => grw_some p0 V
    have a1 := fun V => grw_some p1 V
    have a2 := fun V => grw_some p2 V
    have a3 := fun V => grw_some p3 V
    have a4 := fun V => grw_some p4 V
    have a5 := fun V => grw_some p5 V
    have a6 := fun V => grw_some p6 V
    have a7 := fun V => grw_some p7 V
    have a8 := fun V => grw_some p8 V
    have a9 := fun V => grw_some p9 V
    clear p0 p1 p2 p3 p4 p5 p6 p7 p8 p9 B2
    go_wp2_with fail
    refine wp_region_grow_tail 27 ?_ ?_ ?_
    · kernel_rfl
    · kernel_rfl
    · intro hne
      simp only [List.take_succ_cons, List.take_zero, List.drop_succ_cons, List.drop_zero]
      repeat (go_big_quiet_step (first
        | (go_at_call 37; exact grow_call (Stamp_all _ _ (HM1.out _)))
        | (go_at_call 38; exact grow_same (sideWord_any _ _))
        | (go_at_call 39; exact grow_call (DecText_all _ _ (HT1.out _)))
        | (go_at_call 40; exact grow_same (kindWord_any _ _))))
      refine wpQuiet_nil ?_
      rintro _ ⟨V, rfl⟩
      have HB2 := hideB2 (below_then HB1.out (grw_below w1 V))
      clear a0 a1 a2 a3 a4 a5 a6 a7 a8 a9 HT1 HM1
      generalize grw w1 V = w3 at *
      generalize stpT ti = s1 at *
      generalize sdW si = s2 at *
      generalize decT st = s4 at *
      generalize rvW rv = s6 at *
      generalize decT se = s7 at *
      generalize decT wh = s8 at *
      generalize decT sz = s9 at *
      have HBF := hideB2 (buf_made w3 [ke, s1, s2, me, s4, la, s6, s7, s8, s9] (by simp) (by simp [maxLen]))
      go_wp2_with fail
      refine (HJ.out _ _ _ HBF.out).mono ?_
      rintro e4 w4 ⟨rfl, hb4⟩
      have HB4 := hideB2 (below_then HB2.out (below_then (below_a1 w3 _) hb4))
      clear hb4
      go_wp2
      go_ret
      exact ⟨rfl, HB4.out⟩
set_option maxRecDepth 100000 in
set_option maxHeartbeats 4000000 in
theorem l9text_any (x : Lx) (w : World) (h1 : x.ke.size ≤ 1048576) (h2 : x.me.size ≤ 1048576) (h3 : x.la.size ≤ 1048576) :
    Calls Tryz.prog 36 #[lxV x] w fun e w' => e = .returned (.string (joinS 32 (wdsX x))) ∧ Below w.heap.size w w' := by
  have HB := hideB2 (below_a1 w (.cells (lxC x) 26))
  have A1 := Blk.new w (lxC x) 26
  have z1 := stpT_size x.ti
  have z4 := decT_size x.st
  have z7 := decT_size x.se
  have z8 := decT_size x.wh
  have z9 := decT_size x.sz
  have HE : Hid (∀ c d : UInt8, sdW x.si = ⟨#[c]⟩ → rvW x.rv = ⟨#[d]⟩ → joinS 32 (wdsX x) = (((((((((((((x.ke ++ (⟨#[32]⟩ : ByteArray)) ++ stpT x.ti) ++ ⟨#[32, c, 32]⟩) ++ x.me) ++ (⟨#[32]⟩ : ByteArray)) ++ decT x.st) ++ (⟨#[32]⟩ : ByteArray)) ++ x.la) ++ ⟨#[32, d, 32]⟩) ++ decT x.se) ++ (⟨#[32]⟩ : ByteArray)) ++ decT x.wh) ++ (⟨#[32]⟩ : ByteArray)) ++ decT x.sz) := by
    intro c d hc hd
    unfold wdsX
    rw [hc, hd]
    exact lit_form _ _ _ _ _ _ _ _ c d
  have HS1 := hideB2 (fun W => sStamp_all x.ti W)
  have HD := hideB2 (fun n W => sDecText_all n W)
  generalize joinS 32 (wdsX x) = R at *
  obtain ⟨ke, ti, si, me, st, la, rv, se, wh, sz⟩ := x
  unfold lxV at *
  unfold lxC at *
  simp only at *
  have y0 : (⟨#[32]⟩ : ByteArray).size = 1 := rfl
  by_cases hs : si = 1
  · cases rv
    · skip
      subst hs
      have HR := hideB2 (HE.out 111 45 (by rfl) rfl)
      have y1 : (⟨#[32, 111, 32]⟩ : ByteArray).size = 3 := rfl
      have y2 : (⟨#[32, 45, 32]⟩ : ByteArray).size = 3 := rfl
      clear HE
      have k0 : (ke ++ (⟨#[32]⟩ : ByteArray)).size ≤ 1048577 := by rw [ByteArray.size_append]; omega
      have k1 : ((ke ++ (⟨#[32]⟩ : ByteArray)) ++ stpT ti).size ≤ 1048591 := by rw [ByteArray.size_append]; omega
      have k2 : (((ke ++ (⟨#[32]⟩ : ByteArray)) ++ stpT ti) ++ (⟨#[32, 111, 32]⟩ : ByteArray)).size ≤ 1048594 := by rw [ByteArray.size_append]; omega
      have k3 : ((((ke ++ (⟨#[32]⟩ : ByteArray)) ++ stpT ti) ++ (⟨#[32, 111, 32]⟩ : ByteArray)) ++ me).size ≤ 2097170 := by rw [ByteArray.size_append]; omega
      have k4 : (((((ke ++ (⟨#[32]⟩ : ByteArray)) ++ stpT ti) ++ (⟨#[32, 111, 32]⟩ : ByteArray)) ++ me) ++ (⟨#[32]⟩ : ByteArray)).size ≤ 2097171 := by rw [ByteArray.size_append]; omega
      have k5 : ((((((ke ++ (⟨#[32]⟩ : ByteArray)) ++ stpT ti) ++ (⟨#[32, 111, 32]⟩ : ByteArray)) ++ me) ++ (⟨#[32]⟩ : ByteArray)) ++ decT st).size ≤ 2097186 := by rw [ByteArray.size_append]; omega
      have k6 : (((((((ke ++ (⟨#[32]⟩ : ByteArray)) ++ stpT ti) ++ (⟨#[32, 111, 32]⟩ : ByteArray)) ++ me) ++ (⟨#[32]⟩ : ByteArray)) ++ decT st) ++ (⟨#[32]⟩ : ByteArray)).size ≤ 2097187 := by rw [ByteArray.size_append]; omega
      have k7 : ((((((((ke ++ (⟨#[32]⟩ : ByteArray)) ++ stpT ti) ++ (⟨#[32, 111, 32]⟩ : ByteArray)) ++ me) ++ (⟨#[32]⟩ : ByteArray)) ++ decT st) ++ (⟨#[32]⟩ : ByteArray)) ++ la).size ≤ 3145763 := by rw [ByteArray.size_append]; omega
      have k8 : (((((((((ke ++ (⟨#[32]⟩ : ByteArray)) ++ stpT ti) ++ (⟨#[32, 111, 32]⟩ : ByteArray)) ++ me) ++ (⟨#[32]⟩ : ByteArray)) ++ decT st) ++ (⟨#[32]⟩ : ByteArray)) ++ la) ++ (⟨#[32, 45, 32]⟩ : ByteArray)).size ≤ 3145766 := by rw [ByteArray.size_append]; omega
      have k9 : ((((((((((ke ++ (⟨#[32]⟩ : ByteArray)) ++ stpT ti) ++ (⟨#[32, 111, 32]⟩ : ByteArray)) ++ me) ++ (⟨#[32]⟩ : ByteArray)) ++ decT st) ++ (⟨#[32]⟩ : ByteArray)) ++ la) ++ (⟨#[32, 45, 32]⟩ : ByteArray)) ++ decT se).size ≤ 3145781 := by rw [ByteArray.size_append]; omega
      have k10 : (((((((((((ke ++ (⟨#[32]⟩ : ByteArray)) ++ stpT ti) ++ (⟨#[32, 111, 32]⟩ : ByteArray)) ++ me) ++ (⟨#[32]⟩ : ByteArray)) ++ decT st) ++ (⟨#[32]⟩ : ByteArray)) ++ la) ++ (⟨#[32, 45, 32]⟩ : ByteArray)) ++ decT se) ++ (⟨#[32]⟩ : ByteArray)).size ≤ 3145782 := by rw [ByteArray.size_append]; omega
      have k11 : ((((((((((((ke ++ (⟨#[32]⟩ : ByteArray)) ++ stpT ti) ++ (⟨#[32, 111, 32]⟩ : ByteArray)) ++ me) ++ (⟨#[32]⟩ : ByteArray)) ++ decT st) ++ (⟨#[32]⟩ : ByteArray)) ++ la) ++ (⟨#[32, 45, 32]⟩ : ByteArray)) ++ decT se) ++ (⟨#[32]⟩ : ByteArray)) ++ decT wh).size ≤ 3145797 := by rw [ByteArray.size_append]; omega
      have k12 : (((((((((((((ke ++ (⟨#[32]⟩ : ByteArray)) ++ stpT ti) ++ (⟨#[32, 111, 32]⟩ : ByteArray)) ++ me) ++ (⟨#[32]⟩ : ByteArray)) ++ decT st) ++ (⟨#[32]⟩ : ByteArray)) ++ la) ++ (⟨#[32, 45, 32]⟩ : ByteArray)) ++ decT se) ++ (⟨#[32]⟩ : ByteArray)) ++ decT wh) ++ (⟨#[32]⟩ : ByteArray)).size ≤ 3145798 := by rw [ByteArray.size_append]; omega
      have k13 : ((((((((((((((ke ++ (⟨#[32]⟩ : ByteArray)) ++ stpT ti) ++ (⟨#[32, 111, 32]⟩ : ByteArray)) ++ me) ++ (⟨#[32]⟩ : ByteArray)) ++ decT st) ++ (⟨#[32]⟩ : ByteArray)) ++ la) ++ (⟨#[32, 45, 32]⟩ : ByteArray)) ++ decT se) ++ (⟨#[32]⟩ : ByteArray)) ++ decT wh) ++ (⟨#[32]⟩ : ByteArray)) ++ decT sz).size ≤ 3145813 := by rw [ByteArray.size_append]; omega
      go_enter Tryz.func36, Tryz.ntmps36
      go_wp2
      generalize hW : w.alloc (.cells #[.string ke, .int .i64 ti, .int .i64 1, .string me, .int .i64 st, .string la, .bool false, .int .i64 se, .int .i64 wh, .int .i64 sz] 26) = W at *
      clear hW
      obtain ⟨p0, p1, p2, p3, p4, p5, p6, p7, p8, p9⟩ := A1.c10
      have a0 := fun V => grw_some p0 V
      have a1 := fun V => grw_some p1 V
      have a2 := fun V => grw_some p2 V
      have a3 := fun V => grw_some p3 V
      have a4 := fun V => grw_some p4 V
      have a5 := fun V => grw_some p5 V
      have a6 := fun V => grw_some p6 V
      have a7 := fun V => grw_some p7 V
      have a8 := fun V => grw_some p8 V
      have a9 := fun V => grw_some p9 V
      clear p0 p1 p2 p3 p4 p5 p6 p7 p8 p9 A1
      refine wp_region_grow ?_ ?_ ?_
      · kernel_rfl
      · kernel_rfl
      · intro hne
        repeat (go_big_quiet_step (first
          | (go_at_call 64; exact grow_call (HS1.out _))
          | (go_at_call 65; exact grow_call (HD.out _ _))))
        refine wpQuiet_nil ?_
        rintro _ ⟨V, rfl⟩
        have HBV := hideB2 (below_then HB.out (grw_below W V))
        generalize grw W V = w3 at *
        go_wp2
        go_ret
        exact ⟨ret_str HR.out, HBV.out⟩
    · skip
      subst hs
      have HR := hideB2 (HE.out 111 114 (by rfl) rfl)
      have y1 : (⟨#[32, 111, 32]⟩ : ByteArray).size = 3 := rfl
      have y2 : (⟨#[32, 114, 32]⟩ : ByteArray).size = 3 := rfl
      clear HE
      have k0 : (ke ++ (⟨#[32]⟩ : ByteArray)).size ≤ 1048577 := by rw [ByteArray.size_append]; omega
      have k1 : ((ke ++ (⟨#[32]⟩ : ByteArray)) ++ stpT ti).size ≤ 1048591 := by rw [ByteArray.size_append]; omega
      have k2 : (((ke ++ (⟨#[32]⟩ : ByteArray)) ++ stpT ti) ++ (⟨#[32, 111, 32]⟩ : ByteArray)).size ≤ 1048594 := by rw [ByteArray.size_append]; omega
      have k3 : ((((ke ++ (⟨#[32]⟩ : ByteArray)) ++ stpT ti) ++ (⟨#[32, 111, 32]⟩ : ByteArray)) ++ me).size ≤ 2097170 := by rw [ByteArray.size_append]; omega
      have k4 : (((((ke ++ (⟨#[32]⟩ : ByteArray)) ++ stpT ti) ++ (⟨#[32, 111, 32]⟩ : ByteArray)) ++ me) ++ (⟨#[32]⟩ : ByteArray)).size ≤ 2097171 := by rw [ByteArray.size_append]; omega
      have k5 : ((((((ke ++ (⟨#[32]⟩ : ByteArray)) ++ stpT ti) ++ (⟨#[32, 111, 32]⟩ : ByteArray)) ++ me) ++ (⟨#[32]⟩ : ByteArray)) ++ decT st).size ≤ 2097186 := by rw [ByteArray.size_append]; omega
      have k6 : (((((((ke ++ (⟨#[32]⟩ : ByteArray)) ++ stpT ti) ++ (⟨#[32, 111, 32]⟩ : ByteArray)) ++ me) ++ (⟨#[32]⟩ : ByteArray)) ++ decT st) ++ (⟨#[32]⟩ : ByteArray)).size ≤ 2097187 := by rw [ByteArray.size_append]; omega
      have k7 : ((((((((ke ++ (⟨#[32]⟩ : ByteArray)) ++ stpT ti) ++ (⟨#[32, 111, 32]⟩ : ByteArray)) ++ me) ++ (⟨#[32]⟩ : ByteArray)) ++ decT st) ++ (⟨#[32]⟩ : ByteArray)) ++ la).size ≤ 3145763 := by rw [ByteArray.size_append]; omega
      have k8 : (((((((((ke ++ (⟨#[32]⟩ : ByteArray)) ++ stpT ti) ++ (⟨#[32, 111, 32]⟩ : ByteArray)) ++ me) ++ (⟨#[32]⟩ : ByteArray)) ++ decT st) ++ (⟨#[32]⟩ : ByteArray)) ++ la) ++ (⟨#[32, 114, 32]⟩ : ByteArray)).size ≤ 3145766 := by rw [ByteArray.size_append]; omega
      have k9 : ((((((((((ke ++ (⟨#[32]⟩ : ByteArray)) ++ stpT ti) ++ (⟨#[32, 111, 32]⟩ : ByteArray)) ++ me) ++ (⟨#[32]⟩ : ByteArray)) ++ decT st) ++ (⟨#[32]⟩ : ByteArray)) ++ la) ++ (⟨#[32, 114, 32]⟩ : ByteArray)) ++ decT se).size ≤ 3145781 := by rw [ByteArray.size_append]; omega
      have k10 : (((((((((((ke ++ (⟨#[32]⟩ : ByteArray)) ++ stpT ti) ++ (⟨#[32, 111, 32]⟩ : ByteArray)) ++ me) ++ (⟨#[32]⟩ : ByteArray)) ++ decT st) ++ (⟨#[32]⟩ : ByteArray)) ++ la) ++ (⟨#[32, 114, 32]⟩ : ByteArray)) ++ decT se) ++ (⟨#[32]⟩ : ByteArray)).size ≤ 3145782 := by rw [ByteArray.size_append]; omega
      have k11 : ((((((((((((ke ++ (⟨#[32]⟩ : ByteArray)) ++ stpT ti) ++ (⟨#[32, 111, 32]⟩ : ByteArray)) ++ me) ++ (⟨#[32]⟩ : ByteArray)) ++ decT st) ++ (⟨#[32]⟩ : ByteArray)) ++ la) ++ (⟨#[32, 114, 32]⟩ : ByteArray)) ++ decT se) ++ (⟨#[32]⟩ : ByteArray)) ++ decT wh).size ≤ 3145797 := by rw [ByteArray.size_append]; omega
      have k12 : (((((((((((((ke ++ (⟨#[32]⟩ : ByteArray)) ++ stpT ti) ++ (⟨#[32, 111, 32]⟩ : ByteArray)) ++ me) ++ (⟨#[32]⟩ : ByteArray)) ++ decT st) ++ (⟨#[32]⟩ : ByteArray)) ++ la) ++ (⟨#[32, 114, 32]⟩ : ByteArray)) ++ decT se) ++ (⟨#[32]⟩ : ByteArray)) ++ decT wh) ++ (⟨#[32]⟩ : ByteArray)).size ≤ 3145798 := by rw [ByteArray.size_append]; omega
      have k13 : ((((((((((((((ke ++ (⟨#[32]⟩ : ByteArray)) ++ stpT ti) ++ (⟨#[32, 111, 32]⟩ : ByteArray)) ++ me) ++ (⟨#[32]⟩ : ByteArray)) ++ decT st) ++ (⟨#[32]⟩ : ByteArray)) ++ la) ++ (⟨#[32, 114, 32]⟩ : ByteArray)) ++ decT se) ++ (⟨#[32]⟩ : ByteArray)) ++ decT wh) ++ (⟨#[32]⟩ : ByteArray)) ++ decT sz).size ≤ 3145813 := by rw [ByteArray.size_append]; omega
      go_enter Tryz.func36, Tryz.ntmps36
      go_wp2
      generalize hW : w.alloc (.cells #[.string ke, .int .i64 ti, .int .i64 1, .string me, .int .i64 st, .string la, .bool true, .int .i64 se, .int .i64 wh, .int .i64 sz] 26) = W at *
      clear hW
      obtain ⟨p0, p1, p2, p3, p4, p5, p6, p7, p8, p9⟩ := A1.c10
      have a0 := fun V => grw_some p0 V
      have a1 := fun V => grw_some p1 V
      have a2 := fun V => grw_some p2 V
      have a3 := fun V => grw_some p3 V
      have a4 := fun V => grw_some p4 V
      have a5 := fun V => grw_some p5 V
      have a6 := fun V => grw_some p6 V
      have a7 := fun V => grw_some p7 V
      have a8 := fun V => grw_some p8 V
      have a9 := fun V => grw_some p9 V
      clear p0 p1 p2 p3 p4 p5 p6 p7 p8 p9 A1
      refine wp_region_grow ?_ ?_ ?_
      · kernel_rfl
      · kernel_rfl
      · intro hne
        repeat (go_big_quiet_step (first
          | (go_at_call 64; exact grow_call (HS1.out _))
          | (go_at_call 65; exact grow_call (HD.out _ _))))
        refine wpQuiet_nil ?_
        rintro _ ⟨V, rfl⟩
        have HBV := hideB2 (below_then HB.out (grw_below W V))
        generalize grw W V = w3 at *
        go_wp2
        go_ret
        exact ⟨ret_str HR.out, HBV.out⟩
  · have hsb : (si == 1) = false := by simpa using hs
    cases rv
    · skip
      have HR := hideB2 (HE.out 99 45 (by unfold sdW; rw [if_neg hs]) rfl)
      have y1 : (⟨#[32, 99, 32]⟩ : ByteArray).size = 3 := rfl
      have y2 : (⟨#[32, 45, 32]⟩ : ByteArray).size = 3 := rfl
      clear HE
      have k0 : (ke ++ (⟨#[32]⟩ : ByteArray)).size ≤ 1048577 := by rw [ByteArray.size_append]; omega
      have k1 : ((ke ++ (⟨#[32]⟩ : ByteArray)) ++ stpT ti).size ≤ 1048591 := by rw [ByteArray.size_append]; omega
      have k2 : (((ke ++ (⟨#[32]⟩ : ByteArray)) ++ stpT ti) ++ (⟨#[32, 99, 32]⟩ : ByteArray)).size ≤ 1048594 := by rw [ByteArray.size_append]; omega
      have k3 : ((((ke ++ (⟨#[32]⟩ : ByteArray)) ++ stpT ti) ++ (⟨#[32, 99, 32]⟩ : ByteArray)) ++ me).size ≤ 2097170 := by rw [ByteArray.size_append]; omega
      have k4 : (((((ke ++ (⟨#[32]⟩ : ByteArray)) ++ stpT ti) ++ (⟨#[32, 99, 32]⟩ : ByteArray)) ++ me) ++ (⟨#[32]⟩ : ByteArray)).size ≤ 2097171 := by rw [ByteArray.size_append]; omega
      have k5 : ((((((ke ++ (⟨#[32]⟩ : ByteArray)) ++ stpT ti) ++ (⟨#[32, 99, 32]⟩ : ByteArray)) ++ me) ++ (⟨#[32]⟩ : ByteArray)) ++ decT st).size ≤ 2097186 := by rw [ByteArray.size_append]; omega
      have k6 : (((((((ke ++ (⟨#[32]⟩ : ByteArray)) ++ stpT ti) ++ (⟨#[32, 99, 32]⟩ : ByteArray)) ++ me) ++ (⟨#[32]⟩ : ByteArray)) ++ decT st) ++ (⟨#[32]⟩ : ByteArray)).size ≤ 2097187 := by rw [ByteArray.size_append]; omega
      have k7 : ((((((((ke ++ (⟨#[32]⟩ : ByteArray)) ++ stpT ti) ++ (⟨#[32, 99, 32]⟩ : ByteArray)) ++ me) ++ (⟨#[32]⟩ : ByteArray)) ++ decT st) ++ (⟨#[32]⟩ : ByteArray)) ++ la).size ≤ 3145763 := by rw [ByteArray.size_append]; omega
      have k8 : (((((((((ke ++ (⟨#[32]⟩ : ByteArray)) ++ stpT ti) ++ (⟨#[32, 99, 32]⟩ : ByteArray)) ++ me) ++ (⟨#[32]⟩ : ByteArray)) ++ decT st) ++ (⟨#[32]⟩ : ByteArray)) ++ la) ++ (⟨#[32, 45, 32]⟩ : ByteArray)).size ≤ 3145766 := by rw [ByteArray.size_append]; omega
      have k9 : ((((((((((ke ++ (⟨#[32]⟩ : ByteArray)) ++ stpT ti) ++ (⟨#[32, 99, 32]⟩ : ByteArray)) ++ me) ++ (⟨#[32]⟩ : ByteArray)) ++ decT st) ++ (⟨#[32]⟩ : ByteArray)) ++ la) ++ (⟨#[32, 45, 32]⟩ : ByteArray)) ++ decT se).size ≤ 3145781 := by rw [ByteArray.size_append]; omega
      have k10 : (((((((((((ke ++ (⟨#[32]⟩ : ByteArray)) ++ stpT ti) ++ (⟨#[32, 99, 32]⟩ : ByteArray)) ++ me) ++ (⟨#[32]⟩ : ByteArray)) ++ decT st) ++ (⟨#[32]⟩ : ByteArray)) ++ la) ++ (⟨#[32, 45, 32]⟩ : ByteArray)) ++ decT se) ++ (⟨#[32]⟩ : ByteArray)).size ≤ 3145782 := by rw [ByteArray.size_append]; omega
      have k11 : ((((((((((((ke ++ (⟨#[32]⟩ : ByteArray)) ++ stpT ti) ++ (⟨#[32, 99, 32]⟩ : ByteArray)) ++ me) ++ (⟨#[32]⟩ : ByteArray)) ++ decT st) ++ (⟨#[32]⟩ : ByteArray)) ++ la) ++ (⟨#[32, 45, 32]⟩ : ByteArray)) ++ decT se) ++ (⟨#[32]⟩ : ByteArray)) ++ decT wh).size ≤ 3145797 := by rw [ByteArray.size_append]; omega
      have k12 : (((((((((((((ke ++ (⟨#[32]⟩ : ByteArray)) ++ stpT ti) ++ (⟨#[32, 99, 32]⟩ : ByteArray)) ++ me) ++ (⟨#[32]⟩ : ByteArray)) ++ decT st) ++ (⟨#[32]⟩ : ByteArray)) ++ la) ++ (⟨#[32, 45, 32]⟩ : ByteArray)) ++ decT se) ++ (⟨#[32]⟩ : ByteArray)) ++ decT wh) ++ (⟨#[32]⟩ : ByteArray)).size ≤ 3145798 := by rw [ByteArray.size_append]; omega
      have k13 : ((((((((((((((ke ++ (⟨#[32]⟩ : ByteArray)) ++ stpT ti) ++ (⟨#[32, 99, 32]⟩ : ByteArray)) ++ me) ++ (⟨#[32]⟩ : ByteArray)) ++ decT st) ++ (⟨#[32]⟩ : ByteArray)) ++ la) ++ (⟨#[32, 45, 32]⟩ : ByteArray)) ++ decT se) ++ (⟨#[32]⟩ : ByteArray)) ++ decT wh) ++ (⟨#[32]⟩ : ByteArray)) ++ decT sz).size ≤ 3145813 := by rw [ByteArray.size_append]; omega
      go_enter Tryz.func36, Tryz.ntmps36
      go_wp2
      generalize hW : w.alloc (.cells #[.string ke, .int .i64 ti, .int .i64 si, .string me, .int .i64 st, .string la, .bool false, .int .i64 se, .int .i64 wh, .int .i64 sz] 26) = W at *
      clear hW
      obtain ⟨p0, p1, p2, p3, p4, p5, p6, p7, p8, p9⟩ := A1.c10
      have a0 := fun V => grw_some p0 V
      have a1 := fun V => grw_some p1 V
      have a2 := fun V => grw_some p2 V
      have a3 := fun V => grw_some p3 V
      have a4 := fun V => grw_some p4 V
      have a5 := fun V => grw_some p5 V
      have a6 := fun V => grw_some p6 V
      have a7 := fun V => grw_some p7 V
      have a8 := fun V => grw_some p8 V
      have a9 := fun V => grw_some p9 V
      clear p0 p1 p2 p3 p4 p5 p6 p7 p8 p9 A1
      refine wp_region_grow ?_ ?_ ?_
      · kernel_rfl
      · kernel_rfl
      · intro hne
        repeat (go_big_quiet_step (first
          | (go_at_call 64; exact grow_call (HS1.out _))
          | (go_at_call 65; exact grow_call (HD.out _ _))))
        refine wpQuiet_nil ?_
        rintro _ ⟨V, rfl⟩
        have HBV := hideB2 (below_then HB.out (grw_below W V))
        generalize grw W V = w3 at *
        go_wp2
        go_ret
        exact ⟨ret_str HR.out, HBV.out⟩
    · skip
      have HR := hideB2 (HE.out 99 114 (by unfold sdW; rw [if_neg hs]) rfl)
      have y1 : (⟨#[32, 99, 32]⟩ : ByteArray).size = 3 := rfl
      have y2 : (⟨#[32, 114, 32]⟩ : ByteArray).size = 3 := rfl
      clear HE
      have k0 : (ke ++ (⟨#[32]⟩ : ByteArray)).size ≤ 1048577 := by rw [ByteArray.size_append]; omega
      have k1 : ((ke ++ (⟨#[32]⟩ : ByteArray)) ++ stpT ti).size ≤ 1048591 := by rw [ByteArray.size_append]; omega
      have k2 : (((ke ++ (⟨#[32]⟩ : ByteArray)) ++ stpT ti) ++ (⟨#[32, 99, 32]⟩ : ByteArray)).size ≤ 1048594 := by rw [ByteArray.size_append]; omega
      have k3 : ((((ke ++ (⟨#[32]⟩ : ByteArray)) ++ stpT ti) ++ (⟨#[32, 99, 32]⟩ : ByteArray)) ++ me).size ≤ 2097170 := by rw [ByteArray.size_append]; omega
      have k4 : (((((ke ++ (⟨#[32]⟩ : ByteArray)) ++ stpT ti) ++ (⟨#[32, 99, 32]⟩ : ByteArray)) ++ me) ++ (⟨#[32]⟩ : ByteArray)).size ≤ 2097171 := by rw [ByteArray.size_append]; omega
      have k5 : ((((((ke ++ (⟨#[32]⟩ : ByteArray)) ++ stpT ti) ++ (⟨#[32, 99, 32]⟩ : ByteArray)) ++ me) ++ (⟨#[32]⟩ : ByteArray)) ++ decT st).size ≤ 2097186 := by rw [ByteArray.size_append]; omega
      have k6 : (((((((ke ++ (⟨#[32]⟩ : ByteArray)) ++ stpT ti) ++ (⟨#[32, 99, 32]⟩ : ByteArray)) ++ me) ++ (⟨#[32]⟩ : ByteArray)) ++ decT st) ++ (⟨#[32]⟩ : ByteArray)).size ≤ 2097187 := by rw [ByteArray.size_append]; omega
      have k7 : ((((((((ke ++ (⟨#[32]⟩ : ByteArray)) ++ stpT ti) ++ (⟨#[32, 99, 32]⟩ : ByteArray)) ++ me) ++ (⟨#[32]⟩ : ByteArray)) ++ decT st) ++ (⟨#[32]⟩ : ByteArray)) ++ la).size ≤ 3145763 := by rw [ByteArray.size_append]; omega
      have k8 : (((((((((ke ++ (⟨#[32]⟩ : ByteArray)) ++ stpT ti) ++ (⟨#[32, 99, 32]⟩ : ByteArray)) ++ me) ++ (⟨#[32]⟩ : ByteArray)) ++ decT st) ++ (⟨#[32]⟩ : ByteArray)) ++ la) ++ (⟨#[32, 114, 32]⟩ : ByteArray)).size ≤ 3145766 := by rw [ByteArray.size_append]; omega
      have k9 : ((((((((((ke ++ (⟨#[32]⟩ : ByteArray)) ++ stpT ti) ++ (⟨#[32, 99, 32]⟩ : ByteArray)) ++ me) ++ (⟨#[32]⟩ : ByteArray)) ++ decT st) ++ (⟨#[32]⟩ : ByteArray)) ++ la) ++ (⟨#[32, 114, 32]⟩ : ByteArray)) ++ decT se).size ≤ 3145781 := by rw [ByteArray.size_append]; omega
      have k10 : (((((((((((ke ++ (⟨#[32]⟩ : ByteArray)) ++ stpT ti) ++ (⟨#[32, 99, 32]⟩ : ByteArray)) ++ me) ++ (⟨#[32]⟩ : ByteArray)) ++ decT st) ++ (⟨#[32]⟩ : ByteArray)) ++ la) ++ (⟨#[32, 114, 32]⟩ : ByteArray)) ++ decT se) ++ (⟨#[32]⟩ : ByteArray)).size ≤ 3145782 := by rw [ByteArray.size_append]; omega
      have k11 : ((((((((((((ke ++ (⟨#[32]⟩ : ByteArray)) ++ stpT ti) ++ (⟨#[32, 99, 32]⟩ : ByteArray)) ++ me) ++ (⟨#[32]⟩ : ByteArray)) ++ decT st) ++ (⟨#[32]⟩ : ByteArray)) ++ la) ++ (⟨#[32, 114, 32]⟩ : ByteArray)) ++ decT se) ++ (⟨#[32]⟩ : ByteArray)) ++ decT wh).size ≤ 3145797 := by rw [ByteArray.size_append]; omega
      have k12 : (((((((((((((ke ++ (⟨#[32]⟩ : ByteArray)) ++ stpT ti) ++ (⟨#[32, 99, 32]⟩ : ByteArray)) ++ me) ++ (⟨#[32]⟩ : ByteArray)) ++ decT st) ++ (⟨#[32]⟩ : ByteArray)) ++ la) ++ (⟨#[32, 114, 32]⟩ : ByteArray)) ++ decT se) ++ (⟨#[32]⟩ : ByteArray)) ++ decT wh) ++ (⟨#[32]⟩ : ByteArray)).size ≤ 3145798 := by rw [ByteArray.size_append]; omega
      have k13 : ((((((((((((((ke ++ (⟨#[32]⟩ : ByteArray)) ++ stpT ti) ++ (⟨#[32, 99, 32]⟩ : ByteArray)) ++ me) ++ (⟨#[32]⟩ : ByteArray)) ++ decT st) ++ (⟨#[32]⟩ : ByteArray)) ++ la) ++ (⟨#[32, 114, 32]⟩ : ByteArray)) ++ decT se) ++ (⟨#[32]⟩ : ByteArray)) ++ decT wh) ++ (⟨#[32]⟩ : ByteArray)) ++ decT sz).size ≤ 3145813 := by rw [ByteArray.size_append]; omega
      go_enter Tryz.func36, Tryz.ntmps36
      go_wp2
      generalize hW : w.alloc (.cells #[.string ke, .int .i64 ti, .int .i64 si, .string me, .int .i64 st, .string la, .bool true, .int .i64 se, .int .i64 wh, .int .i64 sz] 26) = W at *
      clear hW
      obtain ⟨p0, p1, p2, p3, p4, p5, p6, p7, p8, p9⟩ := A1.c10
      have a0 := fun V => grw_some p0 V
      have a1 := fun V => grw_some p1 V
      have a2 := fun V => grw_some p2 V
      have a3 := fun V => grw_some p3 V
      have a4 := fun V => grw_some p4 V
      have a5 := fun V => grw_some p5 V
      have a6 := fun V => grw_some p6 V
      have a7 := fun V => grw_some p7 V
      have a8 := fun V => grw_some p8 V
      have a9 := fun V => grw_some p9 V
      clear p0 p1 p2 p3 p4 p5 p6 p7 p8 p9 A1
      refine wp_region_grow ?_ ?_ ?_
      · kernel_rfl
      · kernel_rfl
      · intro hne
        repeat (go_big_quiet_step (first
          | (go_at_call 64; exact grow_call (HS1.out _))
          | (go_at_call 65; exact grow_call (HD.out _ _))))
        refine wpQuiet_nil ?_
        rintro _ ⟨V, rfl⟩
        have HBV := hideB2 (below_then HB.out (grw_below W V))
        generalize grw W V = w3 at *
        go_wp2
        go_ret
        exact ⟨ret_str HR.out, HBV.out⟩
set_option maxRecDepth 100000 in
set_option maxHeartbeats 2000000 in
theorem sLineText_any (x : Lx) (w : World) (h1 : x.ke.size ≤ 1048576) (h2 : x.me.size ≤ 1048576) (h3 : x.la.size ≤ 1048576) :
    Calls Tryz.prog 12 #[lxV x] w fun e w' => e = .returned (.string (litB x)) ∧ Below w.heap.size w w' := by
  have HK := hideB2 (fun W => sLineOk_any x W h1 h2 h3)
  have HX := hideB2 (fun W => l9text_any x W h1 h2 h3)
  have B1 := Blk.new w (lxC x) 26
  have HB := hideB2 (below_a1 w (.cells (lxC x) 26))
  clear h1 h2 h3
  cases hq : linQ x
  · rw [litB_no hq]
    rw [hq] at HK
    clear hq
    obtain ⟨ke, ti, si, me, st, la, rv, se, wh, sz⟩ := x
    unfold lxV at *
    unfold lxC at *
    simp only at *
    go_enter Tryz.func12, Tryz.ntmps12
    go_wp2_with fail
    refine (HK.out _).mono ?_
    rintro e1 w1 ⟨rfl, hb1⟩
    have HB1 := hideB2 (below_then HB.out hb1)
    clear hb1 B1
    go_wp2
    go_ret
    exact ⟨rfl, HB1.out⟩
  · rw [litB_yes hq]
    rw [hq] at HK
    clear hq
    generalize joinS 32 (wdsX x) = R at *
    obtain ⟨ke, ti, si, me, st, la, rv, se, wh, sz⟩ := x
    unfold lxV at *
    unfold lxC at *
    simp only at *
    go_enter Tryz.func12, Tryz.ntmps12
    go_wp2_with fail
    refine (HK.out _).mono ?_
    rintro e1 w1 ⟨rfl, hb1⟩
    have B2 := B1.later hb1
    have HB1 := hideB2 (below_then HB.out hb1)
    obtain ⟨p0, p1, p2, p3, p4, p5, p6, p7, p8, p9⟩ := B2.c10
    clear hb1 B1 B2
    go_wp2_with fail
    refine (HX.out _).mono ?_
    rintro e2 w2 ⟨rfl, hb2⟩
    have HB2 := hideB2 (below_then HB1.out hb2)
    clear hb2 p0 p1 p2 p3 p4 p5 p6 p7 p8 p9
    go_wp2
    go_ret
    exact ⟨rfl, HB2.out⟩
end Go.Proofs.YtenjbgpndkodmabGreatDoor
namespace Go.Proofs.YtenjbgpndkodmabGreatDoor
set_option linter.unusedVariables false
set_option linter.unusedSimpArgs false
open Go.ChangeShapes Go.WideShapes Go.ChangeAt Go.RowKit

/-- A block's cells, laid anew. -/
def laidRow (cs : Array Value) : Obj → Obj
  | .cells _ t frozen => .cells cs t frozen
  | o => o
theorem laid_mem {P : Program} {w : World} : ∀ {l : List (String × DataW Unit)} {ps : List MemPlace}, DataW.LaidVars P w l ps → ∀ (n : String) (d : DataW Unit), (n, d) ∈ l →
    ∃ g t cs fuel p, P.globalNamed n = some g ∧ (P.globals[g]?).map (·.type) = some t ∧ w.var? P n = some cs ∧ DataW.trod (fun _ => ()) P w 0 (fun _ => true) false fuel t cs.toList = some (d, p)
  | [], _, _, n, d, hm => by simp at hm
  | (n0, d0) :: r, ps, h, n, d, hm => by
    obtain ⟨g, t, cs, fuel, p, q, h1, h2, h3, h4, h5, _⟩ := h
    rcases List.mem_cons.1 hm with e | e
    · cases e
      exact ⟨g, t, cs, fuel, p, h1, h2, h3, h4⟩
    · exact laid_mem h5 n d e
end Go.Proofs.YtenjbgpndkodmabGreatDoor
namespace Go.Proofs.YtenjbgpndkodmabGreatDoor
set_option linter.unusedVariables false
set_option linter.unusedSimpArgs false
open Go.ChangeShapes Go.WideShapes Go.ChangeAt Go.RowKit
theorem dectab_of_laid {W : World} {l : List (String × DataW Unit)} (hm : ("internal/strconv.uint64pow10", Rows.laid_internal_strconv_uint64pow10) ∈ l) (h : laidMet Tryz.prog l W) : Tab10 W := by
  obtain ⟨ps, hl, _⟩ := h
  obtain ⟨g, t, cs, fuel, p, h1, h2, h3, h4⟩ := laid_mem hl _ _ hm
  have hg : Tryz.prog.globalNamed "internal/strconv.uint64pow10" = some 2 := by kernel_rfl
  have ht : (Tryz.prog.globals[2]?).map (·.type) = some 148 := by kernel_rfl
  obtain rfl := Option.some.inj (hg.symm.trans h1)
  obtain rfl := Option.some.inj (ht.symm.trans h2)
  have hc := Lib.cells_of_tab (k := .u64) (zs := Lib.pow10Tab) Tryz.underlying148 Tryz.underlying132 (by kernel_rfl) (by kernel_rfl) h4
  unfold Tab10 Lib.TabIs
  rw [h3, ← hc]
end Go.Proofs.YtenjbgpndkodmabGreatDoor
namespace Go.Proofs.YtenjbgpndkodmabGreatDoor
set_option linter.unusedVariables false
set_option linter.unusedSimpArgs false
open Go.ChangeShapes Go.WideShapes Go.ChangeAt Go.RowKit

/-- A table of texts as a row lists it, and what its cells hold. -/
def stabData {H : Type} (zs : List (List UInt8)) : DataW H := .agg (zs.map fun z => .lit (.string z))
theorem cells_of_stab {H : Type} {enc : TypeId × Value → H} {P : Program} {w : World} {base : Nat} {sp : Nat → Bool} {held : Bool} {fuel : Nat} {t e : TypeId} {n : Nat} {cs : List Value} {zs : List (List UInt8)} {p : List MemPlace}
    (ht : P.underlying t = some (.array n e)) (he : P.underlying e = some .string) (hce : P.cellsOf e = 1) (hct : P.cellsOf t = n)
    (h : DataW.trod enc P w base sp held fuel t cs = some (stabData zs, p)) : cs = zs.map fun z => Value.string ⟨z.toArray⟩ := by
  cases fuel with
  | zero => simp [DataW.trod] at h
  | succ fuel =>
    simp only [DataW.trod, ht, hce, hct, Nat.mul_one] at h
    split at h
    · rename_i hl
      obtain ⟨xs, hm, hx⟩ := Option.map_eq_some_iff.1 h
      have hxs : xs.map (·.1) = zs.map fun z => (DataW.lit (.string z) : DataW H) := by
        have := congrArg Prod.fst hx
        simpa [stabData] using this
      have hxl : xs.length = n := by simpa using Lib.mapM_length hm
      have hzl : zs.length = n := by
        have := congrArg List.length hxs
        simp at this
        omega
      apply List.ext_getElem?
      intro i
      by_cases hi : i < n
      · obtain ⟨b, hb, hf⟩ := Lib.mapM_at hm i i (by simp [hi])
        obtain ⟨z, hc, rfl, _⟩ := DataW.trod_string he hf
        have h1 : cs[i]? = some (.string z) := by
          have := congrArg (·[0]?) hc
          simpa [List.getElem?_take, List.getElem?_drop] using this
        have h2 : (xs.map (·.1))[i]? = some (DataW.lit (.string z.data.toList) : DataW H) := by simp [hb]
        rw [hxs] at h2
        simp only [List.getElem?_map, Option.map_eq_some_iff, DataW.lit.injEq, Lit.string.injEq] at h2
        obtain ⟨z', hz', rfl⟩ := h2
        simp [h1, hz']
      · rw [List.getElem?_eq_none (by omega), List.getElem?_eq_none (by simp; omega)]
    · cases h
theorem trodVars_one' {H : Type} {enc : TypeId × Value → H} {P : Program} {w : World} {sp : Nat → Bool} {n : String} : ∀ {gs : List (DataW H)} {ps : List MemPlace}, DataW.TrodVars enc P w sp [n] gs ps → ∃ a, gs = [a]
  | [a], _, _ => ⟨a, rfl⟩
  | [], _, h => h.elim
  | _ :: _ :: _, _, h => by obtain ⟨_, _, _, _, _, _, _, _, _, _, h, _⟩ := h; exact h.elim
theorem trodVars_three' {H : Type} {enc : TypeId × Value → H} {P : Program} {w : World} {sp : Nat → Bool} {n0 n1 n2 : String} : ∀ {gs : List (DataW H)} {ps : List MemPlace}, DataW.TrodVars enc P w sp [n0, n1, n2] gs ps → ∃ a b c, gs = [a, b, c]
  | [a, b, c], _, _ => ⟨a, b, c, rfl⟩
  | [], _, h => h.elim
  | [_], _, h => by obtain ⟨_, _, _, _, _, _, _, _, _, _, h, _⟩ := h; exact h.elim
  | [_, _], _, h => by
    obtain ⟨_, _, _, _, _, _, _, _, _, _, h, _⟩ := h
    obtain ⟨_, _, _, _, _, _, _, _, _, _, h, _⟩ := h
    exact h.elim
  | _ :: _ :: _ :: _ :: _, _, h => by
    obtain ⟨_, _, _, _, _, _, _, _, _, _, h, _⟩ := h
    obtain ⟨_, _, _, _, _, _, _, _, _, _, h, _⟩ := h
    obtain ⟨_, _, _, _, _, _, _, _, _, _, h, _⟩ := h
    exact h.elim

theorem array6 {α : Type} {cs : Array α} (h : cs.size = 6) : ∃ c0 c1 c2 c3 c4 c5, cs = #[c0, c1, c2, c3, c4, c5] := by
  obtain ⟨l⟩ := cs
  match l, h with
  | [c0, c1, c2, c3, c4, c5], _ => exact ⟨c0, c1, c2, c3, c4, c5, rfl⟩
/-- A struct of six ints, by value, opened. -/
theorem open_civ {H : Type} {enc : TypeId × Value → H} {P : Program} {w : World} {base : Nat} {spare : Nat → Bool} {held : Bool} {r : Reach} {b0 : Nat} {t : TypeId} {f0 f1 f2 f3 f4 f5 : Field} {v : Value} {d : DataW H} {p : List MemPlace}
    (hs : P.underlying t = some (.struct #[f0, f1, f2, f3, f4, f5])) (hone : Go.Deep.oneCellFields P #[f0, f1, f2, f3, f4, f5] = true) (hC : P.cellsOf t = 6)
    (e0 : P.underlying f0.type = some (.int .i64)) (e1 : P.underlying f1.type = some (.int .i64)) (e2 : P.underlying f2.type = some (.int .i64)) (e3 : P.underlying f3.type = some (.int .i64)) (e4 : P.underlying f4.type = some (.int .i64)) (e5 : P.underlying f5.type = some (.int .i64))
    (hv : Value.okWide P w r b0 t v) (h : DataW.Trod enc P w base spare held t v d p) :
    ∃ a b c d e f : Int, v = civ a b c d e f ∧ (Lit.int .i64 a).wf = true ∧ (Lit.int .i64 b).wf = true ∧ (Lit.int .i64 c).wf = true ∧ (Lit.int .i64 d).wf = true ∧ (Lit.int .i64 e).wf = true ∧ (Lit.int .i64 f).wf = true := by
  obtain ⟨cs, rfl, hsz⟩ := okWide_struct hs hv
  obtain ⟨c0, c1, c2, c3, c4, c5, rfl⟩ := array6 (hsz.trans hC)
  obtain ⟨fuel, hf⟩ := h
  obtain ⟨xs, n, _, _, hl, hlen, hf⟩ := DataW.trod_struct hs hf
  obtain ⟨o0, k0⟩ := Go.Deep.hone_of hone 0 f0 rfl
  obtain ⟨o1, k1⟩ := Go.Deep.hone_of hone 1 f1 rfl
  obtain ⟨o2, k2⟩ := Go.Deep.hone_of hone 2 f2 rfl
  obtain ⟨o3, k3⟩ := Go.Deep.hone_of hone 3 f3 rfl
  obtain ⟨o4, k4⟩ := Go.Deep.hone_of hone 4 f4 rfl
  obtain ⟨o5, k5⟩ := Go.Deep.hone_of hone 5 f5 rfl
  have one : ∀ {ty : TypeId} {c : Value} {x : Option (DataW H × List MemPlace)}, P.underlying ty = some (.int .i64) → x.isSome = true → DataW.trod enc P w base spare held n ty [c] = x → ∃ z : Int, c = .int .i64 z ∧ (Lit.int .i64 z).wf = true := by
    intro ty c x hu hx ht
    obtain ⟨y, hy⟩ := Option.isSome_iff_exists.1 hx
    rw [hy] at ht
    obtain ⟨z, hz, _, hw⟩ := DataW.trod_int hu ht
    exact ⟨z, by simpa using hz, hw⟩
  have g : ∀ j, j < 6 → (xs[j]?).isSome = true := by
    intro j hj
    have : xs.length = 6 := by simpa using hlen
    rw [List.getElem?_eq_getElem (by omega)]; rfl
  obtain ⟨a, rfl, wa⟩ := one e0 (g 0 (by omega)) (by simpa [Value.cells, o0, k0] using hf 0 f0 rfl)
  obtain ⟨b, rfl, wb⟩ := one e1 (g 1 (by omega)) (by simpa [Value.cells, o1, k1] using hf 1 f1 rfl)
  obtain ⟨c, rfl, wc⟩ := one e2 (g 2 (by omega)) (by simpa [Value.cells, o2, k2] using hf 2 f2 rfl)
  obtain ⟨d', rfl, wd⟩ := one e3 (g 3 (by omega)) (by simpa [Value.cells, o3, k3] using hf 3 f3 rfl)
  obtain ⟨e, rfl, we⟩ := one e4 (g 4 (by omega)) (by simpa [Value.cells, o4, k4] using hf 4 f4 rfl)
  obtain ⟨f, rfl, wf⟩ := one e5 (g 5 (by omega)) (by simpa [Value.cells, o5, k5] using hf 5 f5 rfl)
  exact ⟨a, b, c, d', e, f, rfl, wa, wb, wc, wd, we, wf⟩
theorem montab_of_laid {W : World} {l : List (String × DataW Unit)} (hm : ("loop.example/g00651/impl.monthLengths", Rows.laid_loop_example_g00651_impl_monthLengths) ∈ l) (h : laidMet Tryz.prog l W) : MonTab W := by
  obtain ⟨ps, hl, _⟩ := h
  obtain ⟨g, t, cs, fuel, p, h1, h2, h3, h4⟩ := laid_mem hl _ _ hm
  have hg : Tryz.prog.globalNamed "loop.example/g00651/impl.monthLengths" = some 0 := by kernel_rfl
  have ht : (Tryz.prog.globals[0]?).map (·.type) = some 116 := by kernel_rfl
  obtain rfl := Option.some.inj (hg.symm.trans h1)
  obtain rfl := Option.some.inj (ht.symm.trans h2)
  have hc := Lib.cells_of_tab (k := .i64) (zs := [0, 31, 28, 31, 30, 31, 30, 31, 31, 30, 31, 30, 31]) Tryz.underlying116 Tryz.underlying3 (by kernel_rfl) (by kernel_rfl) h4
  have hT : Lib.TabIs Tryz.prog W "loop.example/g00651/impl.monthLengths" .i64 [0, 31, 28, 31, 30, 31, 30, 31, 31, 30, 31, 30, 31] := by
    unfold Lib.TabIs
    rw [h3, ← hc]
  intro k hk
  exact hT.cell hg k hk
end Go.Proofs.YtenjbgpndkodmabGreatDoor
